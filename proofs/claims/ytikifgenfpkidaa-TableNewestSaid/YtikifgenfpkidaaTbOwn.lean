/-
  No statement: twin and own of package table: a row in new memory.
-/
import Derived.Test.YtikifgenfpkidaaTbTwA
import Derived.Test.YtikifgenfpkidaaTbRead
import Derived.Test.YtikifgenfpkidaaTbClone
namespace Go.Proofs.Ytikifgenfpkidaa
open Go.RowKit

theorem setCell_back {w : World} {a : Addr} {v : Value} (h : w.cell? a = some v) : w.setCell a v = w := by
  unfold World.setCell
  have : w.heap.modify a.block (fun x => match x with
      | .cells c elem frozen => .cells (if a.spot.isSome then c else c.setIfInBounds a.off v) elem frozen
      | o => o) = w.heap := by
    apply Array.ext
    · simp
    · intro i h1 h2
      rw [Array.getElem_modify]
      split
      · rename_i e
        subst e
        unfold World.cell? at h
        rw [Array.getElem?_eq_getElem h2] at h
        cases ho : w.heap[a.block] with
        | cells c t f =>
          rw [ho] at h
          simp only at h ⊢
          by_cases hs : a.spot.isSome = true
          · rw [if_pos hs]
          · rw [if_neg hs] at h ⊢
            congr 1
            apply Array.ext
            · simp
            · intro j k1 k2
              rw [Array.getElem_setIfInBounds]
              split
              · rename_i e
                subst e
                rw [Array.getElem?_eq_getElem k2] at h
                cases h; rfl
              · rfl
        | _ => rfl
      · rfl
  exact congrArg (fun h => ({ w with heap := h } : World)) this

/-- A row that may be made anew. -/
def FineR (x : RD) : Prop := x.len ≤ 1000 ∧ (∀ j, j < x.len → (x.A j).len ≤ 1000000) ∧ RiseA x.A x.len

/-- The data of a row that is made anew. -/
def twR (x : RD) : RD := { x with A := twF x.A }

/-- A row made anew. -/
def TwRPost (w : World) (x : RD) (e : Ending) (w' : World) : Prop :=
  (∃ b d, e = .returned (rowV (twR x) b d) ∧ ReadsAG (fun k => w.heap.size ≤ k) w' b x.len (twF x.A) ∧ FreeA w' b ∧ ∀ q, b = some q → w.heap.size ≤ q.block) ∧ Below w.heap.size w w'

theorem six_kept (W : World) (B : Nat) (v0 v1 v2 v3 v4 v5 : Value) : Kept (fun k => k = B) W ((((((W.setCell ⟨B, 0, none⟩ v0).setCell ⟨B, 1, none⟩ v1).setCell ⟨B, 2, none⟩ v2).setCell ⟨B, 3, none⟩ v3).setCell ⟨B, 4, none⟩ v4).setCell ⟨B, 5, none⟩ v5) :=
  ((((((Kept.refl (fun k => k = B) W).setCell (S := fun k => k = B) (p := ⟨B, 0, none⟩) (.inl rfl) v0).setCell (S := fun k => k = B) (p := ⟨B, 1, none⟩) (.inl rfl) v1).setCell (S := fun k => k = B) (p := ⟨B, 2, none⟩) (.inl rfl) v2).setCell (S := fun k => k = B) (p := ⟨B, 3, none⟩) (.inl rfl) v3).setCell (S := fun k => k = B) (p := ⟨B, 4, none⟩) (.inl rfl) v4).setCell (S := fun k => k = B) (p := ⟨B, 5, none⟩) (.inl rfl) v5

theorem two_boxes6 (w : World) (o1 o2 : Obj) : Below w.heap.size w ((w.alloc o1).alloc o2) ∧ ((w.alloc o1).alloc o2).heap[w.heap.size]? = some o1 ∧ ((w.alloc o1).alloc o2).heap[w.heap.size + 1]? = some o2 ∧ ((w.alloc o1).alloc o2).heap.size = w.heap.size + 2 := two_boxes w o1 o2

set_option maxRecDepth 100000 in
set_option maxHeartbeats 4000000 in
theorem twinRow_any (x : RD) (a : Option Addr) (c : Nat) (hf : FineR x) (w : World) (h : ReadsA w a x.len x.A) :
    Calls Try.prog 41 #[rowV x a c] w (TwRPost w x) := by
  obtain ⟨hn, hl, hR⟩ := hf
  have TW := Lib.hid (fun w' hb => twinAttrs_any a x.len c x.A hn hl hR w' (h.kept (w' := w') hb))
  obtain ⟨key, t, i, q, o, n, A⟩ := x
  simp only at *
  unfold rowV
  simp only
  have P := Lib.hid (p := ∀ w' b d, ReadsAG (fun k => w.heap.size ≤ k) w' b n (twF A) → FreeA w' b → (∀ q, b = some q → w.heap.size ≤ q.block) → Below w.heap.size w w' → TwRPost w ⟨key, t, i, q, o, n, A⟩ (.returned (.agg #[.string key, .int .i64 t, .int .i64 i, .int .i64 q, .string o, .slice b n d])) w') (fun w' b d h1 h2 h3 h4 => ⟨⟨b, d, rfl, h1, h2, h3⟩, h4⟩)
  clear hn hl hR h
  go_enter Try.func41, Try.ntmps41
  go_upto_region 1 with fail
  generalize hW : World.alloc (World.alloc w _) _ = W
  obtain ⟨hb, h0, h1, hs⟩ := two_boxes6 w (.cells #[.string key, .int .i64 t, .int .i64 i, .int .i64 q, .string o, .slice a n c] 39) (.cells #[.string ⟨#[]⟩, .int .i64 0, .int .i64 0, .int .i64 0, .string ⟨#[]⟩, .slice none 0 0] 39)
  rw [hW] at hb h0 h1 hs
  clear hW
  obtain ⟨⟨x0, x1, x2, x3, x4, x5⟩, -⟩ := six h0
  have HX := Lib.hid (And.intro hb (And.intro h0 h1))
  have HS := Lib.hid hs
  clear hb h0 h1 hs
  go_wp2_with fail
  refine (TW.out W HX.out.1).mono ?_
  rintro e w1 ⟨⟨b, d, rfl, hr, hf, hq⟩, hb⟩
  have hs1 := hb.size
  have hs0 := HS.out
  have g0 := (hb.block w.heap.size (by omega)).trans HX.out.2.1
  have g1 := (hb.block (w.heap.size + 1) (by omega)).trans HX.out.2.2
  have H1 := Lib.hid (And.intro (And.intro hr hf) (And.intro hq (HX.out.1.trans (hb.mono (by omega)))))
  have G1 := Lib.hid g1
  clear x0 x1 x2 x3 x4 x5 hr hf hq hb TW
  obtain ⟨⟨x0, x1, x2, x3, x4, x5⟩, ⟨z0, z1, z2, z3, z4, z5⟩⟩ := six g0
  have G0 := Lib.hid g0
  clear g0 g1
  go_upto_region 2 with fail
  have k2 : Kept (fun k => k = w.heap.size) w1 (w1.setCell ⟨w.heap.size, 5, none⟩ (.slice b n d)) := (Kept.refl _ w1).setCell (S := fun k => k = w.heap.size) (p := ⟨w.heap.size, 5, none⟩) (.inl rfl) _
  have g0' : (w1.setCell ⟨w.heap.size, 5, none⟩ (.slice b n d)).heap[w.heap.size]? = some (.cells #[.string key, .int .i64 t, .int .i64 i, .int .i64 q, .string o, .slice b n d] 39 (0, 0)) := by
    rw [heap_setCell_same _ _ 5 _ _ _ G0.out]; rfl
  generalize World.setCell w1 (⟨w.heap.size, 5, none⟩ : Addr) _ = V at k2 g0' ⊢
  have g1' := k2.heap G1.out (by omega)
  clear x0 x1 x2 x3 x4 x5 z0 z1 z2 z3 z4 z5
  obtain ⟨⟨x0, x1, x2, x3, x4, x5⟩, -⟩ := six g0'
  obtain ⟨⟨y0, y1, y2, y3, y4, y5⟩, ⟨z0, z1, z2, z3, z4, z5⟩⟩ := six g1'
  have K2 := Lib.hid (And.intro k2 g1')
  clear k2 g0' g1'
  go_wp2_with fail
  clear x0 x1 x2 x3 x4 x5 y0 y1 y2 y3 y4 y5 z0 z1 z2 z3 z4 z5
  have h6 := six_set K2.out.2 (.string key) (.int .i64 t) (.int .i64 i) (.int .i64 q) (.string o) (.slice b n d)
  have k6 := six_kept V (w.heap.size + 1) (.string key) (.int .i64 t) (.int .i64 i) (.int .i64 q) (.string o) (.slice b n d)
  generalize World.setCell _ (⟨w.heap.size + 1, 5, none⟩ : Addr) _ = W6 at h6 k6 ⊢
  have kk : Kept (fun k => k = w.heap.size ∨ k = w.heap.size + 1) w1 W6 := (K2.out.1.mono (T := fun k => k = w.heap.size ∨ k = w.heap.size + 1) (fun _ h _ => .inl h)).trans k6 (fun _ h _ => .inr h)
  have Q := Lib.hid (P.out W6 b d ((H1.out.1.1.kept kk (fun k h1 h2 => by omega)).mono (fun k h _ => by omega)) (H1.out.1.2.kept kk (fun q hq h2 => by have := H1.out.2.1 q hq; omega)) (fun q hq => by have := H1.out.2.1 q hq; omega) (H1.out.2.2.trans (kk.below (fun k h => by omega) (by omega))))
  obtain ⟨⟨y0, y1, y2, y3, y4, y5⟩, -⟩ := six h6
  clear h6 k6 kk
  exact bodyPost_ret (v := .agg #[.string key, .int .i64 t, .int .i64 i, .int .i64 q, .string o, .slice b n d]) (by simp [results, Try.results41, go_sem, y0, y1, y2, y3, y4, y5]) rfl Q.out

theorem drewB (w : World) : Below w.heap.size w w.drew := ⟨rfl, rfl, rfl, Nat.le_refl _, fun _ _ => rfl⟩
theorem drewT {w w' : World} (h : Below w.drew.heap.size w.drew w') : Below w.heap.size w w' := (drewB w).trans h

/-- Texts that are short. -/
def SmallR (x : RD) : Prop := x.key.size ≤ 1000 ∧ x.o.size ≤ 1000 ∧ ∀ j, j < x.len → (x.A j).m.size ≤ 1000 ∧ (x.A j).s.size ≤ 1000

theorem twS_small {k : Int} {s : ByteArray} (h : s.size ≤ 1000) : (twS k s).size ≤ 1000 := by
  unfold twS; split
  · exact h
  · show (0 : Nat) ≤ 1000; omega

/-- What own keeps while it goes. -/
def OwnS (w wr : World) (row zero : Obj) (b : Option Addr) (n : Nat) (A : Nat → AD) : Prop :=
  Below w.heap.size w wr ∧ wr.heap[w.heap.size]? = some row ∧ wr.heap[w.heap.size + 1]? = some zero ∧ ReadsAG (fun k => w.heap.size + 2 ≤ k) wr b n (twF A) ∧ FreeA wr b

theorem OwnS.below {w wr w' : World} {row zero : Obj} {b : Option Addr} {n : Nat} {A : Nat → AD} (h : OwnS w wr row zero b n A) (hb : Below wr.heap.size wr w') : OwnS w w' row zero b n A := by
  obtain ⟨h1, h2, h3, h4, h5⟩ := h
  refine ⟨h1.trans (hb.mono h1.size), (hb.block _ (lt_of_block h2)).trans h2, (hb.block _ (lt_of_block h3)).trans h3, h4.kept (keptNew hb) (fun _ _ h => h), h5.kept (keptNew hb) (fun _ _ h => h)⟩

set_option maxRecDepth 100000 in
set_option maxHeartbeats 8000000 in
theorem own_any (x : RD) (a : Option Addr) (c : Nat) (hf : FineR x) (hsm : SmallR x) (w : World) (h : ReadsA w a x.len x.A) :
    Calls Try.prog 39 #[rowV x a c] w (TwRPost w x) := by
  have TW := Lib.hid (fun w' hb => twinRow_any x a c hf w' (h.kept (w' := w') hb))
  obtain ⟨key, t, i, q, o, n, A⟩ := x
  obtain ⟨hk, ho, hA⟩ := hsm
  simp only at *
  unfold rowV at TW ⊢
  simp only at TW ⊢
  have P := Lib.hid (p := ∀ w' b d, ReadsAG (fun k => w.heap.size ≤ k) w' b n (twF A) → FreeA w' b → (∀ q, b = some q → w.heap.size ≤ q.block) → Below w.heap.size w w' → TwRPost w ⟨key, t, i, q, o, n, A⟩ (.returned (.agg #[.string key, .int .i64 t, .int .i64 i, .int .i64 q, .string o, .slice b n d])) w') (fun w' b d h1 h2 h3 h4 => ⟨⟨b, d, rfl, h1, h2, h3⟩, h4⟩)
  have HA := Lib.hid (p := ∀ j, j < n → (twF A j).m.size ≤ 1000000 ∧ (twF A j).s.size ≤ 1000000) (fun j hj => ⟨Nat.le_trans (hA j hj).1 (by omega), Nat.le_trans (twS_small (hA j hj).2) (by omega)⟩)
  have CK := Lib.hid (fun w' => cloneStr_any key w' (by omega))
  have CO := Lib.hid (fun w' => cloneStr_any o w' (by omega))
  have hn : n ≤ 1000 := hf.1
  clear hf hk ho hA h
  go_enter Try.func39, Try.ntmps39
  go_upto_region 1 with fail
  generalize hW : World.alloc (World.alloc w _) _ = W
  obtain ⟨hb, h0, h1, hs⟩ := two_boxes6 w (.cells #[.string key, .int .i64 t, .int .i64 i, .int .i64 q, .string o, .slice a n c] 39) (.cells #[.string ⟨#[]⟩, .int .i64 0, .int .i64 0, .int .i64 0, .string ⟨#[]⟩, .slice none 0 0] 39)
  rw [hW] at hb h0 h1 hs
  clear hW
  obtain ⟨⟨x0, x1, x2, x3, x4, x5⟩, -⟩ := six h0
  have HX := Lib.hid (And.intro hb (And.intro h0 h1))
  have HS := Lib.hid hs
  clear hb h0 h1 hs
  go_wp2_with fail
  refine (TW.out W HX.out.1).mono ?_
  rintro e w1 ⟨⟨b, d, he, hr, hf, hq⟩, hb⟩
  obtain rfl : e = .returned (.agg #[.string key, .int .i64 t, .int .i64 i, .int .i64 q, .string o, .slice b n d]) := he
  have hs1 := hb.size
  have hs0 := HS.out
  have g0 := (hb.block w.heap.size (by omega)).trans HX.out.2.1
  have g1 := (hb.block (w.heap.size + 1) (by omega)).trans HX.out.2.2
  have H1 := Lib.hid (And.intro (And.intro hr hf) (And.intro hq (HX.out.1.trans (hb.mono (by omega)))))
  have G1 := Lib.hid g1
  clear x0 x1 x2 x3 x4 x5 hr hf hq hb TW
  obtain ⟨⟨x0, x1, x2, x3, x4, x5⟩, ⟨z0, z1, z2, z3, z4, z5⟩⟩ := six g0
  have G0 := Lib.hid g0
  clear g0 g1
  go_upto_region 2 with fail
  have g0' := six_set G0.out (.string key) (.int .i64 t) (.int .i64 i) (.int .i64 q) (.string o) (.slice b n d)
  have k2 := six_kept w1 w.heap.size (.string key) (.int .i64 t) (.int .i64 i) (.int .i64 q) (.string o) (.slice b n d)
  generalize World.setCell _ (⟨w.heap.size, 5, none⟩ : Addr) _ = V at g0' k2 ⊢
  have hbq := H1.out.2.1
  have S2 : Hid (OwnS w V (.cells #[.string key, .int .i64 t, .int .i64 i, .int .i64 q, .string o, .slice b n d] 39) (.cells #[.string ⟨#[]⟩, .int .i64 0, .int .i64 0, .int .i64 0, .string ⟨#[]⟩, .slice none 0 0] 39) b n A) :=
    Lib.hid ⟨H1.out.2.2.trans (k2.below (fun k h => by omega) (by omega)), g0', k2.heap G1.out (by omega), (H1.out.1.1.kept k2 (fun k h1 h2 => by omega)).mono (fun k h _ => by omega), H1.out.1.2.kept k2 (fun q hq h2 => by have := hbq q hq; omega)⟩
  clear x0 x1 x2 x3 x4 x5 z0 z1 z2 z3 z4 z5 k2 hs1 G0 G1
  obtain ⟨⟨x0, x1, x2, x3, x4, x5⟩, -⟩ := six g0'
  clear g0'
  go_wp2_with fail
  refine (CK.out V).mono ?_
  rintro e w3 ⟨rfl, hb⟩
  have S3 := Lib.hid (S2.out.below hb)
  clear x0 x1 x2 x3 x4 x5 hb S2
  obtain ⟨⟨x0, x1, x2, x3, x4, x5⟩, ⟨z0, z1, z2, z3, z4, z5⟩⟩ := six S3.out.2.1
  go_upto_region 3 with fail
  rw [setCell_back x0]
  go_wp2_with fail
  refine (CO.out w3).mono ?_
  rintro e w4 ⟨rfl, hb⟩
  have S4 := Lib.hid (S3.out.below hb)
  clear x0 x1 x2 x3 x4 x5 z0 z1 z2 z3 z4 z5 hb S3
  obtain ⟨⟨x0, x1, x2, x3, x4, x5⟩, ⟨z0, z1, z2, z3, z4, z5⟩⟩ := six S4.out.2.1
  go_upto_region 4 with fail
  rw [setCell_back x4]
  go_wp2_with fail
  clear x0 x1 x2 x3 x4 x5 z0 z1 z2 z3 z4 z5 CK CO HX H1
  go_loopw [20] (fun iv wr => ∃ k : Nat, iv = .int .i64 k ∧ k ≤ n ∧ Hid (OwnS w wr (.cells #[.string key, .int .i64 t, .int .i64 i, .int .i64 q, .string o, .slice b n d] 39) (.cells #[.string ⟨#[]⟩, .int .i64 0, .int .i64 0, .int .i64 0, .string ⟨#[]⟩, .slice none 0 0] 39) b n A)) (fun iv _ => n - (intOf iv).toNat)
  case atStart => exact ⟨0, rfl, Nat.zero_le _, S4⟩
  case round =>
    obtain ⟨k, rfl, hk, S5⟩ := hrel
    clear S4
    by_cases hlt : k < n
    · obtain ⟨⟨g, off⟩, rfl⟩ : ∃ p : Nat × Nat, b = some ⟨p.1, p.2, none⟩ := by
        obtain ⟨b', off', e, _⟩ := S5.out.2.2.2.1.2.resolve_left (by omega)
        exact ⟨(b', off'), e⟩
      simp only at *
      obtain ⟨hm, hs⟩ := HA.out k hlt
      have CC := Lib.hid (p := ∀ w', ReadsAG (fun k => w.heap.size + 2 ≤ k) w' (some ⟨g, off, none⟩) n (twF A) → ∃ y cy, Cells5 w' g (off + k * 5) (twF A k) y cy) (fun w' h => by
        obtain ⟨b', off', e, hg, hc⟩ := h.2.resolve_left (by omega)
        simp only [Option.some.injEq, Addr.mk.injEq, and_true] at e
        obtain ⟨rfl, rfl⟩ := e
        obtain ⟨y, cy, h5, _⟩ := hc k hlt
        exact ⟨y, cy, h5⟩)
      obtain ⟨v, hv⟩ : ∃ v, twF A k = v := ⟨_, rfl⟩
      rw [hv] at hm hs CC
      obtain ⟨y, cy, e0, e1, e2, e3, e4⟩ := CC.out wr S5.out.2.2.2.1
      clear hv
      go_upto_region 7 with fail
      generalize hV : World.alloc wr _ = V2
      have hVb : Below wr.heap.size wr V2 := by rw [← hV]; exact (Below.refl _ _).alloc (Nat.le_refl _) _
      have hV5 : V2.heap[wr.heap.size]? = some (.cells #[.string v.m, .int .i64 v.k, .int .i64 v.n, .string v.s, .slice y v.len cy] 92 (0, 0)) := by rw [← hV]; exact heap_alloc_new wr _
      have S6 := Lib.hid (S5.out.below hVb)
      have V6 := Lib.hid hV5
      clear hV hVb hV5 e0 e1 e2 e3 e4
      obtain ⟨⟨x0, x1, x2, x3, x4, x5⟩, -⟩ := six S6.out.2.1
      obtain ⟨⟨a0, a1, a2, a3, a4⟩, -⟩ := five V6.out
      obtain ⟨_, _, e0, -, -, e3, -⟩ := CC.out V2 S6.out.2.2.2.1
      have FZ := Lib.hid (p := ∀ w', FreeA w' (some ⟨g, off, none⟩) → ∀ i, w'.frozen? ⟨g, i, none⟩ = false) (fun w' h i => by
        obtain ⟨cur, t', hg⟩ := h _ rfl
        exact frozen_of_row w' g i cur _ hg)
      have z0 := FZ.out V2 S6.out.2.2.2.2 (off + k * 5)
      clear x0 x1 x2 x3 x4 a1 a2 a3 a4 S5
      go_region_with (first
        | (go_at_call 61
           refine (cloneStr_any _ _ hm).mono ?_
           rintro e w5 ⟨rfl, hb5'⟩
           have hb5 := drewT hb5'
           have S7 := Lib.hid (S6.out.below hb5)
           have V7 := Lib.hid ((hb5.block _ (lt_of_block V6.out)).trans V6.out)
           obtain ⟨⟨-, -, -, -, -, x5'⟩, -⟩ := six S7.out.2.1
           obtain ⟨_, _, e0', -, -, -, -⟩ := CC.out w5 S7.out.2.2.2.1
           have z0' := FZ.out w5 S7.out.2.2.2.2 (off + k * 5)
           clear hb5 hb5')
        | fail)
      all_goals
        rw [setCell_back e0']
        clear x5 e0 e3 z0 a0 x5' e0' z0'
        obtain ⟨⟨x0, x1, x2, x3, x4, x5⟩, -⟩ := six S7.out.2.1
        obtain ⟨⟨a0, a1, a2, a3, a4⟩, -⟩ := five V7.out
        obtain ⟨_, _, e0, -, -, e3, -⟩ := CC.out w5 S7.out.2.2.2.1
        have z0 := FZ.out w5 S7.out.2.2.2.2 (off + k * 5 + 3)
        clear x0 x1 x2 x3 x4 a0 a1 a2 a4 e0 S6 V6
        go_wp2_with fail
        go_region_with (first
          | (go_at_call 61
             refine (cloneStr_any _ _ hs).mono ?_
             rintro e w6 ⟨rfl, hb5'⟩
             have hb5 := drewT hb5'
             have S8 := Lib.hid (S7.out.below hb5)
             obtain ⟨⟨-, -, -, -, -, x5'⟩, -⟩ := six S8.out.2.1
             obtain ⟨_, _, -, -, -, e3', -⟩ := CC.out w6 S8.out.2.2.2.1
             have z0' := FZ.out w6 S8.out.2.2.2.2 (off + k * 5 + 3)
             clear hb5 hb5')
          | fail)
        all_goals
          rw [setCell_back e3']
          clear x5 e3 z0 a3 x5' e3' z0' S7 V7
          go_wp2_with fail
          go_roundw
          case rel => exact ⟨k + 1, by go_num, by omega, S8⟩
          case measure => simp [intOf]; omega
    · obtain rfl : k = n := by omega
      obtain ⟨⟨x0, x1, x2, x3, x4, x5⟩, -⟩ := six S5.out.2.1
      obtain ⟨⟨y0, y1, y2, y3, y4, y5⟩, ⟨z0, z1, z2, z3, z4, z5⟩⟩ := six S5.out.2.2.1
      go_wp2_with fail
      clear x0 x1 x2 x3 x4 x5 y0 y1 y2 y3 y4 y5 z0 z1 z2 z3 z4 z5
      have h6 := six_set S5.out.2.2.1 (.string key) (.int .i64 t) (.int .i64 i) (.int .i64 q) (.string o) (.slice b k d)
      have k6 := six_kept wr (w.heap.size + 1) (.string key) (.int .i64 t) (.int .i64 i) (.int .i64 q) (.string o) (.slice b k d)
      generalize World.setCell _ (⟨w.heap.size + 1, 5, none⟩ : Addr) _ = W6 at h6 k6 ⊢
      have Q := Lib.hid (P.out W6 b d ((S5.out.2.2.2.1.kept k6 (fun k h1 h2 => by omega)).mono (fun k h _ => by omega)) (S5.out.2.2.2.2.kept k6 (fun q hq h2 => by have := hbq q hq; omega)) (fun q hq => by have := hbq q hq; omega) (S5.out.1.trans (k6.below (fun k h => by omega) (by have := S5.out.1.size; omega))))
      obtain ⟨⟨y0, y1, y2, y3, y4, y5⟩, -⟩ := six h6
      clear h6 k6
      exact bodyPost_ret (v := .agg #[.string key, .int .i64 t, .int .i64 i, .int .i64 q, .string o, .slice b k d]) (by simp [results, Try.results39, go_sem, y0, y1, y2, y3, y4, y5]) rfl Q.out

end Go.Proofs.Ytikifgenfpkidaa
