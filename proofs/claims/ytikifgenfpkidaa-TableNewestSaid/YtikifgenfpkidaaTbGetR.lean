/-
  No statement: Get, Drop, New of package table.
-/
import Derived.Test.YtikifgenfpkidaaTbPut
import Derived.Test.YtikifgenfpkidaaTbRows
set_option linter.unusedVariables false
set_option linter.unusedSimpArgs false
namespace Go.Proofs.Ytikifgenfpkidaa
open Go.RowKit

theorem getZ_fix {L : List RD} (hF : Fix L) (k : ByteArray) (h : isT L k = true) : FineR (getZ L k) ∧ twR (getZ L k) = getZ L k := by
  unfold getZ isT at *
  cases hg : getT L k with
  | none => rw [hg] at h; cases h
  | some x => exact hF x (getT_some hg).1
theorem getZ_no {L : List RD} {k : ByteArray} (h : isT L k = false) : getZ L k = zeroR := by
  unfold getZ isT at *
  cases hg : getT L k with
  | none => rfl
  | some x => rw [hg] at h; cases h

set_option maxRecDepth 100000 in
set_option maxHeartbeats 4000000 in
theorem get_any (w : World) (p : Nat) (most : Int) (F X : Nat → Prop) (L : List RD) (k : ByteArray) (hn : L.length ≤ 1000) (hF : Fix L) (h : Tab w p most F X L) :
    Calls Try.prog 16 #[.pointer (some ⟨p, 0, none⟩), .string k] w fun e w' => (∃ b d, e = .returned (.tuple #[rowV (getZ L k) b d, .bool (isT L k)]) ∧ ReadsAG (fun q => w.heap.size ≤ q) w' b (getZ L k).len (getZ L k).A) ∧ Below w.heap.size w w' := by
  obtain ⟨ay, cy, hra, G'⟩ := tabGetB w p most F X L k (by omega) h
  have G := Lib.hid G'
  have HZ := Lib.hid (fun h => getZ_no (L := L) (k := k) h)
  have HFX := Lib.hid (fun h => getZ_fix hF k h)
  obtain ⟨Y, hY⟩ : ∃ Y, getZ L k = Y := ⟨_, rfl⟩
  obtain ⟨b, hb⟩ : ∃ b, isT L k = b := ⟨_, rfl⟩
  rw [hY, hb] at G HFX HZ
  rw [hY] at hra
  rw [hY, hb]
  have TW := Lib.hid (p := b = true → ∀ w', Below w.heap.size w w' → Calls Try.prog 41 #[rowV Y ay cy] w' fun e w'' => (∃ b' d, e = .returned (rowV Y b' d) ∧ ReadsAG (fun q => w'.heap.size ≤ q) w'' b' Y.len Y.A) ∧ Below w'.heap.size w' w'') (fun hbt w' hb => (twinRow_any Y ay cy (HFX.out hbt).1 w' (hra.below hb).plain).mono (fun e w'' ⟨⟨b', d, h1, h2, _⟩, h3⟩ => by
    rw [(HFX.out hbt).2] at h1
    have : twF Y.A = Y.A := congrArg RD.A (HFX.out hbt).2
    rw [this] at h2
    exact ⟨⟨b', d, h1, h2⟩, h3⟩))
  obtain ⟨key, t, i, q, o, n, A⟩ := Y
  unfold rowV at G TW ⊢
  dsimp only at G TW ⊢
  clear G' h hF hY hb hra HFX
  go_enter Try.func16, Try.ntmps16
  go_upto_region 1 with fail
  generalize hW : World.alloc w _ = W
  have hb : Below w.heap.size w W := by rw [← hW]; exact (Below.refl _ _).alloc (Nat.le_refl _) _
  have h0 : W.heap[w.heap.size]? = some (.cells #[.string ⟨#[]⟩, .int .i64 0, .int .i64 0, .int .i64 0, .string ⟨#[]⟩, .slice none 0 0] 39 (0, 0)) := by rw [← hW]; exact heap_alloc_new w _
  have HX := Lib.hid (And.intro hb h0)
  clear hW hb h0
  go_upto_region 2 with (go_at_call 36; refine (G.out W HX.out.1).mono ?_; rintro e w1 ⟨rfl, hb⟩)
  generalize hV : World.alloc w1 _ = V
  have hb2 : Below w1.heap.size w1 V := by rw [← hV]; exact (Below.refl _ _).alloc (Nat.le_refl _) _
  have h1 : V.heap[w1.heap.size]? = some (.cells #[.string key, .int .i64 t, .int .i64 i, .int .i64 q, .string o, .slice ay n cy] 39 (0, 0)) := by rw [← hV]; exact heap_alloc_new w1 _
  have hlt := lt_of_block HX.out.2
  have h0 := ((hb.trans (hb2.mono hb.size)).block _ hlt).trans HX.out.2
  have HY := Lib.hid (And.intro (HX.out.1.trans ((hb.trans (hb2.mono hb.size)).mono HX.out.1.size)) (And.intro h0 h1))
  have hsz := hb.size
  have hne : w1.heap.size ≠ w.heap.size := by omega
  clear hV hb2 hb h1 h0 HX
  cases b with
  | true =>
    obtain ⟨⟨x0, x1, x2, x3, x4, x5⟩, -⟩ := six HY.out.2.2
    go_wp2_with fail
    refine (TW.out (by trivial) V HY.out.1).mono ?_
    rintro e w4 ⟨⟨b', d, rfl, hr4⟩, hb4⟩
    have h0 := (hb4.block _ (lt_of_block HY.out.2.1)).trans HY.out.2.1
    have HU := Lib.hid (And.intro (HY.out.1.trans (hb4.mono HY.out.1.size)) (And.intro h0 hr4))
    have hzV := lt_of_block HY.out.2.1
    clear x0 x1 x2 x3 x4 x5 hb4 hr4
    obtain ⟨⟨y0, y1, y2, y3, y4, y5⟩, ⟨z0, z1, z2, z3, z4, z5⟩⟩ := six h0
    clear h0
    go_wp2_with fail
    clear y0 y1 y2 y3 y4 y5 z0 z1 z2 z3 z4 z5
    have h6 := six_set HU.out.2.1 (.string key) (.int .i64 t) (.int .i64 i) (.int .i64 q) (.string o) (.slice b' n d)
    have b6 := six_below HU.out.1 (Nat.le_refl _) (.string key) (.int .i64 t) (.int .i64 i) (.int .i64 q) (.string o) (.slice b' n d)
    have k6 := six_kept w4 w.heap.size (.string key) (.int .i64 t) (.int .i64 i) (.int .i64 q) (.string o) (.slice b' n d)
    generalize World.setCell _ (⟨w.heap.size, 5, none⟩ : Addr) _ = W6 at h6 b6 k6 ⊢
    have Q := Lib.hid (And.intro ((HU.out.2.2.kept k6 (fun k h1 h2 => by omega)).mono (H := fun k => w.heap.size ≤ k) (fun k h _ => by omega)) b6)
    obtain ⟨⟨y0, y1, y2, y3, y4, y5⟩, -⟩ := six h6
    clear h6 b6 k6 HU
    exact bodyPost_ret (v := .tuple #[.agg #[.string key, .int .i64 t, .int .i64 i, .int .i64 q, .string o, .slice b' n d], .bool true]) (by simp [results, Try.results16, go_sem, y0, y1, y2, y3, y4, y5]) rfl (by first | exact ⟨⟨b', d, rfl, Q.out.1⟩, Q.out.2⟩ | exact ⟨⟨b', ⟨d, rfl⟩, Q.out.1⟩, Q.out.2⟩)
  | false =>
    have hz := HZ.out rfl
    unfold zeroR at hz
    cases hz
    obtain ⟨⟨y0, y1, y2, y3, y4, y5⟩, ⟨z0, z1, z2, z3, z4, z5⟩⟩ := six HY.out.2.1
    go_wp2_with fail
    clear y0 y1 y2 y3 y4 y5 z0 z1 z2 z3 z4 z5
    have h6 := six_set HY.out.2.1 (.string ⟨#[]⟩) (.int .i64 0) (.int .i64 0) (.int .i64 0) (.string ⟨#[]⟩) (.slice none 0 0)
    have b6 := six_below HY.out.1 (Nat.le_refl _) (.string ⟨#[]⟩) (.int .i64 0) (.int .i64 0) (.int .i64 0) (.string ⟨#[]⟩) (.slice none 0 0)
    generalize World.setCell _ (⟨w.heap.size, 5, none⟩ : Addr) _ = W6 at h6 b6 ⊢
    have Q := Lib.hid b6
    obtain ⟨⟨y0, y1, y2, y3, y4, y5⟩, -⟩ := six h6
    clear h6 b6
    exact bodyPost_ret (v := .tuple #[.agg #[.string ⟨#[]⟩, .int .i64 0, .int .i64 0, .int .i64 0, .string ⟨#[]⟩, .slice none 0 0], .bool false]) (by simp [results, Try.results16, go_sem, y0, y1, y2, y3, y4, y5]) rfl (by first | exact ⟨⟨none, 0, rfl, ⟨Nat.zero_le _, .inl rfl⟩⟩, Q.out⟩ | exact ⟨⟨none, ⟨0, rfl⟩, ⟨Nat.zero_le _, .inl rfl⟩⟩, Q.out⟩)

set_option maxHeartbeats 1000000 in
theorem drop_any (w : World) (p : Nat) (most : Int) (F X : Nat → Prop) (L : List RD) (k : ByteArray) (hn : L.length ≤ 1000) (h : Tab w p most F X L) :
    Calls Try.prog 25 #[.pointer (some ⟨p, 0, none⟩), .string k] w fun e w' => e = .returned (.bool (has (kyR L) k)) ∧ TurnT w w' p most F X (dropT L k) := by
  have D := Lib.hid (tabDrop w p most F X L k (by omega) h)
  clear h
  go_enter Try.func25, Try.ntmps25
  go_wp2_with fail
  refine D.out.mono ?_
  rintro e w1 ⟨rfl, ht⟩
  have P := Lib.hid ht
  clear ht
  go_wp2_with fail
  go_ret
  exact ⟨rfl, P.out⟩

set_option maxHeartbeats 1000000 in
theorem newM_any (w : World) : Calls Try.prog 49 #[] w fun e w' => e = .returned (.pointer (some ⟨w.heap.size, 0, none⟩)) ∧ w' = w.alloc (.cells #[.slice none 0 0, .slice none 0 0] 76) := by
  go_enter Try.func49, Try.ntmps49
  go_wp2
  go_ret
  exact ⟨rfl, rfl⟩

theorem tab_new {w W : World} {most : Int} (hb : Kept (fun _ => False) w W) : Tab (W.alloc (.cells #[.int .i64 most, .slice none 0 0, .slice none 0 0] 78)) W.heap.size most (fun k => k = W.heap.size) (fun k => k < w.heap.size) [] := by
  refine ⟨[], rfl, List.Pairwise.nil, ⟨_, _, heap_alloc_new W _, World.ownsRow_nil _ _ _ _, World.ownsRow_nil _ _ _ _, ?_, ?_, ?_, rfl, ?_, ?_, ?_⟩, (fun e he => by cases he), (fun k h => by have := hb.size; rw [World.size_alloc]; exact ⟨fun e => by omega, by omega⟩)⟩
  · simp [Value.ownBlock]
  · simp [Value.ownBlock]
  · simp [Value.ownBlock]
  · simp [Value.ownBlock]
  · simp [Value.ownBlock]
  · intro k hk; subst hk; simp

/-- A new table. -/
def NewT (w : World) (most : Int) (p : Nat) (w' : World) : Prop := ∃ F, Tab w' p most F (fun k => k < w.heap.size) [] ∧ (∀ k, F k → w.heap.size ≤ k) ∧ Below w.heap.size w w'

set_option maxHeartbeats 1000000 in
theorem empty_any (w : World) (most : Int) : Calls Try.prog 26 #[.int .i64 most] w fun e w' => ∃ p, e = .returned (.pointer (some ⟨p, 0, none⟩)) ∧ NewT w most p w' := by
  go_enter Try.func26, Try.ntmps26
  go_wp2_with fail
  refine (newM_any w).mono ?_
  rintro e w1 ⟨rfl, rfl⟩
  have hk : Kept (fun _ => False) w (w.alloc (.cells #[.slice none 0 0, .slice none 0 0] 76)) := (Kept.refl _ _).alloc _
  have P := Lib.hid (show NewT w most (w.heap.size + 1) _ from ⟨_, by have := tab_new (most := most) hk; rw [World.size_alloc] at this; exact this, fun k hk => by omega, (hk.alloc _).below (fun k h => h.elim) (Nat.le_refl _)⟩)
  go_wp2_with fail
  go_ret
  exact ⟨_, rfl, P.out⟩

set_option maxHeartbeats 1000000 in
theorem new_any (w : World) (most : Int) (h1 : 1 ≤ most) (h2 : most ≤ 64) : Calls Try.prog 9 #[.int .i64 most] w fun e w' => ∃ p, e = .returned (.tuple #[.pointer (some ⟨p, 0, none⟩), .int .i64 0]) ∧ NewT w most p w' := by
  have a1 : ¬ most < 1 := by omega
  have a2 : ¬ most > 64 := by omega
  have a3 : decide (most < 1) = false := decide_eq_false a1
  have a4 : decide (64 < most) = false := decide_eq_false (by omega)
  go_enter Try.func9, Try.ntmps9
  go_wp2_with fail
  refine (empty_any w most).mono ?_
  rintro e w1 ⟨p, rfl, hN⟩
  have P := Lib.hid hN
  clear hN
  go_wp2_with fail
  go_ret2
  exact ⟨_, rfl, P.out⟩

set_option maxHeartbeats 1000000 in
theorem new_bad (w : World) (most : Int) (h : most < 1 ∨ 64 < most) : Calls Try.prog 9 #[.int .i64 most] w fun e w' => e = .returned (.tuple #[.pointer none, .int .i64 1]) ∧ w' = w := by
  rcases h with h | h
  · have a3 : decide (most < 1) = true := decide_eq_true h
    go_enter Try.func9, Try.ntmps9
    go_wp2_with fail
    go_ret2
    exact ⟨rfl, rfl⟩
  · have a3 : decide (most < 1) = false := decide_eq_false (by omega)
    have a4 : decide (64 < most) = true := decide_eq_true h
    go_enter Try.func9, Try.ntmps9
    go_wp2_with fail
    go_ret2
    exact ⟨rfl, rfl⟩

end Go.Proofs.Ytikifgenfpkidaa
