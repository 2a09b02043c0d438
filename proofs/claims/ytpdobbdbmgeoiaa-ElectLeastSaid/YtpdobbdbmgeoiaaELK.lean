/-
  No statement: the rows that the law makes; what is known.
-/
import Derived.Test.YtpdobbdbmgeoiaaELO
set_option linter.unusedVariables false
set_option linter.unusedSimpArgs false
namespace Go.Proofs.Ytpdobbdbmgeoiaa
open Go.RowKit

/-- The attributes of a row that stands. -/
def whoA (r : ByteArray) (n : Int) (j : Nat) : AD := if j = 0 then ⟨loadK, 1, n, ⟨#[]⟩, 0, fun _ => 0⟩ else ⟨repK, 2, 0, r, 0, fun _ => 0⟩
def whoR (k r : ByteArray) (n : Int) : RD := ⟨k, 0, 0, 0, ⟨#[]⟩, 2, whoA r n⟩

theorem six_setC {w : World} {b : Nat} {a0 a1 a2 a3 a4 a5 : Value} {t : TypeId} (h : w.heap[b]? = some (.cells #[a0, a1, a2, a3, a4, a5] t (0, 0))) (v0 v1 v2 v3 v4 v5 : Value) : ((((((w.setCell ⟨b, 0, none⟩ v0).setCell ⟨b, 1, none⟩ v1).setCell ⟨b, 2, none⟩ v2).setCell ⟨b, 3, none⟩ v3).setCell ⟨b, 4, none⟩ v4).setCell ⟨b, 5, none⟩ v5).heap[b]? = some (.cells #[v0, v1, v2, v3, v4, v5] t (0, 0)) := by
  rw [heap_setCell_same _ b 5 _ t v5 (heap_setCell_same _ b 4 _ t v4 (heap_setCell_same _ b 3 _ t v3 (heap_setCell_same _ b 2 _ t v2 (heap_setCell_same _ b 1 _ t v1 (heap_setCell_same _ b 0 _ t v0 h)))))]
  rfl
theorem six_otherC {w : World} {b k : Nat} (hne : k ≠ b) (v0 v1 v2 v3 v4 v5 : Value) : ((((((w.setCell ⟨b, 0, none⟩ v0).setCell ⟨b, 1, none⟩ v1).setCell ⟨b, 2, none⟩ v2).setCell ⟨b, 3, none⟩ v3).setCell ⟨b, 4, none⟩ v4).setCell ⟨b, 5, none⟩ v5).heap[k]? = w.heap[k]? :=
  have h : ∀ (W : World) o v, (W.setCell ⟨b, o, none⟩ v).heap[k]? = W.heap[k]? := fun W o v => Below.heap_setCell _ _ _ _ (by show k ≠ b; exact hne)
  (h _ _ _).trans ((h _ _ _).trans ((h _ _ _).trans ((h _ _ _).trans ((h _ _ _).trans (h _ _ _)))))
theorem six_belowC {B : Nat} {a w : World} {b : Nat} (h : Below B a w) (hb : B ≤ b) (v0 v1 v2 v3 v4 v5 : Value) : Below B a ((((((w.setCell ⟨b, 0, none⟩ v0).setCell ⟨b, 1, none⟩ v1).setCell ⟨b, 2, none⟩ v2).setCell ⟨b, 3, none⟩ v3).setCell ⟨b, 4, none⟩ v4).setCell ⟨b, 5, none⟩ v5) :=
  (((((h.setCell (p := ⟨b, 0, none⟩) hb v0).setCell (p := ⟨b, 1, none⟩) hb v1).setCell (p := ⟨b, 2, none⟩) hb v2).setCell (p := ⟨b, 3, none⟩) hb v3).setCell (p := ⟨b, 4, none⟩) hb v4).setCell (p := ⟨b, 5, none⟩) hb v5

theorem readsWho {w : World} {B : Nat} {G : Nat → Prop} (hG : G B) (r : ByteArray) (n : Int) (h : w.heap[B]? = some (.cells #[.string loadK, .int .i64 1, .int .i64 n, .string ⟨#[]⟩, .slice none 0 0, .string repK, .int .i64 2, .int .i64 0, .string r, .slice none 0 0] 70 (0, 0))) : ReadsAG G w (some ⟨B, 0, none⟩) 2 (whoA r n) := by
  refine ⟨by unfold maxLen; omega, .inr ⟨B, 0, rfl, hG, fun j hj => ?_⟩⟩
  have hc := fun o => cell_of_row w B o _ _ (0, 0) h
  have h2 : j = 0 ∨ j = 1 := by omega
  rcases h2 with rfl | rfl
  · exact ⟨none, 0, ⟨by simpa [whoA] using hc 0, by simpa [whoA] using hc 1, by simpa [whoA] using hc 2, by simpa [whoA] using hc 3, by simpa [whoA] using hc 4⟩, Nat.zero_le _, .inl rfl⟩
  · exact ⟨none, 0, ⟨by simpa [whoA] using hc 5, by simpa [whoA] using hc 6, by simpa [whoA] using hc 7, by simpa [whoA] using hc 8, by simpa [whoA] using hc 9⟩, Nat.zero_le _, .inl rfl⟩

set_option maxRecDepth 100000 in
set_option maxHeartbeats 4000000 in
theorem who_any (k r : ByteArray) (n : Int) (w : World) :
    Calls Try.prog 13 #[.string k, .string r, .int .i64 n] w fun e w' => (∃ B, e = .returned (.agg #[.string k, .int .i64 0, .int .i64 0, .int .i64 0, .string ⟨#[]⟩, .slice (some ⟨B, 0, none⟩) 2 2]) ∧ ReadsAG (fun q => w.heap.size ≤ q) w' (some ⟨B, 0, none⟩) 2 (whoA r n)) ∧ Below w.heap.size w w' := by
  go_enter Try.func13, Try.ntmps13
  go_upto_region 1 with fail
  generalize hW : World.alloc w _ = W
  have hb : Below w.heap.size w W := by rw [← hW]; exact (Below.refl _ _).alloc (Nat.le_refl _) _
  have h6 : W.heap[w.heap.size]? = some (.cells #[.string ⟨#[]⟩, .int .i64 0, .int .i64 0, .int .i64 0, .string ⟨#[]⟩, .slice none 0 0] 42 (0, 0)) := by rw [← hW]; exact heap_alloc_new w _
  clear hW
  obtain ⟨x0, x1, x2, x3, x4, x5⟩ := sixE h6
  have z0 := frozen_of_row W w.heap.size 0 _ _ h6
  have z1 := frozen_of_row W w.heap.size 1 _ _ h6
  have z2 := frozen_of_row W w.heap.size 2 _ _ h6
  have z3 := frozen_of_row W w.heap.size 3 _ _ h6
  have z4 := frozen_of_row W w.heap.size 4 _ _ h6
  have z5 := frozen_of_row W w.heap.size 5 _ _ h6
  obtain ⟨V, hV⟩ : ∃ V, W.alloc (.cells #[.string loadK, .int .i64 1, .int .i64 n, .string ⟨#[]⟩, .slice none 0 0, .string repK, .int .i64 2, .int .i64 0, .string r, .slice none 0 0] 70) = V := ⟨_, rfl⟩
  have hbV : Below W.heap.size W V := by rw [← hV]; exact (Below.refl _ _).alloc (Nat.le_refl _) _
  have hV2 : V.heap[W.heap.size]? = some (.cells #[.string loadK, .int .i64 1, .int .i64 n, .string ⟨#[]⟩, .slice none 0 0, .string repK, .int .i64 2, .int .i64 0, .string r, .slice none 0 0] 70 (0, 0)) := by rw [← hV]; exact heap_alloc_new W _
  have hV6 := (hbV.block _ (lt_of_block h6)).trans h6
  have hne : W.heap.size ≠ w.heap.size := by have := lt_of_block h6; omega
  have P := Lib.hid (And.intro (readsWho (w := (((((V.setCell ⟨w.heap.size, 0, none⟩ (.string k)).setCell ⟨w.heap.size, 1, none⟩ (.int .i64 0)).setCell ⟨w.heap.size, 2, none⟩ (.int .i64 0)).setCell ⟨w.heap.size, 3, none⟩ (.int .i64 0)).setCell ⟨w.heap.size, 4, none⟩ (.string ⟨#[]⟩)).setCell ⟨w.heap.size, 5, none⟩ (.slice (some ⟨W.heap.size, 0, none⟩) 2 2)) (G := fun q => w.heap.size ≤ q) hb.size r n ((six_otherC hne _ _ _ _ _ _).trans hV2)) (six_belowC (hb.trans (hbV.mono hb.size)) (Nat.le_refl _) (.string k) (.int .i64 0) (.int .i64 0) (.int .i64 0) (.string ⟨#[]⟩) (.slice (some ⟨W.heap.size, 0, none⟩) 2 2)))
  have E := Lib.hid (six_setC hV6 (.string k) (.int .i64 0) (.int .i64 0) (.int .i64 0) (.string ⟨#[]⟩) (.slice (some ⟨W.heap.size, 0, none⟩) 2 2))
  have H6 := Lib.hid hV6
  clear hb h6 hbV hV2 hV6
  unfold loadK repK at hV
  clear x0 x1 x2 x3 x4 x5 z0 z1 z2 z3 z4 z5 hne
  have h6' : (W.alloc (.cells #[.string ⟨#[108, 111, 97, 100]⟩, .int .i64 1, .int .i64 n, .string ⟨#[]⟩, .slice none 0 0, .string ⟨#[114, 101, 112]⟩, .int .i64 2, .int .i64 0, .string r, .slice none 0 0] 70)).heap[w.heap.size]? = some (.cells #[.string ⟨#[]⟩, .int .i64 0, .int .i64 0, .int .i64 0, .string ⟨#[]⟩, .slice none 0 0] 42 (0, 0)) := by rw [hV]; exact H6.out
  obtain ⟨x0, x1, x2, x3, x4, x5⟩ := sixE h6'
  have z0 := frozen_of_row _ w.heap.size 0 _ _ h6'
  have z1 := frozen_of_row _ w.heap.size 1 _ _ h6'
  have z2 := frozen_of_row _ w.heap.size 2 _ _ h6'
  have z3 := frozen_of_row _ w.heap.size 3 _ _ h6'
  have z4 := frozen_of_row _ w.heap.size 4 _ _ h6'
  have z5 := frozen_of_row _ w.heap.size 5 _ _ h6'
  have hV' := Lib.hid hV
  clear hV h6' H6
  go_wp2_with fail
  rw [hV'.out]
  obtain ⟨g0, g1, g2, g3, g4, g5⟩ := sixE E.out
  exact bodyPost_ret (v := .agg #[.string k, .int .i64 0, .int .i64 0, .int .i64 0, .string ⟨#[]⟩, .slice (some ⟨W.heap.size, 0, none⟩) 2 2]) (by simp [results, Try.results13, go_sem, g0, g1, g2, g3, g4, g5]) rfl ⟨⟨W.heap.size, rfl, P.out.1⟩, P.out.2⟩

end Go.Proofs.Ytpdobbdbmgeoiaa
