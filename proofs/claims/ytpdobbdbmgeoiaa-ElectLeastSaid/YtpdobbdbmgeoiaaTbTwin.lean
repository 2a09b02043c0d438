/-
  No statement: slices.Clone of numbers; twin of package row: a value in new memory.
-/
import Derived.Test.YtpdobbdbmgeoiaaWDef
import Derived.Test.YtpdobbdbmgeoiaaApp
import Derived.Test.YtpdobbdbmgeoiaaBase
import Derived.Test.YtpdobbdbmgeoiaaFour
import Derived.Lib.SliceRun
import Derived.Deep.QuietTactic
import Derived.BigQuiet
import Derived.StillTailTactics
import Derived.Deep.RegionHeld3
set_option linter.unusedVariables false
set_option linter.unusedSimpArgs false
namespace Go.Proofs.Ytpdobbdbmgeoiaa
open Go.RowKit

theorem four_below4 {b : Nat} {A W : World} {B : Nat} (h : Below b A W) (hB : b ≤ B) (v0 v1 v2 v3 : Value) :
    Below b A ((((W.setCell ⟨B, 0, none⟩ v0).setCell ⟨B, 1, none⟩ v1).setCell ⟨B, 2, none⟩ v2).setCell ⟨B, 3, none⟩ v3) :=
  (((h.setCell (p := ⟨B, 0, none⟩) hB v0).setCell (p := ⟨B, 1, none⟩) hB v1).setCell (p := ⟨B, 2, none⟩) hB v2).setCell (p := ⟨B, 3, none⟩) hB v3

/-- A list of numbers made anew. -/
def ClonePost (w : World) (len : Nat) (z : Nat → Int) (e : Ending) (w' : World) : Prop :=
  (∃ a c, e = .returned (.slice a len c) ∧ Reads w' a len z ∧ ∀ b, a = some b → w.heap.size ≤ b.block) ∧ Below w.heap.size w w'

theorem cloneInfo : (Try.prog.info? 2).map (fun i => (i.zero, i.size, i.bytes)) = some (some (.int .i64 0), 1, 8) := by kernel_rfl

theorem numsOf (z : Nat → Int) (len : Nat) : ∀ u ∈ (List.range len).map (fun j => Value.int .i64 (z j)), u.oneCell' = true := by
  intro u hu
  obtain ⟨j, _, rfl⟩ := List.mem_map.1 hu
  rfl

theorem reads_own {w : World} {base : Nat} {a : Option Addr} {len l c : Nat} {z : Nat → Int} (h : w.ownsRow base 2 1 (.slice a l c) len ((List.range len).map (fun j => Value.int .i64 (z j)))) : l = len ∧ Reads w a len z ∧ ∀ b, a = some b → base ≤ b.block := by
  rcases h.2 with ⟨h, h'⟩ | ⟨g, cap, cur, hv, hb, hg, hnc, hm, _, ht⟩
  · simp only [Value.slice.injEq] at h
    obtain ⟨rfl, rfl, rfl⟩ := h
    subst h'
    exact ⟨rfl, ⟨Nat.zero_le _, .inl rfl⟩, fun b hb => by cases hb⟩
  · simp only [Value.slice.injEq] at hv
    obtain ⟨rfl, rfl, rfl⟩ := hv
    refine ⟨rfl, ⟨Nat.le_trans hnc hm, .inr ⟨g, 0, rfl, fun j hj => ?_⟩⟩, fun b hb' => by cases hb'; exact hb⟩
    have hjj : ((List.range l).map (fun j => Value.int .i64 (z j)))[j]? = some (.int .i64 (z j)) := by simp [hj]
    rw [Nat.zero_add, cell_of_row w g j cur _ (0, 0) hg]
    rw [Nat.mul_one] at ht
    rw [← ht, List.getElem?_take, if_pos hj] at hjj
    simpa using hjj

set_option maxRecDepth 100000 in
set_option maxHeartbeats 2000000 in
theorem clone_any (a : Option Addr) (len cap : Nat) (z : Nat → Int) (hl : len ≤ 1000000) (w : World) (hr : Reads w a len z) :
    Calls Try.prog 67 #[.slice a len cap] w (ClonePost w len z) := by
  obtain ⟨i0, hi, hz0, hz1, hz2⟩ := info_parts cloneInfo
  have und : Try.prog.underlying 44 = some (.slice 2) := Try.underlying44
  cases a with
  | none =>
    have h0 : len = 0 := by
      rcases hr.2 with h | ⟨b, off, h, _⟩
      · exact h
      · cases h
    subst h0
    have P := Lib.hid (show ClonePost w 0 z (.returned (.slice none 0 0)) w from ⟨⟨none, 0, rfl, ⟨Nat.zero_le _, .inl rfl⟩, fun b h => by cases h⟩, Below.refl _ _⟩)
    clear hr
    go_enter Try.func67, Try.ntmps67
    go_wp2
    rw [Lib.run_eql_slice_nil w _ _ _ _ _ _ _ und]
    simp only [Result.andThen]
    rw [Oper.upon_value]
    go_wp2_with fail
    go_ret
    exact P.out
  | some x =>
    have F := Lib.hid (p := ∀ w', Below w.heap.size w w' → From w' (.slice (some x) len cap) len ((List.range len).map (fun j => Value.int .i64 (z j)))) (fun w' hb => by
      refine .inr ⟨x, cap, rfl, by simp, fun j u hj => ?_⟩
      rcases (hr.kept hb).2 with h0 | ⟨b, off, hx, hc⟩
      · subst h0; simp at hj
      · obtain rfl : x = ⟨b, off, none⟩ := by simpa using hx
        have hjl : j < len := by
          rcases Nat.lt_or_ge j len with h | h
          · exact h
          · rw [List.getElem?_eq_none (by simpa using h)] at hj; cases hj
        rw [Addr.add_lit, hc j hjl]
        simpa [hjl] using hj)
    clear hr
    go_enter Try.func67, Try.ntmps67
    have bA : Below w.heap.size w (w.alloc (.cells #[] 2)) := (Below.refl _ _).alloc (Nat.le_refl _) _
    have BA := Lib.hid bA
    have OA := Lib.hid (show (w.alloc (.cells #[] 2)).ownsRow w.heap.size 2 1 (.slice (some ⟨w.heap.size, 0, none⟩) 0 0) 0 [] from ⟨rfl, .inr ⟨w.heap.size, 0, #[], rfl, Nat.le_refl _, heap_alloc_new w _, Nat.le_refl _, Nat.zero_le _, rfl, rfl⟩⟩)
    clear bA
    go_wp2
    rw [Lib.run_eql_slice_nil w _ _ _ _ _ _ _ und]
    simp only [Result.andThen]
    rw [Oper.upon_value]
    go_wp2_with (at_builtin; refine wpList_append_from rfl _ _ 44 rfl und hi hz0 hz1 hz2 rfl _ _ 0 len [] _ rfl rfl OA.out (F.out _ BA.out) (numsOf z len) (by unfold maxLen; omega) (by omega) (by simp) ?_)
    intro v' w2 ho hg _
    obtain ⟨va, vl, vc, rfl⟩ : ∃ a l c, v' = .slice a l c := by
      rcases ho.2 with ⟨h, _⟩ | ⟨g, cap, _, h, _⟩
      · exact ⟨_, _, _, h⟩
      · exact ⟨_, _, _, h⟩
    obtain ⟨rfl, hrd, hbl⟩ := reads_own ho
    have P := Lib.hid (show ClonePost w vl z (.returned (.slice va vl vc)) w2 from ⟨⟨va, vc, rfl, hrd, hbl⟩, BA.out.grown hg (by simp) (fun k hk => by simp [Value.ownBlock] at hk; omega)⟩)
    clear ho hg hrd hbl
    go_wp2
    go_ret
    exact P.out

theorem four_kept (W : World) (B : Nat) (v0 v1 v2 v3 : Value) : Kept (fun k => k = B) W ((((W.setCell ⟨B, 0, none⟩ v0).setCell ⟨B, 1, none⟩ v1).setCell ⟨B, 2, none⟩ v2).setCell ⟨B, 3, none⟩ v3) :=
  ((((Kept.refl (fun k => k = B) W).setCell (S := fun k => k = B) (p := ⟨B, 0, none⟩) (.inl rfl) v0).setCell (S := fun k => k = B) (p := ⟨B, 1, none⟩) (.inl rfl) v1).setCell (S := fun k => k = B) (p := ⟨B, 2, none⟩) (.inl rfl) v2).setCell (S := fun k => k = B) (p := ⟨B, 3, none⟩) (.inl rfl) v3

theorem Reads.keptS {S : Nat → Prop} {w w' : World} {a : Option Addr} {len : Nat} {z : Nat → Int} (h : Reads w a len z) (hk : Kept S w w') (hS : ∀ b, a = some b → ¬ S b.block) : Reads w' a len z := by
  refine ⟨h.1, ?_⟩
  rcases h.2 with h0 | ⟨b, off, rfl, hc⟩
  · exact .inl h0
  · exact .inr ⟨b, off, rfl, fun j hj => hk.cell (hc j hj) (show ¬ S b from hS ⟨b, off, none⟩ rfl)⟩

/-- What a twin holds of an attribute's value: what its Kind names. -/
def twN (k n : Int) : Int := if k = 1 then n else 0
def twS (k : Int) (s : ByteArray) : ByteArray := if k = 2 then s else ⟨#[]⟩
def twL (k : Int) (len : Nat) : Nat := if k = 3 then len else 0

/-- A value made anew. -/
def TwPost (w : World) (k n : Int) (s : ByteArray) (len : Nat) (z : Nat → Int) (e : Ending) (w' : World) : Prop :=
  (∃ a c, e = .returned (.agg #[.int .i64 k, .int .i64 (twN k n), .string (twS k s), .slice a (twL k len) c]) ∧ (∀ b, a = some b → w.heap.size ≤ b.block) ∧ ∀ w3, Kept (fun b => b = w.heap.size + 1) w' w3 → Reads w3 a (twL k len) z) ∧ Below w.heap.size w w'

theorem nil_reads (w : World) (z : Nat → Int) : Reads w none 0 z := ⟨Nat.zero_le _, .inl rfl⟩

theorem two_boxes (w : World) (o1 o2 : Obj) : Below w.heap.size w ((w.alloc o1).alloc o2) ∧ ((w.alloc o1).alloc o2).heap[w.heap.size]? = some o1 ∧ ((w.alloc o1).alloc o2).heap[w.heap.size + 1]? = some o2 ∧ ((w.alloc o1).alloc o2).heap.size = w.heap.size + 2 := by
  refine ⟨((Below.refl _ _).alloc (Nat.le_refl _) _).alloc (by simp) _, (Below.heap_alloc _ _ _ (by simp)).trans (heap_alloc_new w _), ?_, by simp⟩
  have := heap_alloc_new (w.alloc o1) o2
  rwa [World.size_alloc] at this

set_option maxRecDepth 100000 in
set_option maxHeartbeats 4000000 in
theorem twin_any (k n : Int) (s : ByteArray) (a : Option Addr) (len cap : Nat) (z : Nat → Int) (hl : len ≤ 1000000) (w : World) (hr : Reads w a len z) :
    Calls Try.prog 50 #[.agg #[.int .i64 k, .int .i64 n, .string s, .slice a len cap]] w (TwPost w k n s len z) := by
  have HB := Lib.hid (two_boxes w (.cells #[.int .i64 k, .int .i64 n, .string s, .slice a len cap] 68) (.cells #[.int .i64 0, .int .i64 0, .string ⟨#[]⟩, .slice none 0 0] 68))
  have R := Lib.hid hr
  clear hr
  by_cases h1 : k = 1
  · subst h1
    have P := Lib.hid (p := ∀ W, Below w.heap.size w W → TwPost w 1 n s len z (.returned (.agg #[.int .i64 1, .int .i64 n, .string ⟨#[]⟩, .slice none 0 0])) W) (fun W h => ⟨⟨none, 0, rfl, (fun b h => by cases h), fun w3 _ => nil_reads w3 z⟩, h⟩)
    go_enter Try.func50, Try.ntmps50
    go_wp2_with fail
    exact bodyPost_ret (v := .agg #[.int .i64 1, .int .i64 n, .string ⟨#[]⟩, .slice none 0 0]) (by simp [results, Try.results50, go_sem]) rfl (P.out _ (two_boxes w _ _).1)
  have q1 : (k == 1) = false := by simpa using h1
  by_cases h2 : k = 2
  · subst h2
    have P := Lib.hid (p := ∀ W, Below w.heap.size w W → TwPost w 2 n s len z (.returned (.agg #[.int .i64 2, .int .i64 0, .string s, .slice none 0 0])) W) (fun W h => ⟨⟨none, 0, rfl, (fun b h => by cases h), fun w3 _ => nil_reads w3 z⟩, h⟩)
    clear h1 q1
    go_enter Try.func50, Try.ntmps50
    go_wp2_with fail
    exact bodyPost_ret (v := .agg #[.int .i64 2, .int .i64 0, .string s, .slice none 0 0]) (by simp [results, Try.results50, go_sem]) rfl (P.out _ (two_boxes w _ _).1)
  have q2 : (k == 2) = false := by simpa using h2
  by_cases h3 : k = 3
  · subst h3
    clear h1 q1 h2 q2
    go_enter Try.func50, Try.ntmps50
    go_wp2_with fail
    generalize hW : World.alloc (World.alloc w _) _ = W
    rw [hW] at HB
    have hdr : Below W.heap.size W W.drew := ⟨rfl, rfl, rfl, Nat.le_refl _, fun _ _ => rfl⟩
    have C := Lib.hid (clone_any a len cap z hl W.drew (R.out.kept (HB.out.1.trans ⟨rfl, rfl, rfl, Nat.le_refl _, fun _ _ => rfl⟩)))
    have hs := HB.out.2.2.2
    obtain ⟨⟨x0, x1, x2, x3⟩, -⟩ := four HB.out.2.1
    clear hW hdr
    go_region_with (first
      | (go_at_call 67
         with_reducible refine C.out.mono ?_
         rintro e w2 ⟨⟨a2, c2, rfl, hr2, hb2⟩, hb⟩
         have hz2 := hb.size
         have hres := (hb.block (w.heap.size + 1) (by show _ < W.heap.size; omega)).trans HB.out.2.2.1
         clear x0 x1 x2 x3
         obtain ⟨⟨x0, x1, x2, x3⟩, -⟩ := four ((hb.block w.heap.size (by show _ < W.heap.size; omega)).trans HB.out.2.1)
         obtain ⟨⟨y0, y1, y2, y3⟩, ⟨z0, z1, z2, z3⟩⟩ := four hres
         have H2 := Lib.hid (And.intro hr2 (And.intro hb2 (HB.out.1.trans ((show Below w.heap.size W W.drew from ⟨rfl, rfl, rfl, Nat.le_refl _, fun _ _ => rfl⟩).trans (hb.mono (by show _ ≤ W.heap.size; omega))))))
         clear hr2 hb2 hb hres)
      | fail)
    all_goals
      have P := Lib.hid (p := TwPost w 3 n s len z (.returned (.agg #[.int .i64 3, .int .i64 0, .string ⟨#[]⟩, .slice a2 len c2])) ((((w2.setCell ⟨w.heap.size + 1, 0, none⟩ (.int .i64 3)).setCell ⟨w.heap.size + 1, 1, none⟩ (.int .i64 0)).setCell ⟨w.heap.size + 1, 2, none⟩ (.string ⟨#[]⟩)).setCell ⟨w.heap.size + 1, 3, none⟩ (.slice a2 len c2)))
        ⟨⟨a2, c2, rfl, (fun b hb => by have := H2.out.2.1 b hb; have hW' : W.drew.heap.size = w.heap.size + 2 := hs; omega), fun w3 k3 => H2.out.1.keptS ((four_kept w2 (w.heap.size + 1) _ _ _ _).trans k3 (fun _ h _ => h)) (fun b hb h => by have := H2.out.2.1 b hb; have h' : b.block = w.heap.size + 1 := h; have hW' : W.drew.heap.size = w.heap.size + 2 := hs; omega)⟩, four_below4 H2.out.2.2 (Nat.le_succ _) _ _ _ _⟩
      go_wp2
      exact bodyPost_ret (v := .agg #[.int .i64 3, .int .i64 0, .string ⟨#[]⟩, .slice a2 len c2]) (by simp [results, Try.results50, go_sem, *]) rfl P.out
  have q3 : (k == 3) = false := by simpa using h3
  have P := Lib.hid (p := ∀ W, Below w.heap.size w W → TwPost w k n s len z (.returned (.agg #[.int .i64 k, .int .i64 0, .string ⟨#[]⟩, .slice none 0 0])) W) (fun W h => ⟨⟨none, 0, by unfold twN twS twL; rw [if_neg h1, if_neg h2, if_neg h3], (fun b h => by cases h), fun w3 _ => by unfold twL; rw [if_neg h3]; exact nil_reads w3 z⟩, h⟩)
  clear h1 h2 h3
  go_enter Try.func50, Try.ntmps50
  go_wp2_with fail
  exact bodyPost_ret (v := .agg #[.int .i64 k, .int .i64 0, .string ⟨#[]⟩, .slice none 0 0]) (by simp [results, Try.results50, go_sem]) rfl (P.out _ (two_boxes w _ _).1)

end Go.Proofs.Ytpdobbdbmgeoiaa
