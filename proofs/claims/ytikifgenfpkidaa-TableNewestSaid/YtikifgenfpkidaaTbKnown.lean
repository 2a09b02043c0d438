/-
  No statement: known returns true.
-/
import Derived.Test.YtikifgenfpkidaaTbKn0
set_option linter.unusedVariables false
set_option linter.unusedSimpArgs false
namespace Go.Proofs.Ytikifgenfpkidaa
open Go.RowKit

set_option maxHeartbeats 1000000 in
theorem tick_any (n : Int) (w : World) : Calls Try.prog 21 #[.int .i64 n] w fun e w' => e = .returned (.agg #[.int .i64 n, .int .i64 0, .int .i64 0, .string ⟨#[47, 122]⟩]) ∧ Below w.heap.size w w' := by
  go_enter Try.func21, Try.ntmps21
  go_upto_region 1 with fail
  generalize hW : World.alloc w _ = W
  have hb : Below w.heap.size w W := by rw [← hW]; exact (Below.refl _ _).alloc (Nat.le_refl _) _
  have h0 : W.heap[w.heap.size]? = some (.cells #[.int .i64 0, .int .i64 0, .int .i64 0, .string ⟨#[]⟩] 36 (0, 0)) := by rw [← hW]; exact heap_alloc_new w _
  clear hW
  obtain ⟨⟨y0, y1, y2, y3⟩, ⟨z0, z1, z2, z3⟩⟩ := four h0
  have P := Lib.hid (four_below4 hb (Nat.le_refl _) (.int .i64 n) (.int .i64 0) (.int .i64 0) (.string ⟨#[47, 122]⟩))
  clear h0 hb
  go_wp2_with fail
  exact bodyPost_ret (v := .agg #[.int .i64 n, .int .i64 0, .int .i64 0, .string ⟨#[47, 122]⟩]) (by simp [results, Try.results21, go_sem, *]) rfl ⟨rfl, P.out⟩

/-- A table without attributes' bounds: what known puts. -/
theorem kPut (w : World) (p : Nat) (F X : Nat → Prop) (L L' : List RD) (r : RD) (E : Int) (hn : L.length ≤ 1000) (hB : BoundR r) (hr : r.len = 0) (hp : putX 2 L r = (E, L')) (h : Tab w p 2 F X L) :
    Calls Try.prog 13 #[.pointer (some ⟨p, 0, none⟩), .agg #[.string r.key, .int .i64 r.t, .int .i64 r.i, .int .i64 r.q, .string r.o, .slice none r.len 0]] w fun e w' => e = .returned (.int .i64 E) ∧ TurnT w w' p 2 F X L' := by
  refine (put_any w p 2 F X L r none 0 (by unfold In64; omega) (by omega) hn hB h (by rw [hr]; exact ⟨Nat.zero_le _, .inl rfl⟩)).mono ?_
  rintro e w' ⟨h1, h2⟩
  rw [hp] at h1 h2
  exact ⟨h1, h2⟩

theorem below_turn {w0 w w' : World} {p : Nat} {most : Int} {F X : Nat → Prop} {L : List RD} (hb : Below w0.heap.size w0 w) (hF : ∀ k, F k → w0.heap.size ≤ k) (h : TurnT w w' p most F X L) : ∃ F', Tab w' p most F' X L ∧ (∀ k, F' k → w0.heap.size ≤ k) ∧ Below w0.heap.size w0 w' := by
  obtain ⟨F', hT, hG, hK⟩ := h
  exact ⟨F', hT, fun k hk => (hG k hk).elim (hF k) (fun h => by have := hb.size; omega), hb.trans (hK.below hF hb.size)⟩

theorem fix2 (a b : RD) (ha : FineR a ∧ twR a = a) (hb : FineR b ∧ twR b = b) : Fix [a, b] := fun x hx => by
  rcases List.mem_cons.1 hx with rfl | hx
  · exact ha
  · rw [List.mem_singleton] at hx; subst hx; exact hb

set_option maxRecDepth 100000 in
set_option maxHeartbeats 16000000 in
theorem known_any (w : World) : Calls Try.prog 7 #[] w fun e w' => e = .returned (.bool true) ∧ Below w.heap.size w w' := by
  have FX := Lib.hid (fix2 kA6 kC7 ⟨bareR_fine _ _ _, rfl⟩ ⟨bareR_fine _ _ _, rfl⟩)
  have bd : ∀ k n s, k.size ≤ 1000 → BoundR (bareR k n s) := bareR_bound
  have BD := Lib.hid bd
  clear bd
  go_enter Try.func7, Try.ntmps7
  go_wp2_with fail
  refine (new_any w 2 (by omega) (by omega)).mono ?_
  rintro e w1 ⟨p, rfl, F1, hT, hF, hB⟩
  have T1 := Lib.hid (And.intro hT (And.intro hF hB))
  clear hT hF hB
  go_wp2_with fail
  refine (tick_any 5 w1).mono ?_
  rintro e w2 ⟨rfl, hb⟩
  have T2 := Lib.hid (And.intro (T1.out.1.below hb) (And.intro T1.out.2.1 (T1.out.2.2.trans (hb.mono T1.out.2.2.size))))
  clear hb T1
  go_wp2_with fail
  refine (kPut w2 p F1 _ [] _ kB5 0 (by decide) (BD.out _ _ _ (by decide)) rfl kP1 T2.out.1).mono ?_
  rintro e w3 ⟨rfl, ht⟩
  obtain ⟨F3, h1, h2, h3⟩ := below_turn T2.out.2.2 T2.out.2.1 ht
  have T3 := Lib.hid (And.intro h1 (And.intro h2 h3))
  clear ht h1 h2 h3 T2
  go_wp2_with fail
  refine (tick_any 4 w3).mono ?_
  rintro e w4 ⟨rfl, hb⟩
  have T4 := Lib.hid (And.intro (T3.out.1.below hb) (And.intro T3.out.2.1 (T3.out.2.2.trans (hb.mono T3.out.2.2.size))))
  clear hb T3
  go_wp2_with fail
  refine (kPut w4 p F3 _ [kB5] _ kB4 11 (by decide) (BD.out _ _ _ (by decide)) rfl kP2 T4.out.1).mono ?_
  rintro e w5 ⟨rfl, ht⟩
  obtain ⟨F5, h1, h2, h3⟩ := below_turn T4.out.2.2 T4.out.2.1 ht
  have T5 := Lib.hid (And.intro h1 (And.intro h2 h3))
  clear ht h1 h2 h3 T4
  go_wp2_with fail
  refine (tick_any 6 w5).mono ?_
  rintro e w6 ⟨rfl, hb⟩
  have T6 := Lib.hid (And.intro (T5.out.1.below hb) (And.intro T5.out.2.1 (T5.out.2.2.trans (hb.mono T5.out.2.2.size))))
  clear hb T5
  go_wp2_with fail
  refine (kPut w6 p F5 _ [kB5] _ kA6 0 (by decide) (BD.out _ _ _ (by decide)) rfl kP3 T6.out.1).mono ?_
  rintro e w7 ⟨rfl, ht⟩
  obtain ⟨F7, h1, h2, h3⟩ := below_turn T6.out.2.2 T6.out.2.1 ht
  have T7 := Lib.hid (And.intro h1 (And.intro h2 h3))
  clear ht h1 h2 h3 T6
  go_wp2_with fail
  refine (tick_any 7 w7).mono ?_
  rintro e w8 ⟨rfl, hb⟩
  have T8 := Lib.hid (And.intro (T7.out.1.below hb) (And.intro T7.out.2.1 (T7.out.2.2.trans (hb.mono T7.out.2.2.size))))
  clear hb T7
  go_wp2_with fail
  refine (kPut w8 p F7 _ [kA6, kB5] _ kC7 0 (by decide) (BD.out _ _ _ (by decide)) rfl kP4 T8.out.1).mono ?_
  rintro e w9 ⟨rfl, ht⟩
  obtain ⟨F9, h1, h2, h3⟩ := below_turn T8.out.2.2 T8.out.2.1 ht
  have T9 := Lib.hid (And.intro h1 (And.intro h2 h3))
  clear ht h1 h2 h3 T8
  go_wp2_with fail
  refine (rows_any w9 p 2 F9 _ [kA6, kC7] (by decide) FX.out T9.out.1).mono ?_
  rintro e w10 ⟨⟨la, lc, rfl, hl⟩, hb⟩
  have T10 := Lib.hid (And.intro (T9.out.1.below hb) (And.intro T9.out.2.1 (T9.out.2.2.trans (hb.mono T9.out.2.2.size))))
  have LT := Lib.hid T9.out.1.lt
  have R10 := Lib.hid hl
  have hz10 := hb.size
  clear hb hl T9
  go_wp2_with fail
  refine (get_any w10 p 2 F9 _ [kA6, kC7] ⟨#[98]⟩ (by decide) FX.out T10.out.1).mono ?_
  rintro e w11 ⟨⟨gb, gd, he, -⟩, hb⟩
  rw [kP5, getZ_no kP5] at he
  obtain rfl : e = .returned (.tuple #[.agg #[.string ⟨#[]⟩, .int .i64 0, .int .i64 0, .int .i64 0, .string ⟨#[]⟩, .slice gb 0 gd], .bool false]) := he
  have T11 := Lib.hid (And.intro (T10.out.1.below hb) (And.intro T10.out.2.1 (T10.out.2.2.trans (hb.mono T10.out.2.2.size))))
  have R11 := Lib.hid (R10.out.kept (keptNew hb) (fun _ _ h => h))
  have hz11 := hb.size
  clear hb T10 R10
  go_upto_region 10 with fail
  generalize hV : World.alloc w11 _ = V
  have hb : Below w11.heap.size w11 V := by rw [← hV]; exact (Below.refl _ _).alloc (Nat.le_refl _) _
  have T12 := Lib.hid (And.intro (T11.out.1.below hb) (And.intro T11.out.2.1 (T11.out.2.2.trans (hb.mono T11.out.2.2.size))))
  have R12 := Lib.hid (R11.out.kept (keptNew hb) (fun _ _ h => h))
  have hz12 := hb.size
  clear hV hb T11 R11
  go_wp2_with fail
  refine (new_bad V 0 (.inl (by omega))).mono ?_
  rintro e w13 ⟨rfl, rfl⟩
  go_wp2_with fail
  refine (twinT_any w13 p 2 F9 _ [kA6, kC7] (by decide) FX.out T12.out.1).mono ?_
  rintro e w14 ⟨q, G, rfl, hU, hG, hb⟩
  have T14 := Lib.hid (And.intro (T12.out.1.below hb) (And.intro T12.out.2.1 (T12.out.2.2.trans (hb.mono T12.out.2.2.size))))
  have R14 := Lib.hid (R12.out.kept (keptNew hb) (fun _ _ h => h))
  have U14 := Lib.hid hU
  have LT14 := Lib.hid T12.out.1.lt
  have hz14 := hb.size
  clear hU hG hb T12 R12
  go_wp2_with fail
  refine (sweep_any w14 p 2 F9 _ [kA6, kC7] 10 3 ⟨#[120]⟩ (by omega) (by omega) (by omega) (by omega) (by decide) T14.out.1).mono ?_
  rintro e w15 ⟨⟨sa, sc, he, hs⟩, ht⟩
  rw [kP6] at he hs ht
  rw [kP7] at ht
  obtain rfl : e = .returned (.slice sa 1 sc) := he
  obtain ⟨F15, ht1, ht2, ht3⟩ := ht
  have U15 := Lib.hid (U14.out.step ht3 (fun k hk => .inl (LT14.out k hk)) (fun k hk => ⟨.inl hk, Nat.lt_of_lt_of_le (U14.out.apart k hk).2 ht3.size⟩))
  have R15 := Lib.hid (R14.out.kept ht3 (fun k h1 h2 => by have := LT.out k h2; omega))
  obtain ⟨g, rfl, cs⟩ : ∃ g, sa = some ⟨g, 0, none⟩ ∧ w15.cell? ⟨g, 0, none⟩ = some (.string ⟨#[97]⟩) := by
    rcases hs.2 with ⟨_, h0⟩ | ⟨g, cap, _, h, _⟩
    · cases h0
    · simp only [Value.slice.injEq] at h
      obtain ⟨rfl, _, _⟩ := h
      obtain ⟨g', e1, e2⟩ := owns_at (j := 0) (u := .string ⟨#[97]⟩) hs rfl
      cases e1
      exact ⟨_, rfl, e2⟩
  obtain ⟨lb, loff, rfl, -, hrows⟩ := R15.out.2.resolve_left (by decide)
  obtain ⟨y0, d0, ⟨l0, -⟩, -⟩ := hrows 0 (by decide)
  obtain ⟨y1, d1, ⟨l1, -⟩, -⟩ := hrows 1 (by decide)
  have l0' : w15.cell? ⟨lb, loff, none⟩ = some (.string ⟨#[97]⟩) := l0
  have l1' : w15.cell? ⟨lb, loff + 6, none⟩ = some (.string ⟨#[99]⟩) := l1
  have T15 := Lib.hid (And.intro ht1 (And.intro (show ∀ k, F15 k → w.heap.size ≤ k from fun k hk => (ht2 k hk).elim (T14.out.2.1 k) (fun h => by have := T14.out.2.2.size; omega)) (T14.out.2.2.trans (ht3.below T14.out.2.1 T14.out.2.2.size))))
  clear ht1 ht2 ht3 hs hrows l0 l1 R14 R15 T14 U14 LT LT14 BD
  go_wp2_with fail
  refine (tabLen w15 p 2 F15 _ [kC7] T15.out.1).mono ?_
  rintro e w16 ⟨rfl, rfl⟩
  go_wp2_with fail
  refine (tabLen w15 q 2 G _ [kA6, kC7] U15.out).mono ?_
  rintro e w16 ⟨rfl, rfl⟩
  go_wp2_with fail
  refine (attrs_any w15 q 2 G _ [kA6, kC7] (by decide) FX.out U15.out).mono ?_
  rintro e w17 ⟨⟨aa, ac, rfl, -⟩, hb⟩
  have T17 := Lib.hid (And.intro (T15.out.1.below hb) (And.intro T15.out.2.1 (T15.out.2.2.trans (hb.mono T15.out.2.2.size))))
  clear hb T15 U15 cs l0' l1'
  go_wp2_with fail
  refine (drop_any w17 p 2 F15 _ [kC7] ⟨#[99]⟩ (by decide) T17.out.1).mono ?_
  rintro e w18 ⟨he, ht⟩
  rw [kP8] at he
  subst he
  obtain ⟨F18, h1, h2, h3⟩ := below_turn T17.out.2.2 T17.out.2.1 ht
  have P := Lib.hid h3
  clear ht h1 h2 h3 T17
  go_wp2_with fail
  go_ret
  exact ⟨rfl, P.out⟩

end Go.Proofs.Ytikifgenfpkidaa
