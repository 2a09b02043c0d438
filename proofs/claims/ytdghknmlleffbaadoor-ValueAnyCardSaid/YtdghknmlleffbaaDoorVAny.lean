/-
  No statement: the walk of ValueAny (P201).
-/
import Derived.Test.YtdghknmlleffbaaDoorVAt
import Derived.Test.YtdghknmlleffbaaDoorVTurn
import Derived.Test.YtdghknmlleffbaaDoorVKnown
import Derived.Test.YtdghknmlleffbaaDoorRCheck
import Derived.Test.YtdghknmlleffbaaDoorRCompare
import Derived.Test.YtdghknmlleffbaaDoorRText
import Derived.Deep.RegionHeld3
import Derived.IntWalk
namespace Go.Proofs.YtdghknmlleffbaaDoor
open Go.RowKit

theorem VAt.drewV {B : Nat} {k n : Int} {s : ByteArray} {a : Option Addr} {l c : Nat} {z : Nat → Int} {w : World} (h : VAt B k n s a l c z w) : VAt B k n s a l c z w.drew := h.kept ((Below.refl _ _).drew)

theorem textV_size {k n : Int} {s : ByteArray} {len : Nat} {z : Nat → Int} (hn : In64 n) (hz : ∀ j, In64 (z j)) (hs : s.size ≤ 200) (hl : len ≤ 40) : (⟨(textV k n s len z).toArray⟩ : ByteArray).size ≤ 281474976710656 := by
  show (textV k n s len z).toArray.size ≤ _
  have h1 := Lib.itoa_length_le n hn.1 hn.2
  have h2 := listPre_len z hz len
  have h3 : s.data.toList.length = s.size := by simp
  rw [List.size_toArray]
  unfold textV listT
  split
  · omega
  · split
    · rw [List.length_append, List.length_append]; simp at h3 ⊢; omega
    · split
      · rw [List.length_append]; simp; omega
      · simp

theorem parse_back {k n : Int} {s : ByteArray} {len : Nat} {z : Nat → Int} (hn : In64 n) (hz : ∀ j, In64 (z j)) : errV k s len z = 0 → ∀ w e w', ParsePost ⟨(textV k n s len z).toArray⟩ w e w' →
    Below w.heap.size w w' ∧ ∃ k' n' T' a' l' c' z', e = .returned (.tuple #[val k' n' T' (.slice a' l' c'), .int .i64 0]) ∧ Reads w' a' l' z' ∧ cmpV k' n' T' l' z' k n s len z = 0 := by
  intro he w e w' h
  obtain ⟨p, hp, hp0, hx⟩ := value_back (k := k) (n := n) (s := s) (len := len) hn hz he
  have hd : (⟨(textV k n s len z).toArray⟩ : ByteArray).data.toList = textV k n s len z := by simp
  obtain ⟨hb, ⟨hr, _⟩ | ⟨p', hr, h0, _⟩ | ⟨p', k', n', T, a, l', cap, z', hr, h0, hi, hd', _, _, rfl⟩⟩ := h
  · rw [hd, hp] at hr; cases hr
  · rw [hd, hp] at hr; cases hr; exact absurd hp0 h0
  · rw [hd, hp] at hr; cases hr
    exact ⟨hb, k', n', T, a, l', cap, z', rfl, hd', hx hi⟩

set_option maxRecDepth 100000 in
set_option maxHeartbeats 8000000 in
theorem any_walk (k1 n1 : Int) (s1 : ByteArray) (a1 : Option Addr) (l1 c1 : Nat) (z1 : Nat → Int) (k2 n2 : Int) (s2 : ByteArray) (a2 : Option Addr) (l2 c2 : Nat) (z2 : Nat → Int) (_hk1 : In64 k1) (hn1 : In64 n1) (hs1 : s1.size ≤ maxLen) (hz1 : ∀ j, In64 (z1 j)) (w : World) (hr1 : Reads w a1 l1 z1) (_hk2 : In64 k2) (_hn2 : In64 n2) (hs2 : s2.size ≤ maxLen) (_hz2 : ∀ j, In64 (z2 j)) (hr2 : Reads w a2 l2 z2) (hw : Laid w) (h7 : 7 ≤ w.heap.size) :
    Calls Tryd.prog 3 #[val k1 n1 s1 (.slice a1 l1 c1), val k2 n2 s2 (.slice a2 l2 c2)] w fun e w' => e = .returned (.bool true) ∧ Below w.heap.size w w' := by
  unfold val
  have h7' := h7
  have LW := Lib.hid hw
  have HS1 := Lib.hid hs1
  have HS2 := Lib.hid hs2
  have HN1 := Lib.hid hn1
  have HZ1 := Lib.hid hz1
  have R01 := Lib.hid hr1
  have R02 := Lib.hid hr2
  clear hs1 hs2 hn1 hz1 hr1 hr2 hw _hk1 _hk2 _hn2 _hz2
  go_enter Tryd.func3, Tryd.ntmps3
  go_wp2_with fail
  generalize hW : World.alloc (World.alloc w _) _ = W
  have bl : Below w.heap.size w W := by rw [← hW]; exact ((Below.refl _ _).alloc (Nat.le_refl _) _).alloc (by simp) _
  have D0 := Lib.hid bl
  have A0 : Hid (VAt w.heap.size k1 n1 s1 a1 l1 c1 z1 W) := Lib.hid ⟨R01.out.kept bl, by
    rw [← hW]; exact (Below.heap_alloc _ _ _ (by simp)).trans (World.alloc_heap_new w _)⟩
  have B0 : Hid (VAt (w.heap.size + 1) k2 n2 s2 a2 l2 c2 z2 W) := Lib.hid ⟨R02.out.kept bl, by
    rw [← hW]
    have := World.alloc_heap_new (w.alloc (.cells #[.int .i64 k1, .int .i64 n1, .string s1, .slice a1 l1 c1] 24)) (.cells #[.int .i64 k2, .int .i64 n2, .string s2, .slice a2 l2 c2] 24)
    rwa [World.size_alloc] at this⟩
  obtain ⟨⟨x0, x1, x2, x3⟩, -, -, -, -⟩ := four A0.out.c
  obtain ⟨⟨y0, y1, y2, y3⟩, -, -, -, -⟩ := four B0.out.c
  clear hW bl
  refine (known_any _ (LW.out.below D0.out h7) (by have := D0.out.size; omega)).mono ?_
  rintro e w1 ⟨rfl, hb⟩
  have A1 : Hid (VAt w.heap.size k1 n1 s1 a1 l1 c1 z1 w1) := Lib.hid (A0.out.kept hb)
  have B1 : Hid (VAt (w.heap.size + 1) k2 n2 s2 a2 l2 c2 z2 w1) := Lib.hid (B0.out.kept hb)
  have D1 := Lib.hid (D0.out.trans (hb.mono D0.out.size))
  clear hb A0 B0 D0 x0 x1 x2 x3 y0 y1 y2 y3
  obtain ⟨⟨x0, x1, x2, x3⟩, -, -, -, -⟩ := four A1.out.c
  obtain ⟨⟨y0, y1, y2, y3⟩, -, -, -, -⟩ := four B1.out.c
  go_wp2_with fail
  cases f1 : fewB s1 l1 with
  | false =>
    have F := few_of A1.out HS1.out
    rw [f1] at F
    refine F.mono ?_
    clear F
    rintro e w2 ⟨rfl, hb⟩
    have A2 : Hid (VAt w.heap.size k1 n1 s1 a1 l1 c1 z1 w2) := Lib.hid (A1.out.kept hb)
    have B2 : Hid (VAt (w.heap.size + 1) k2 n2 s2 a2 l2 c2 z2 w2) := Lib.hid (B1.out.kept hb)
    have D2 := Lib.hid (D1.out.trans (hb.mono D1.out.size))
    clear hb A1 B1 D1 x0 x1 x2 x3 y0 y1 y2 y3
    obtain ⟨⟨x0, x1, x2, x3⟩, -, -, -, -⟩ := four A2.out.c
    obtain ⟨⟨y0, y1, y2, y3⟩, -, -, -, -⟩ := four B2.out.c
    go_wp2_with fail
    go_ret
    exact ⟨rfl, D2.out⟩
  | true =>
    have F := few_of A1.out HS1.out
    rw [f1] at F
    refine F.mono ?_
    clear F
    rintro e w2 ⟨rfl, hb⟩
    have A2 : Hid (VAt w.heap.size k1 n1 s1 a1 l1 c1 z1 w2) := Lib.hid (A1.out.kept hb)
    have B2 : Hid (VAt (w.heap.size + 1) k2 n2 s2 a2 l2 c2 z2 w2) := Lib.hid (B1.out.kept hb)
    have D2 := Lib.hid (D1.out.trans (hb.mono D1.out.size))
    clear hb A1 B1 D1 x0 x1 x2 x3 y0 y1 y2 y3
    obtain ⟨⟨x0, x1, x2, x3⟩, -, -, -, -⟩ := four A2.out.c
    obtain ⟨⟨y0, y1, y2, y3⟩, -, -, -, -⟩ := four B2.out.c
    go_wp2_with fail
    cases f2 : fewB s2 l2 with
    | false =>
      have F := few_of B2.out HS2.out
      rw [f2] at F
      refine F.mono ?_
      clear F
      rintro e w3 ⟨rfl, hb⟩
      have A3 : Hid (VAt w.heap.size k1 n1 s1 a1 l1 c1 z1 w3) := Lib.hid (A2.out.kept hb)
      have B3 : Hid (VAt (w.heap.size + 1) k2 n2 s2 a2 l2 c2 z2 w3) := Lib.hid (B2.out.kept hb)
      have D3 := Lib.hid (D2.out.trans (hb.mono D2.out.size))
      clear hb A2 B2 D2 x0 x1 x2 x3 y0 y1 y2 y3
      obtain ⟨⟨x0, x1, x2, x3⟩, -, -, -, -⟩ := four A3.out.c
      obtain ⟨⟨y0, y1, y2, y3⟩, -, -, -, -⟩ := four B3.out.c
      go_wp2_with fail
      go_ret
      exact ⟨rfl, D3.out⟩
    | true =>
      have F := few_of B2.out HS2.out
      rw [f2] at F
      refine F.mono ?_
      clear F
      rintro e w3 ⟨rfl, hb⟩
      have A3 : Hid (VAt w.heap.size k1 n1 s1 a1 l1 c1 z1 w3) := Lib.hid (A2.out.kept hb)
      have B3 : Hid (VAt (w.heap.size + 1) k2 n2 s2 a2 l2 c2 z2 w3) := Lib.hid (B2.out.kept hb)
      have D3 := Lib.hid (D2.out.trans (hb.mono D2.out.size))
      clear hb A2 B2 D2 x0 x1 x2 x3 y0 y1 y2 y3
      obtain ⟨⟨x0, x1, x2, x3⟩, -, -, -, -⟩ := four A3.out.c
      obtain ⟨⟨y0, y1, y2, y3⟩, -, -, -, -⟩ := four B3.out.c
      unfold fewB at f1 f2
      simp only [Bool.and_eq_true, decide_eq_true_eq] at f1 f2
      obtain ⟨g1, g2⟩ := f1
      obtain ⟨g3, g4⟩ := f2
      have F := cmpV_in k1 n1 s1 l1 z1 k2 n2 s2 l2 z2
      have O1 := fun w => of_any k1 n1 s1 a1 l1 c1 w
      have O2 := fun w => of_any k2 n2 s2 a2 l2 c2 w
      have R1 := fun w h => rCheck_any k1 n1 s1 (by omega) a1 l1 c1 z1 w h
      have R2 := fun w h => rCheck_any k2 n2 s2 (by omega) a2 l2 c2 z2 w h
      have K1 := fun w h => check_any k1 n1 s1 (by omega) a1 l1 c1 z1 w h
      have K2 := fun w h => check_any k2 n2 s2 (by omega) a2 l2 c2 z2 w h
      have C0 := fun w h h' => rCompare_any k1 n1 s1 a1 l1 c1 z1 k2 n2 s2 a2 l2 c2 z2 w h h'
      have C1 := fun w h h' => compare_any k1 n1 s1 a1 l1 c1 z1 k2 n2 s2 a2 l2 c2 z2 w h h'
      have C2 := fun w h h' => compare_any k2 n2 s2 a2 l2 c2 z2 k1 n1 s1 a1 l1 c1 z1 w h h'
      have SA := fun w h h' => same_any k1 n1 s1 a1 l1 c1 z1 k2 n2 s2 a2 l2 c2 z2 w h h'
      have T1 := fun w h h' h'' => text_any k1 n1 HN1.out s1 (by omega) a1 l1 c1 z1 HZ1.out (by omega) w h h' h''
      have T2 := fun w h => rText_any k1 n1 HN1.out s1 (by omega) a1 l1 c1 z1 HZ1.out (by omega) w h
      have XS : (⟨(textV k1 n1 s1 l1 z1).toArray⟩ : ByteArray).size ≤ 281474976710656 := textV_size HN1.out HZ1.out g1 g2
      have PB0 := parse_back (s := s1) (k := k1) (len := l1) HN1.out HZ1.out
      rw [cmpV_turn k1 n1 s1 l1 z1 k2 n2 s2 l2 z2] at C2
      obtain ⟨c, hc⟩ : ∃ x, cmpV k1 n1 s1 l1 z1 k2 n2 s2 l2 z2 = x := ⟨_, rfl⟩
      obtain ⟨E1, hE1⟩ : ∃ x, errV k1 s1 l1 z1 = x := ⟨_, rfl⟩
      obtain ⟨E2, hE2⟩ : ∃ x, errV k2 s2 l2 z2 = x := ⟨_, rfl⟩
      obtain ⟨X, hX⟩ : ∃ x : ByteArray, ⟨(textV k1 n1 s1 l1 z1).toArray⟩ = x := ⟨_, rfl⟩
      rw [hc] at C0 C1 C2 SA F
      rw [show decide (c = 0) = (c == 0) by by_cases h : c = 0 <;> simp [h]] at SA
      rw [hE1] at R1 K1 PB0
      rw [hE2] at R2 K2
      rw [hX] at T1 T2 XS PB0
      unfold val at O1 O2 R1 R2 K1 K2 C0 C1 C2 SA T1 T2
      have O1 := Lib.hid O1
      have O2 := Lib.hid O2
      have R1 := Lib.hid R1
      have R2 := Lib.hid R2
      have K1 := Lib.hid K1
      have K2 := Lib.hid K2
      have C0 := Lib.hid C0
      have C1 := Lib.hid C1
      have C2 := Lib.hid C2
      have SA := Lib.hid SA
      have T1 := Lib.hid T1
      have T2 := Lib.hid T2
      have PB := Lib.hid PB0
      clear PB0
      have XS := Lib.hid XS
      clear hc hE1 hE2 hX g1 g2 g3 g4
      go_wp2_with fail
      refine (O1.out _).mono ?_
      rintro e w4 ⟨rfl, hb⟩
      have A4 : Hid (VAt w.heap.size k1 n1 s1 a1 l1 c1 z1 w4) := Lib.hid (A3.out.kept hb)
      have B4 : Hid (VAt (w.heap.size + 1) k2 n2 s2 a2 l2 c2 z2 w4) := Lib.hid (B3.out.kept hb)
      have D4 := Lib.hid (D3.out.trans (hb.mono D3.out.size))
      clear hb A3 B3 D3 x0 x1 x2 x3 y0 y1 y2 y3
      obtain ⟨⟨x0, x1, x2, x3⟩, -, -, -, -⟩ := four A4.out.c
      obtain ⟨⟨y0, y1, y2, y3⟩, -, -, -, -⟩ := four B4.out.c
      go_wp2_with fail
      refine (R1.out _ A4.out.r).mono ?_
      rintro e w5 ⟨rfl, hb⟩
      have A5 : Hid (VAt w.heap.size k1 n1 s1 a1 l1 c1 z1 w5) := Lib.hid (A4.out.kept hb)
      have B5 : Hid (VAt (w.heap.size + 1) k2 n2 s2 a2 l2 c2 z2 w5) := Lib.hid (B4.out.kept hb)
      have D5 := Lib.hid (D4.out.trans (hb.mono D4.out.size))
      clear hb A4 B4 D4 x0 x1 x2 x3 y0 y1 y2 y3
      obtain ⟨⟨x0, x1, x2, x3⟩, -, -, -, -⟩ := four A5.out.c
      obtain ⟨⟨y0, y1, y2, y3⟩, -, -, -, -⟩ := four B5.out.c
      go_wp2_with fail
      refine (O2.out _).mono ?_
      rintro e w6 ⟨rfl, hb⟩
      have A6 : Hid (VAt w.heap.size k1 n1 s1 a1 l1 c1 z1 w6) := Lib.hid (A5.out.kept hb)
      have B6 : Hid (VAt (w.heap.size + 1) k2 n2 s2 a2 l2 c2 z2 w6) := Lib.hid (B5.out.kept hb)
      have D6 := Lib.hid (D5.out.trans (hb.mono D5.out.size))
      clear hb A5 B5 D5 x0 x1 x2 x3 y0 y1 y2 y3
      obtain ⟨⟨x0, x1, x2, x3⟩, -, -, -, -⟩ := four A6.out.c
      obtain ⟨⟨y0, y1, y2, y3⟩, -, -, -, -⟩ := four B6.out.c
      go_wp2_with fail
      refine (R2.out _ B6.out.r).mono ?_
      rintro e w7 ⟨rfl, hb⟩
      have A7 : Hid (VAt w.heap.size k1 n1 s1 a1 l1 c1 z1 w7) := Lib.hid (A6.out.kept hb)
      have B7 : Hid (VAt (w.heap.size + 1) k2 n2 s2 a2 l2 c2 z2 w7) := Lib.hid (B6.out.kept hb)
      have D7 := Lib.hid (D6.out.trans (hb.mono D6.out.size))
      clear hb A6 B6 D6 x0 x1 x2 x3 y0 y1 y2 y3
      obtain ⟨⟨x0, x1, x2, x3⟩, -, -, -, -⟩ := four A7.out.c
      obtain ⟨⟨y0, y1, y2, y3⟩, -, -, -, -⟩ := four B7.out.c
      go_wp2_with fail
      refine (K1.out _ A7.out.r).mono ?_
      rintro e w8 ⟨rfl, hb⟩
      have A8 : Hid (VAt w.heap.size k1 n1 s1 a1 l1 c1 z1 w8) := Lib.hid (A7.out.kept hb)
      have B8 : Hid (VAt (w.heap.size + 1) k2 n2 s2 a2 l2 c2 z2 w8) := Lib.hid (B7.out.kept hb)
      have D8 := Lib.hid (D7.out.trans (hb.mono D7.out.size))
      clear hb A7 B7 D7 x0 x1 x2 x3 y0 y1 y2 y3
      obtain ⟨⟨x0, x1, x2, x3⟩, -, -, -, -⟩ := four A8.out.c
      obtain ⟨⟨y0, y1, y2, y3⟩, -, -, -, -⟩ := four B8.out.c
      go_wp2_with fail
      refine (K2.out _ B8.out.r).mono ?_
      rintro e w9 ⟨rfl, hb⟩
      have A9 : Hid (VAt w.heap.size k1 n1 s1 a1 l1 c1 z1 w9) := Lib.hid (A8.out.kept hb)
      have B9 : Hid (VAt (w.heap.size + 1) k2 n2 s2 a2 l2 c2 z2 w9) := Lib.hid (B8.out.kept hb)
      have D9 := Lib.hid (D8.out.trans (hb.mono D8.out.size))
      clear hb A8 B8 D8 x0 x1 x2 x3 y0 y1 y2 y3
      obtain ⟨⟨x0, x1, x2, x3⟩, -, -, -, -⟩ := four A9.out.c
      obtain ⟨⟨y0, y1, y2, y3⟩, -, -, -, -⟩ := four B9.out.c
      go_wp2_with fail
      go_region_held3 (fun w' => (w'.cell? ⟨w.heap.size, 0, none⟩ = some (.int .i64 k1) ∧ w'.cell? ⟨w.heap.size, 1, none⟩ = some (.int .i64 n1) ∧ w'.cell? ⟨w.heap.size, 2, none⟩ = some (.string s1) ∧ w'.cell? ⟨w.heap.size, 3, none⟩ = some (.slice a1 l1 c1)) ∧ (w'.cell? ⟨w.heap.size + 1, 0, none⟩ = some (.int .i64 k2) ∧ w'.cell? ⟨w.heap.size + 1, 1, none⟩ = some (.int .i64 n2) ∧ w'.cell? ⟨w.heap.size + 1, 2, none⟩ = some (.string s2) ∧ w'.cell? ⟨w.heap.size + 1, 3, none⟩ = some (.slice a2 l2 c2))) (first | assumption | (refine ⟨⟨?_, ?_, ?_, ?_⟩, ⟨?_, ?_, ?_, ?_⟩⟩ <;> (first | assumption | (go_keep; done)))) (first
        | (go_at_call 11
           with_reducible refine (O1.out _).mono ?_
           rintro e w10 ⟨rfl, hb⟩
           have D10 := Lib.hid (D9.out.drew.trans (hb.mono (by show _ ≤ w9.heap.size; exact D9.out.size)))
           have A10 : Hid (VAt w.heap.size k1 n1 s1 a1 l1 c1 z1 w10) := Lib.hid (A9.out.drewV.kept hb)
           have B10 : Hid (VAt (w.heap.size + 1) k2 n2 s2 a2 l2 c2 z2 w10) := Lib.hid (B9.out.drewV.kept hb)
           have cc := And.intro (four A10.out.c).1 (four B10.out.c).1
           clear hb)
        | (go_at_call 11
           with_reducible refine (O2.out _).mono ?_
           rintro e w11 ⟨rfl, hb⟩
           have D11 := Lib.hid (D10.out.trans (hb.mono (by show _ ≤ w10.heap.size; exact D10.out.size)))
           have A11 : Hid (VAt w.heap.size k1 n1 s1 a1 l1 c1 z1 w11) := Lib.hid (A10.out.kept hb)
           have B11 : Hid (VAt (w.heap.size + 1) k2 n2 s2 a2 l2 c2 z2 w11) := Lib.hid (B10.out.kept hb)
           have cc := And.intro (four A11.out.c).1 (four B11.out.c).1
           clear hb)
        | (go_at_call 13
           with_reducible refine (C0.out _ A11.out.r B11.out.r).mono ?_
           rintro e w12 ⟨rfl, hb⟩
           have D12 := Lib.hid (D11.out.trans (hb.mono (by show _ ≤ w11.heap.size; exact D11.out.size)))
           have A12 : Hid (VAt w.heap.size k1 n1 s1 a1 l1 c1 z1 w12) := Lib.hid (A11.out.kept hb)
           have B12 : Hid (VAt (w.heap.size + 1) k2 n2 s2 a2 l2 c2 z2 w12) := Lib.hid (B11.out.kept hb)
           have cc := And.intro (four A12.out.c).1 (four B12.out.c).1
           clear hb))
      clear A9 B9 D9 A10 B10 D10 A11 B11 D11 x0 x1 x2 x3 y0 y1 y2 y3
      obtain ⟨⟨x0, x1, x2, x3⟩, -, -, -, -⟩ := four A12.out.c
      obtain ⟨⟨y0, y1, y2, y3⟩, -, -, -, -⟩ := four B12.out.c
      have j1 : IntKind.i64.wrap (0 - c) = -c := by rw [IntWalk.i64_in _ (by omega)]; omega
      have j2 : IntKind.i64.wrap (-c) = -c := IntWalk.i64_in _ (by omega)
      go_wp2_with fail
      go_region_held3 (fun w' => (w'.cell? ⟨w.heap.size, 0, none⟩ = some (.int .i64 k1) ∧ w'.cell? ⟨w.heap.size, 1, none⟩ = some (.int .i64 n1) ∧ w'.cell? ⟨w.heap.size, 2, none⟩ = some (.string s1) ∧ w'.cell? ⟨w.heap.size, 3, none⟩ = some (.slice a1 l1 c1)) ∧ (w'.cell? ⟨w.heap.size + 1, 0, none⟩ = some (.int .i64 k2) ∧ w'.cell? ⟨w.heap.size + 1, 1, none⟩ = some (.int .i64 n2) ∧ w'.cell? ⟨w.heap.size + 1, 2, none⟩ = some (.string s2) ∧ w'.cell? ⟨w.heap.size + 1, 3, none⟩ = some (.slice a2 l2 c2))) (first | assumption | (refine ⟨⟨?_, ?_, ?_, ?_⟩, ⟨?_, ?_, ?_, ?_⟩⟩ <;> (first | assumption | (go_keep; done)))) (first
        | (go_at_call 14
           with_reducible refine (C1.out _ (A12.out.drewV).r (B12.out.drewV).r).mono ?_
           rintro e w13 ⟨rfl, hb⟩
           have D13 := Lib.hid (D12.out.drew.trans (hb.mono (by show _ ≤ w12.heap.size; exact D12.out.size)))
           have A13 : Hid (VAt w.heap.size k1 n1 s1 a1 l1 c1 z1 w13) := Lib.hid (A12.out.drewV.kept hb)
           have B13 : Hid (VAt (w.heap.size + 1) k2 n2 s2 a2 l2 c2 z2 w13) := Lib.hid (B12.out.drewV.kept hb)
           have cc := And.intro (four A13.out.c).1 (four B13.out.c).1
           clear hb)
        | (go_at_call 14
           with_reducible refine (C2.out _ B13.out.r A13.out.r).mono ?_
           rintro e w14 ⟨rfl, hb⟩
           have D14 := Lib.hid (D13.out.trans (hb.mono (by show _ ≤ w13.heap.size; exact D13.out.size)))
           have A14 : Hid (VAt w.heap.size k1 n1 s1 a1 l1 c1 z1 w14) := Lib.hid (A13.out.kept hb)
           have B14 : Hid (VAt (w.heap.size + 1) k2 n2 s2 a2 l2 c2 z2 w14) := Lib.hid (B13.out.kept hb)
           have cc := And.intro (four A14.out.c).1 (four B14.out.c).1
           clear hb)
        | (go_at_call 15
           with_reducible refine (T1.out _ A14.out.r (LW.out.below D14.out h7') (by have := D14.out.size; omega)).mono ?_
           rintro e w15 ⟨rfl, hb⟩
           have D15 := Lib.hid (D14.out.trans (hb.mono (by show _ ≤ w14.heap.size; exact D14.out.size)))
           have A15 : Hid (VAt w.heap.size k1 n1 s1 a1 l1 c1 z1 w15) := Lib.hid (A14.out.kept hb)
           have B15 : Hid (VAt (w.heap.size + 1) k2 n2 s2 a2 l2 c2 z2 w15) := Lib.hid (B14.out.kept hb)
           have cc := And.intro (four A15.out.c).1 (four B15.out.c).1
           clear hb)
        | (go_at_call 11
           with_reducible refine (O1.out _).mono ?_
           rintro e w16 ⟨rfl, hb⟩
           have D16 := Lib.hid (D15.out.trans (hb.mono (by show _ ≤ w15.heap.size; exact D15.out.size)))
           have A16 : Hid (VAt w.heap.size k1 n1 s1 a1 l1 c1 z1 w16) := Lib.hid (A15.out.kept hb)
           have B16 : Hid (VAt (w.heap.size + 1) k2 n2 s2 a2 l2 c2 z2 w16) := Lib.hid (B15.out.kept hb)
           have cc := And.intro (four A16.out.c).1 (four B16.out.c).1
           clear hb)
        | (go_at_call 16
           with_reducible refine (T2.out _ A16.out.r).mono ?_
           rintro e w17 ⟨rfl, hb⟩
           have D17 := Lib.hid (D16.out.trans (hb.mono (by show _ ≤ w16.heap.size; exact D16.out.size)))
           have A17 : Hid (VAt w.heap.size k1 n1 s1 a1 l1 c1 z1 w17) := Lib.hid (A16.out.kept hb)
           have B17 : Hid (VAt (w.heap.size + 1) k2 n2 s2 a2 l2 c2 z2 w17) := Lib.hid (B16.out.kept hb)
           have cc := And.intro (four A17.out.c).1 (four B17.out.c).1
           clear hb))
      clear A12 B12 D12 A13 B13 D13 A14 B14 D14 A15 B15 D15 A16 B16 D16 x0 x1 x2 x3 y0 y1 y2 y3
      obtain ⟨⟨x0, x1, x2, x3⟩, -, -, -, -⟩ := four A17.out.c
      obtain ⟨⟨y0, y1, y2, y3⟩, -, -, -, -⟩ := four B17.out.c
      clear j1 j2
      by_cases e1 : E1 = 0
      · by_cases e2 : E2 = 0
        · have PBB := Lib.hid (PB.out e1)
          subst e1 e2
          go_wp2_with fail
          refine (T1.out _ A17.out.r (LW.out.below D17.out h7') (by have := D17.out.size; omega)).mono ?_
          rintro e w18 ⟨rfl, hb⟩
          have A18 : Hid (VAt w.heap.size k1 n1 s1 a1 l1 c1 z1 w18) := Lib.hid (A17.out.kept hb)
          have B18 : Hid (VAt (w.heap.size + 1) k2 n2 s2 a2 l2 c2 z2 w18) := Lib.hid (B17.out.kept hb)
          have D18 := Lib.hid (D17.out.trans (hb.mono D17.out.size))
          clear hb A17 B17 D17 x0 x1 x2 x3 y0 y1 y2 y3
          obtain ⟨⟨x0, x1, x2, x3⟩, -, -, -, -⟩ := four A18.out.c
          obtain ⟨⟨y0, y1, y2, y3⟩, -, -, -, -⟩ := four B18.out.c
          go_wp2_with fail
          refine (parse_any X XS.out _ (LW.out.below D18.out h7') (by have := D18.out.size; omega)).mono ?_
          intro e w19 hp
          obtain ⟨hb, k', n', T', a', l', c', z', rfl, hr', hx⟩ := PBB.out w18 e w19 hp
          have A19 : Hid (VAt w.heap.size k1 n1 s1 a1 l1 c1 z1 w19) := Lib.hid (A18.out.kept hb)
          have B19 : Hid (VAt (w.heap.size + 1) k2 n2 s2 a2 l2 c2 z2 w19) := Lib.hid (B18.out.kept hb)
          have D19 := Lib.hid (D18.out.trans (hb.mono D18.out.size))
          have HR := Lib.hid hr'
          have HX := Lib.hid hx
          clear hb hp hr' hx A18 B18 D18 PB PBB x0 x1 x2 x3 y0 y1 y2 y3
          have al := fun o => (Below.refl w19.heap.size w19).alloc (Nat.le_refl _) o
          have x0 := fun o => (four (A19.out.kept (al o)).c).1.1
          have x1 := fun o => (four (A19.out.kept (al o)).c).1.2.1
          have x2 := fun o => (four (A19.out.kept (al o)).c).1.2.2.1
          have x3 := fun o => (four (A19.out.kept (al o)).c).1.2.2.2
          have y0 := fun o => (four (B19.out.kept (al o)).c).1.1
          have y1 := fun o => (four (B19.out.kept (al o)).c).1.2.1
          have y2 := fun o => (four (B19.out.kept (al o)).c).1.2.2.1
          have y3 := fun o => (four (B19.out.kept (al o)).c).1.2.2.2
          clear al
          unfold val
          go_wp2_with fail
          generalize hV : World.alloc w19 _ = V
          have bl : Below w19.heap.size w19 V := by rw [← hV]; exact (Below.refl _ _).alloc (Nat.le_refl _) _
          have A20 : Hid (VAt w.heap.size k1 n1 s1 a1 l1 c1 z1 V) := Lib.hid (A19.out.kept bl)
          have B20 : Hid (VAt (w.heap.size + 1) k2 n2 s2 a2 l2 c2 z2 V) := Lib.hid (B19.out.kept bl)
          have G20 : Hid (VAt w19.heap.size k' n' T' a' l' c' z' V) := Lib.hid ⟨HR.out.kept bl, by rw [← hV]; exact World.alloc_heap_new w19 _⟩
          have D20 := Lib.hid (D19.out.trans (bl.mono D19.out.size))
          clear hV bl A19 B19 D19 HR x0 x1 x2 x3 y0 y1 y2 y3
          refine (SA.out _ A20.out.r B20.out.r).mono ?_
          rintro e w21 ⟨rfl, hb⟩
          have A21 : Hid (VAt w.heap.size k1 n1 s1 a1 l1 c1 z1 w21) := Lib.hid (A20.out.kept hb)
          have G21 : Hid (VAt w19.heap.size k' n' T' a' l' c' z' w21) := Lib.hid (G20.out.kept hb)
          have D21 := Lib.hid (D20.out.trans (hb.mono D20.out.size))
          clear hb A20 B20 G20 D20
          obtain ⟨⟨x0, x1, x2, x3⟩, -, -, -, -⟩ := four A21.out.c
          obtain ⟨⟨y0, y1, y2, y3⟩, -, -, -, -⟩ := four G21.out.c
          have C := same_any k' n' T' a' l' c' z' k1 n1 s1 a1 l1 c1 z1 w21 G21.out.r A21.out.r
          rw [HX.out, show decide ((0 : Int) = 0) = true from rfl] at C
          unfold val at C
          have C := Lib.hid C
          go_wp2_with fail
          refine C.out.mono ?_
          clear C
          rintro e w22 ⟨rfl, hb⟩
          have A22 : Hid (VAt w.heap.size k1 n1 s1 a1 l1 c1 z1 w22) := Lib.hid (A21.out.kept hb)
          have G22 : Hid (VAt w19.heap.size k' n' T' a' l' c' z' w22) := Lib.hid (G21.out.kept hb)
          have D22 := Lib.hid (D21.out.trans (hb.mono D21.out.size))
          clear hb A21 G21 D21 x0 x1 x2 x3 y0 y1 y2 y3
          obtain ⟨⟨x0, x1, x2, x3⟩, -, -, -, -⟩ := four A22.out.c
          obtain ⟨⟨y0, y1, y2, y3⟩, -, -, -, -⟩ := four G22.out.c
          have C := compare_any k' n' T' a' l' c' z' k1 n1 s1 a1 l1 c1 z1 w22 G22.out.r A22.out.r
          rw [HX.out] at C
          unfold val at C
          have C := Lib.hid C
          go_wp2_with fail
          refine C.out.mono ?_
          clear C
          rintro e w23 ⟨rfl, hb⟩
          have A23 : Hid (VAt w.heap.size k1 n1 s1 a1 l1 c1 z1 w23) := Lib.hid (A22.out.kept hb)
          have G23 : Hid (VAt w19.heap.size k' n' T' a' l' c' z' w23) := Lib.hid (G22.out.kept hb)
          have D23 := Lib.hid (D22.out.trans (hb.mono D22.out.size))
          go_wp2_with fail
          go_ret
          exact ⟨rfl, D23.out⟩
        · have e2' : (E2 == 0) = false := by rw [beq_eq_false_iff_ne]; exact e2
          go_wp2_with fail
          go_ret
          exact ⟨rfl, D17.out⟩
      · have e1' : (E1 == 0) = false := by rw [beq_eq_false_iff_ne]; exact e1
        go_wp2_with fail
        go_ret
        exact ⟨rfl, D17.out⟩

end Go.Proofs.YtdghknmlleffbaaDoor
