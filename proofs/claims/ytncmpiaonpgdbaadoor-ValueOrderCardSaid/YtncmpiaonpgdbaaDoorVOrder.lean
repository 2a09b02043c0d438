/-
  No statement: the walk of ValueOrder (P201).
-/
import Derived.Test.YtncmpiaonpgdbaaDoorVKnown
import Derived.Test.YtncmpiaonpgdbaaDoorVVal
namespace Go.Proofs.YtncmpiaonpgdbaaDoor
open Go.RowKit

/-- A value is short. -/
def fewB (s : ByteArray) (len : Nat) : Bool := decide (s.size ≤ 200) && decide (len ≤ 40)

theorem ret_bool {a b : Bool} (h : a = b) : Ending.returned (.bool a) = .returned (.bool b) := by rw [h]

set_option maxHeartbeats 1000000 in
theorem few_any (k n : Int) (s : ByteArray) (hs : s.size ≤ maxLen) (a : Option Addr) (len cap : Nat) (hl : len ≤ maxLen) (w : World) :
    Calls Tryd.prog 10 #[val k n s (.slice a len cap)] w fun e w' => e = .returned (.bool (fewB s len)) ∧ Below w.heap.size w w' := by
  unfold maxLen at hs hl
  unfold val
  by_cases h1 : s.size ≤ 200
  · by_cases h2 : len ≤ 40
    · rw [show fewB s len = true by unfold fewB; rw [decide_eq_true h1, decide_eq_true h2]; rfl]
      go_enter Tryd.func10, Tryd.ntmps10
      go_wp2_with fail
      go_ret
      exact ⟨ret_bool (a := decide ((len : Int) ≤ 40)) (decide_eq_true (by omega)), (Below.refl _ _).alloc (Nat.le_refl _) _⟩
    · rw [show fewB s len = false by unfold fewB; rw [decide_eq_true h1, decide_eq_false h2]; rfl]
      go_enter Tryd.func10, Tryd.ntmps10
      go_wp2_with fail
      go_ret
      exact ⟨ret_bool (a := decide ((len : Int) ≤ 40)) (decide_eq_false (by omega)), (Below.refl _ _).alloc (Nat.le_refl _) _⟩
  · rw [show fewB s len = false by unfold fewB; rw [decide_eq_false h1]; rfl]
    go_enter Tryd.func10, Tryd.ntmps10
    go_wp2_with fail
    go_ret
    exact ⟨rfl, (Below.refl _ _).alloc (Nat.le_refl _) _⟩

/-- A value lies in block B, its numbers where its slice says. -/
structure VAt (B : Nat) (k n : Int) (s : ByteArray) (a : Option Addr) (l c : Nat) (z : Nat → Int) (w : World) : Prop where
  r : Reads w a l z
  c : w.heap[B]? = some (.cells #[.int .i64 k, .int .i64 n, .string s, .slice a l c] 24 (0, 0))

theorem VAt.kept {B : Nat} {k n : Int} {s : ByteArray} {a : Option Addr} {l c : Nat} {z : Nat → Int} {w w' : World} (h : VAt B k n s a l c z w) (hb : Below w.heap.size w w') : VAt B k n s a l c z w' :=
  ⟨h.r.kept hb, (hb.block _ (lt_of_block h.c)).trans h.c⟩

theorem few_of {k n : Int} {s : ByteArray} {a : Option Addr} {l c : Nat} {z : Nat → Int} {B : Nat} {w : World} (h : VAt B k n s a l c z w) (hs : s.size ≤ maxLen) : Calls Tryd.prog 10 #[.agg #[.int .i64 k, .int .i64 n, .string s, .slice a l c]] w fun e w' => e = .returned (.bool (fewB s l)) ∧ Below w.heap.size w w' :=
  few_any k n s hs a l c h.r.1 w

theorem compare_of {k1 n1 : Int} {s1 : ByteArray} {a1 : Option Addr} {l1 c1 : Nat} {z1 : Nat → Int} {B1 : Nat} {k2 n2 : Int} {s2 : ByteArray} {a2 : Option Addr} {l2 c2 : Nat} {z2 : Nat → Int} {B2 : Nat} {w : World} (h1 : VAt B1 k1 n1 s1 a1 l1 c1 z1 w) (h2 : VAt B2 k2 n2 s2 a2 l2 c2 z2 w) {x : Int} (hx : cmpV k1 n1 s1 l1 z1 k2 n2 s2 l2 z2 = x) :
    Calls Tryd.prog 15 #[.agg #[.int .i64 k1, .int .i64 n1, .string s1, .slice a1 l1 c1], .agg #[.int .i64 k2, .int .i64 n2, .string s2, .slice a2 l2 c2]] w fun e w' => e = .returned (.int .i64 x) ∧ Below w.heap.size w w' := by
  rw [← hx]
  exact compare_any k1 n1 s1 a1 l1 c1 z1 k2 n2 s2 a2 l2 c2 z2 w h1.r h2.r

set_option maxRecDepth 100000 in
set_option maxHeartbeats 4000000 in
theorem order_walk (k1 n1 : Int) (s1 : ByteArray) (a1 : Option Addr) (l1 c1 : Nat) (z1 : Nat → Int) (k2 n2 : Int) (s2 : ByteArray) (a2 : Option Addr) (l2 c2 : Nat) (z2 : Nat → Int) (k3 n3 : Int) (s3 : ByteArray) (a3 : Option Addr) (l3 c3 : Nat) (z3 : Nat → Int) (_hk1 : In64 k1) (_hn1 : In64 n1) (hs1 : s1.size ≤ maxLen) (_hz1 : ∀ j, In64 (z1 j)) (w : World) (hr1 : Reads w a1 l1 z1) (_hk2 : In64 k2) (_hn2 : In64 n2) (hs2 : s2.size ≤ maxLen) (_hz2 : ∀ j, In64 (z2 j)) (hr2 : Reads w a2 l2 z2) (_hk3 : In64 k3) (_hn3 : In64 n3) (hs3 : s3.size ≤ maxLen) (_hz3 : ∀ j, In64 (z3 j)) (hr3 : Reads w a3 l3 z3) (hw : Laid w) (h7 : 7 ≤ w.heap.size) :
    Calls Tryd.prog 6 #[val k1 n1 s1 (.slice a1 l1 c1), val k2 n2 s2 (.slice a2 l2 c2), val k3 n3 s3 (.slice a3 l3 c3)] w fun e w' => e = .returned (.bool true) ∧ Below w.heap.size w w' := by
  unfold val
  obtain ⟨o1, ho1⟩ : ∃ o, Obj.cells #[.int .i64 k1, .int .i64 n1, .string s1, .slice a1 l1 c1] 24 = o := ⟨_, rfl⟩
  obtain ⟨o2, ho2⟩ : ∃ o, Obj.cells #[.int .i64 k2, .int .i64 n2, .string s2, .slice a2 l2 c2] 24 = o := ⟨_, rfl⟩
  obtain ⟨o3, ho3⟩ : ∃ o, Obj.cells #[.int .i64 k3, .int .i64 n3, .string s3, .slice a3 l3 c3] 24 = o := ⟨_, rfl⟩
  have bl : Below w.heap.size w (((w.alloc o1).alloc o2).alloc o3) := (((Below.refl _ _).alloc (Nat.le_refl _) _).alloc (by simp) _).alloc (by simp; omega) _
  have V1 : VAt w.heap.size k1 n1 s1 a1 l1 c1 z1 (((w.alloc o1).alloc o2).alloc o3) :=
    ⟨hr1.kept bl, (Below.heap_alloc _ _ _ (by simp; omega)).trans ((Below.heap_alloc _ _ _ (by simp)).trans (by rw [ho1]; exact World.alloc_heap_new w o1))⟩
  have V2 : VAt (w.heap.size + 1) k2 n2 s2 a2 l2 c2 z2 (((w.alloc o1).alloc o2).alloc o3) :=
    ⟨hr2.kept bl, (Below.heap_alloc _ _ _ (by simp)).trans (by rw [ho2]; have := World.alloc_heap_new (w.alloc o1) o2; rwa [World.size_alloc] at this)⟩
  have V3 : VAt (w.heap.size + 1 + 1) k3 n3 s3 a3 l3 c3 z3 (((w.alloc o1).alloc o2).alloc o3) :=
    ⟨hr3.kept bl, by rw [ho3]; have := World.alloc_heap_new ((w.alloc o1).alloc o2) o3; simpa using this⟩
  have LW := Lib.hid (hw.below bl h7)
  have A0 := Lib.hid V1
  have B0 := Lib.hid V2
  have C0 := Lib.hid V3
  have D0 := Lib.hid bl
  have O3 := ordV k1 n1 s1 l1 z1 k2 n2 s2 l2 z2 k3 n3 s3 l3 z3
  obtain ⟨x, hx⟩ : ∃ x, cmpV k1 n1 s1 l1 z1 k2 n2 s2 l2 z2 = x := ⟨_, rfl⟩
  obtain ⟨y, hy⟩ : ∃ x, cmpV k2 n2 s2 l2 z2 k3 n3 s3 l3 z3 = x := ⟨_, rfl⟩
  obtain ⟨z, hz⟩ : ∃ x, cmpV k1 n1 s1 l1 z1 k3 n3 s3 l3 z3 = x := ⟨_, rfl⟩
  rw [hx, hy, hz] at O3
  have X := Lib.hid hx
  have Y := Lib.hid hy
  have Z := Lib.hid hz
  have S1 := Lib.hid hs1
  have S2 := Lib.hid hs2
  have S3 := Lib.hid hs3
  have O := Lib.hid O3
  subst ho1; subst ho2; subst ho3
  clear hs1 hr1 hs2 hr2 hs3 hr3 hw V1 V2 V3 bl hx hy hz O3
  go_enter Tryd.func6, Tryd.ntmps6
  go_wp2_with fail
  refine (known_any _ LW.out (by simp; omega)).mono ?_
  rintro e w1 ⟨rfl, hb⟩
  have A1 := Lib.hid (A0.out.kept hb)
  have B1 := Lib.hid (B0.out.kept hb)
  have C1 := Lib.hid (C0.out.kept hb)
  have D1 := Lib.hid (D0.out.trans (hb.mono (by have := D0.out.size; omega)))
  clear hb A0 B0 C0 D0
  obtain ⟨⟨x0, x1, x2, x3⟩, xf0, xf1, xf2, xf3⟩ := four A1.out.c
  obtain ⟨⟨y0, y1, y2, y3⟩, yf0, yf1, yf2, yf3⟩ := four B1.out.c
  obtain ⟨⟨u0, u1, u2, u3⟩, uf0, uf1, uf2, uf3⟩ := four C1.out.c
  go_wp2_with fail
  cases f1 : fewB s1 l1 with
  | false =>
    have F := few_of A1.out S1.out
    rw [f1] at F
    refine (F).mono ?_
    rintro e w2 ⟨rfl, hb⟩
    have A2 := Lib.hid (A1.out.kept hb)
    have B2 := Lib.hid (B1.out.kept hb)
    have C2 := Lib.hid (C1.out.kept hb)
    have D2 := Lib.hid (D1.out.trans (hb.mono (by have := D1.out.size; omega)))
    clear x0 x1 x2 x3 xf0 xf1 xf2 xf3 y0 y1 y2 y3 yf0 yf1 yf2 yf3 u0 u1 u2 u3 uf0 uf1 uf2 uf3
    clear hb A1 B1 C1 D1
    obtain ⟨⟨x0, x1, x2, x3⟩, xf0, xf1, xf2, xf3⟩ := four A2.out.c
    obtain ⟨⟨y0, y1, y2, y3⟩, yf0, yf1, yf2, yf3⟩ := four B2.out.c
    obtain ⟨⟨u0, u1, u2, u3⟩, uf0, uf1, uf2, uf3⟩ := four C2.out.c
    clear F
    go_wp2_with fail
    go_ret
    exact ⟨rfl, D2.out⟩
  | true =>
    have F := few_of A1.out S1.out
    rw [f1] at F
    refine (F).mono ?_
    rintro e w2 ⟨rfl, hb⟩
    have A2 := Lib.hid (A1.out.kept hb)
    have B2 := Lib.hid (B1.out.kept hb)
    have C2 := Lib.hid (C1.out.kept hb)
    have D2 := Lib.hid (D1.out.trans (hb.mono (by have := D1.out.size; omega)))
    clear x0 x1 x2 x3 xf0 xf1 xf2 xf3 y0 y1 y2 y3 yf0 yf1 yf2 yf3 u0 u1 u2 u3 uf0 uf1 uf2 uf3
    clear hb A1 B1 C1 D1
    obtain ⟨⟨x0, x1, x2, x3⟩, xf0, xf1, xf2, xf3⟩ := four A2.out.c
    obtain ⟨⟨y0, y1, y2, y3⟩, yf0, yf1, yf2, yf3⟩ := four B2.out.c
    obtain ⟨⟨u0, u1, u2, u3⟩, uf0, uf1, uf2, uf3⟩ := four C2.out.c
    clear F
    go_wp2_with fail
    cases f2 : fewB s2 l2 with
    | false =>
      have F := few_of B2.out S2.out
      rw [f2] at F
      refine (F).mono ?_
      rintro e w3 ⟨rfl, hb⟩
      have A3 := Lib.hid (A2.out.kept hb)
      have B3 := Lib.hid (B2.out.kept hb)
      have C3 := Lib.hid (C2.out.kept hb)
      have D3 := Lib.hid (D2.out.trans (hb.mono (by have := D2.out.size; omega)))
      clear x0 x1 x2 x3 xf0 xf1 xf2 xf3 y0 y1 y2 y3 yf0 yf1 yf2 yf3 u0 u1 u2 u3 uf0 uf1 uf2 uf3
      clear hb A2 B2 C2 D2
      obtain ⟨⟨x0, x1, x2, x3⟩, xf0, xf1, xf2, xf3⟩ := four A3.out.c
      obtain ⟨⟨y0, y1, y2, y3⟩, yf0, yf1, yf2, yf3⟩ := four B3.out.c
      obtain ⟨⟨u0, u1, u2, u3⟩, uf0, uf1, uf2, uf3⟩ := four C3.out.c
      clear F
      go_wp2_with fail
      go_ret
      exact ⟨rfl, D3.out⟩
    | true =>
      have F := few_of B2.out S2.out
      rw [f2] at F
      refine (F).mono ?_
      rintro e w3 ⟨rfl, hb⟩
      have A3 := Lib.hid (A2.out.kept hb)
      have B3 := Lib.hid (B2.out.kept hb)
      have C3 := Lib.hid (C2.out.kept hb)
      have D3 := Lib.hid (D2.out.trans (hb.mono (by have := D2.out.size; omega)))
      clear x0 x1 x2 x3 xf0 xf1 xf2 xf3 y0 y1 y2 y3 yf0 yf1 yf2 yf3 u0 u1 u2 u3 uf0 uf1 uf2 uf3
      clear hb A2 B2 C2 D2
      obtain ⟨⟨x0, x1, x2, x3⟩, xf0, xf1, xf2, xf3⟩ := four A3.out.c
      obtain ⟨⟨y0, y1, y2, y3⟩, yf0, yf1, yf2, yf3⟩ := four B3.out.c
      obtain ⟨⟨u0, u1, u2, u3⟩, uf0, uf1, uf2, uf3⟩ := four C3.out.c
      clear F
      go_wp2_with fail
      cases f3 : fewB s3 l3 with
      | false =>
        have F := few_of C3.out S3.out
        rw [f3] at F
        refine (F).mono ?_
        rintro e w4 ⟨rfl, hb⟩
        have A4 := Lib.hid (A3.out.kept hb)
        have B4 := Lib.hid (B3.out.kept hb)
        have C4 := Lib.hid (C3.out.kept hb)
        have D4 := Lib.hid (D3.out.trans (hb.mono (by have := D3.out.size; omega)))
        clear x0 x1 x2 x3 xf0 xf1 xf2 xf3 y0 y1 y2 y3 yf0 yf1 yf2 yf3 u0 u1 u2 u3 uf0 uf1 uf2 uf3
        clear hb A3 B3 C3 D3
        obtain ⟨⟨x0, x1, x2, x3⟩, xf0, xf1, xf2, xf3⟩ := four A4.out.c
        obtain ⟨⟨y0, y1, y2, y3⟩, yf0, yf1, yf2, yf3⟩ := four B4.out.c
        obtain ⟨⟨u0, u1, u2, u3⟩, uf0, uf1, uf2, uf3⟩ := four C4.out.c
        clear F
        go_wp2_with fail
        go_ret
        exact ⟨rfl, D4.out⟩
      | true =>
        have F := few_of C3.out S3.out
        rw [f3] at F
        refine (F).mono ?_
        rintro e w4 ⟨rfl, hb⟩
        have A4 := Lib.hid (A3.out.kept hb)
        have B4 := Lib.hid (B3.out.kept hb)
        have C4 := Lib.hid (C3.out.kept hb)
        have D4 := Lib.hid (D3.out.trans (hb.mono (by have := D3.out.size; omega)))
        clear x0 x1 x2 x3 xf0 xf1 xf2 xf3 y0 y1 y2 y3 yf0 yf1 yf2 yf3 u0 u1 u2 u3 uf0 uf1 uf2 uf3
        clear hb A3 B3 C3 D3
        obtain ⟨⟨x0, x1, x2, x3⟩, xf0, xf1, xf2, xf3⟩ := four A4.out.c
        obtain ⟨⟨y0, y1, y2, y3⟩, yf0, yf1, yf2, yf3⟩ := four B4.out.c
        obtain ⟨⟨u0, u1, u2, u3⟩, uf0, uf1, uf2, uf3⟩ := four C4.out.c
        clear F
        go_wp2_with fail
        refine (compare_of A4.out B4.out X.out).mono ?_
        rintro e w5 ⟨rfl, hb⟩
        have A5 := Lib.hid (A4.out.kept hb)
        have B5 := Lib.hid (B4.out.kept hb)
        have C5 := Lib.hid (C4.out.kept hb)
        have D5 := Lib.hid (D4.out.trans (hb.mono (by have := D4.out.size; omega)))
        clear x0 x1 x2 x3 xf0 xf1 xf2 xf3 y0 y1 y2 y3 yf0 yf1 yf2 yf3 u0 u1 u2 u3 uf0 uf1 uf2 uf3
        clear hb A4 B4 C4 D4
        obtain ⟨⟨x0, x1, x2, x3⟩, xf0, xf1, xf2, xf3⟩ := four A5.out.c
        obtain ⟨⟨y0, y1, y2, y3⟩, yf0, yf1, yf2, yf3⟩ := four B5.out.c
        obtain ⟨⟨u0, u1, u2, u3⟩, uf0, uf1, uf2, uf3⟩ := four C5.out.c
        go_wp2_with fail
        refine (compare_of B5.out C5.out Y.out).mono ?_
        rintro e w6 ⟨rfl, hb⟩
        have A6 := Lib.hid (A5.out.kept hb)
        have B6 := Lib.hid (B5.out.kept hb)
        have C6 := Lib.hid (C5.out.kept hb)
        have D6 := Lib.hid (D5.out.trans (hb.mono (by have := D5.out.size; omega)))
        clear x0 x1 x2 x3 xf0 xf1 xf2 xf3 y0 y1 y2 y3 yf0 yf1 yf2 yf3 u0 u1 u2 u3 uf0 uf1 uf2 uf3
        clear hb A5 B5 C5 D5
        obtain ⟨⟨x0, x1, x2, x3⟩, xf0, xf1, xf2, xf3⟩ := four A6.out.c
        obtain ⟨⟨y0, y1, y2, y3⟩, yf0, yf1, yf2, yf3⟩ := four B6.out.c
        obtain ⟨⟨u0, u1, u2, u3⟩, uf0, uf1, uf2, uf3⟩ := four C6.out.c
        have hc : 0 < x ∨ (x ≤ 0 ∧ 0 < y) ∨ (x ≤ 0 ∧ y ≤ 0 ∧ (z < 0 ∧ x < 0 ∨ z < 0 ∧ ¬ x < 0 ∧ y < 0 ∨ z = 0 ∧ ¬ x < 0 ∧ ¬ y < 0)) := by
          have := O.out
          unfold Ord3 at this
          omega
        rcases hc with h | ⟨h, h'⟩ | ⟨h, h', hh⟩
        · go_wp2_with fail
          go_ret
          exact ⟨rfl, D6.out⟩
        · go_wp2_with fail
          go_ret
          exact ⟨rfl, D6.out⟩
        · rcases hh with ⟨h3, h4⟩ | ⟨h3, h4, h5⟩ | ⟨h3, h4, h5⟩
          · go_wp2_with fail
            refine (compare_of A6.out C6.out Z.out).mono ?_
            rintro e w7 ⟨rfl, hb⟩
            have A7 := Lib.hid (A6.out.kept hb)
            have B7 := Lib.hid (B6.out.kept hb)
            have C7 := Lib.hid (C6.out.kept hb)
            have D7 := Lib.hid (D6.out.trans (hb.mono (by have := D6.out.size; omega)))
            clear x0 x1 x2 x3 xf0 xf1 xf2 xf3 y0 y1 y2 y3 yf0 yf1 yf2 yf3 u0 u1 u2 u3 uf0 uf1 uf2 uf3
            clear hb A6 B6 C6 D6
            obtain ⟨⟨x0, x1, x2, x3⟩, xf0, xf1, xf2, xf3⟩ := four A7.out.c
            obtain ⟨⟨y0, y1, y2, y3⟩, yf0, yf1, yf2, yf3⟩ := four B7.out.c
            obtain ⟨⟨u0, u1, u2, u3⟩, uf0, uf1, uf2, uf3⟩ := four C7.out.c
            go_wp2_with fail
            go_ret
            exact ⟨rfl, D7.out⟩
          · go_wp2_with fail
            refine (compare_of A6.out C6.out Z.out).mono ?_
            rintro e w7 ⟨rfl, hb⟩
            have A7 := Lib.hid (A6.out.kept hb)
            have B7 := Lib.hid (B6.out.kept hb)
            have C7 := Lib.hid (C6.out.kept hb)
            have D7 := Lib.hid (D6.out.trans (hb.mono (by have := D6.out.size; omega)))
            clear x0 x1 x2 x3 xf0 xf1 xf2 xf3 y0 y1 y2 y3 yf0 yf1 yf2 yf3 u0 u1 u2 u3 uf0 uf1 uf2 uf3
            clear hb A6 B6 C6 D6
            obtain ⟨⟨x0, x1, x2, x3⟩, xf0, xf1, xf2, xf3⟩ := four A7.out.c
            obtain ⟨⟨y0, y1, y2, y3⟩, yf0, yf1, yf2, yf3⟩ := four B7.out.c
            obtain ⟨⟨u0, u1, u2, u3⟩, uf0, uf1, uf2, uf3⟩ := four C7.out.c
            go_wp2_with fail
            go_ret
            exact ⟨rfl, D7.out⟩
          · go_wp2_with fail
            refine (compare_of A6.out C6.out Z.out).mono ?_
            rintro e w7 ⟨rfl, hb⟩
            have A7 := Lib.hid (A6.out.kept hb)
            have B7 := Lib.hid (B6.out.kept hb)
            have C7 := Lib.hid (C6.out.kept hb)
            have D7 := Lib.hid (D6.out.trans (hb.mono (by have := D6.out.size; omega)))
            clear x0 x1 x2 x3 xf0 xf1 xf2 xf3 y0 y1 y2 y3 yf0 yf1 yf2 yf3 u0 u1 u2 u3 uf0 uf1 uf2 uf3
            clear hb A6 B6 C6 D6
            obtain ⟨⟨x0, x1, x2, x3⟩, xf0, xf1, xf2, xf3⟩ := four A7.out.c
            obtain ⟨⟨y0, y1, y2, y3⟩, yf0, yf1, yf2, yf3⟩ := four B7.out.c
            obtain ⟨⟨u0, u1, u2, u3⟩, uf0, uf1, uf2, uf3⟩ := four C7.out.c
            go_wp2_with fail
            go_ret
            exact ⟨ret_bool (a := (!decide (x < 0) && !decide (y < 0))) (by rw [decide_eq_false (by omega), decide_eq_false (by omega)]; rfl), D7.out⟩

end Go.Proofs.YtncmpiaonpgdbaaDoor
