/-
  No statement: the first test of each law of cantonlaw4, 'known': it returns true and turns nothing that was there.
-/
import Derived.Test.YtgcjfalgngiebaaGreatDoorWCalls
import Derived.Test.YtgcjfalgngiebaaGreatDoorWSame
import Derived.Test.YtgcjfalgngiebaaGreatDoorWText
namespace Go.Proofs.YtgcjfalgngiebaaGreatDoor
open Go.RowKit

def xb : AD := ⟨⟨#[98]⟩, 1, 5, ⟨#[]⟩, 0, fun _ => 0⟩
def xa : AD := ⟨⟨#[97]⟩, 2, 0, ⟨#[120]⟩, 0, fun _ => 0⟩
def xB : AD := ⟨⟨#[66]⟩, 1, 5, ⟨#[]⟩, 0, fun _ => 0⟩

theorem twsA_atD (D : List AD) : twsA (atD D) D.length = D.map twA := by
  apply List.ext_getElem
  · simp [twsA]
  · intro i h1 h2
    have : i < D.length := by simpa using h2
    simp [twsA, atD, List.getD, List.getElem?_eq_getElem this]

theorem err0 : errSet [] xb = 0 := by kernel_rfl
theorem put0 : putD [] (twA xb) = [xb] := by kernel_rfl
theorem err1 : errSet [xb] xa = 0 := by kernel_rfl
theorem put1 : putD [xb] (twA xa) = [xa, xb] := by kernel_rfl
theorem tw1 : [xb].map twA = [xb] := by kernel_rfl
theorem tw2 : [xa, xb].map twA = [xa, xb] := by kernel_rfl
theorem has2 : has (nmD [xa, xb]) ⟨#[98]⟩ = true := by kernel_rfl
theorem pos2 : pos lsS (nmD [xa, xb]) ⟨#[98]⟩ = 1 := by kernel_rfl
theorem has3 : has (nmD [xa, xb]) ⟨#[97]⟩ = true := by kernel_rfl
theorem drop3 : dropD [xa, xb] ⟨#[97]⟩ = [xb] := by kernel_rfl
theorem errB : errSet [xa, xb] xB = 5 := by kernel_rfl
theorem good_a1 : goodB [97, 49] = true := by decide
theorem good_1a : goodB [49, 97] = false := by decide
def rr : RD := ⟨⟨#[107]⟩, 1, 0, 0, ⟨#[47, 122]⟩, 2, atD [xa, xb]⟩
theorem errR_r : errR rr = 0 := by kernel_rfl
theorem sameR_r : sameR rr rr = true := by kernel_rfl
theorem sameL_d : sameL 2 1 (atD [xa, xb]) (atD [xb]) = false := by kernel_rfl
theorem itoa0 : Lib.itoa 0 = [48] := by simp [Lib.itoa, Lib.decDigits]
theorem itoa1s : Lib.itoa 1 = [49] := by simp [Lib.itoa, Lib.decDigits]
theorem itoa5 : Lib.itoa 5 = [53] := by simp [Lib.itoa, Lib.decDigits]
theorem textR_r : textR rr = [107, 32, 49, 46, 48, 46, 48, 64, 47, 122, 32, 97, 61, 34, 120, 34, 32, 98, 61, 53] := by
  simp [textR, rr, rowPre, textSt, textV, atD, xa, xb, itoa0, itoa1s, itoa5]
theorem rise1 : RiseA (atD [xb]) 1 := fun i j hij hj => by omega
theorem rise2 : RiseA (atD [xa, xb]) 2 := fun i j hij hj => by
  obtain rfl : i = 0 := by omega
  obtain rfl : j = 1 := by omega
  kernel_rfl

theorem len1 : ∀ j, j < 1 → (atD [xb] j).len ≤ 1000000 := fun j hj => by
  obtain rfl : j = 0 := by omega
  decide
theorem len2 : ∀ j, j < 2 → (atD [xa, xb] j).len ≤ 1000000 := fun j hj => by
  rcases (show j = 0 ∨ j = 1 by omega) with rfl | rfl <;> decide

theorem kSet0 (w : World) : Calls Tryz.prog 7 #[.slice none 0 0, .string ⟨#[98]⟩, .agg #[.int .i64 1, .int .i64 5, .string ⟨#[]⟩, .slice none 0 0]] w fun e w' => ∃ a c, e = .returned (.tuple #[.slice a 1 c, .int .i64 0]) ∧ ReadsA w' a 1 (atD [xb]) ∧ Below w.heap.size w w' := by
  refine (setL_any none 0 0 (fun _ => xb) xb none 0 (by decide) (fun j hj => by omega) (fun i j _ hj => by omega) (by decide) (by decide) (by decide) w ⟨by decide, .inl rfl⟩ (nil_reads _ _)).mono ?_
  rintro e w' ⟨h, hb⟩
  rw [show twsA (fun _ => xb) 0 = [] from rfl, if_pos err0, put0] at h
  obtain ⟨a, c, rfl, hr⟩ := h
  exact ⟨a, c, rfl, hr, hb⟩

theorem kSet1 (a : Option Addr) (c : Nat) (w : World) (h : ReadsA w a 1 (atD [xb])) : Calls Tryz.prog 7 #[.slice a 1 c, .string ⟨#[97]⟩, .agg #[.int .i64 2, .int .i64 0, .string ⟨#[120]⟩, .slice none 0 0]] w fun e w' => ∃ a c, e = .returned (.tuple #[.slice a 2 c, .int .i64 0]) ∧ ReadsA w' a 2 (atD [xa, xb]) ∧ Below w.heap.size w w' := by
  refine (setL_any a 1 c (atD [xb]) xa none 0 (by decide) len1 rise1 (by decide) (by decide) (by decide) w h (nil_reads _ _)).mono ?_
  rintro e w' ⟨h, hb⟩
  rw [show twsA (atD [xb]) 1 = [xb] from twsA_atD [xb], if_pos err1, put1] at h
  obtain ⟨a, c, rfl, hr⟩ := h
  exact ⟨a, c, rfl, hr, hb⟩

theorem kSetB (a y : Option Addr) (c cy : Nat) (w : World) (h : ReadsA w a 2 (atD [xa, xb])) : Calls Tryz.prog 7 #[.slice a 2 c, .string ⟨#[66]⟩, .agg #[.int .i64 1, .int .i64 5, .string ⟨#[]⟩, .slice y 0 cy]] w fun e w' => e = .returned (.tuple #[.slice none 0 0, .int .i64 5]) ∧ Below w.heap.size w w' := by
  refine (setL_any a 2 c (atD [xa, xb]) xB y cy (by decide) len2 rise2 (by decide) (by decide) (by decide) w h ⟨Nat.zero_le _, .inl rfl⟩).mono ?_
  rintro e w' ⟨h, hb⟩
  rw [show twsA (atD [xa, xb]) 2 = [xa, xb] from twsA_atD [xa, xb], errB, if_neg (by decide)] at h
  exact ⟨h, hb⟩

theorem kDrop (a : Option Addr) (c : Nat) (w : World) (h : ReadsA w a 2 (atD [xa, xb])) : Calls Tryz.prog 11 #[.slice a 2 c, .string ⟨#[97]⟩] w fun e w' => ∃ a c, e = .returned (.tuple #[.slice a 1 c, .bool true]) ∧ ReadsA w' a 1 (atD [xb]) ∧ Below w.heap.size w w' := by
  refine (dropL_any a 2 c (atD [xa, xb]) ⟨#[97]⟩ (by decide) len2 rise2 w h).mono ?_
  rintro e w' ⟨h, hb⟩
  rw [show twsA (atD [xa, xb]) 2 = [xa, xb] from twsA_atD [xa, xb], drop3, has3] at h
  obtain ⟨a, c, rfl, hr⟩ := h
  exact ⟨a, c, rfl, hr, hb⟩

theorem kGet (a : Option Addr) (c : Nat) (w : World) (h : ReadsA w a 2 (atD [xa, xb])) : Calls Tryz.prog 13 #[.slice a 2 c, .string ⟨#[98]⟩] w fun e w' => (∃ a c, e = .returned (.tuple #[.agg #[.int .i64 1, .int .i64 5, .string ⟨#[]⟩, .slice a 0 c], .bool true])) ∧ Below w.heap.size w w' := by
  refine (getL_any a 2 c (atD [xa, xb]) ⟨#[98]⟩ (by decide) len2 rise2 w h).mono ?_
  rintro e w' ⟨h, hb⟩
  rw [show twsA (atD [xa, xb]) 2 = [xa, xb] from twsA_atD [xa, xb], if_pos has2, pos2] at h
  obtain ⟨v, a, c, _, rfl, rfl, _⟩ := h
  exact ⟨⟨a, c, rfl⟩, hb⟩

theorem few2 : ∀ j, j < rr.len → FewA (rr.A j) ∧ NumA (rr.A j) := fun j hj => by
  have : j < 2 := hj
  rcases (show j = 0 ∨ j = 1 by omega) with rfl | rfl <;> exact ⟨⟨by decide, by decide, by decide⟩, ⟨by unfold In64; decide, by unfold In64; decide, fun j => by unfold In64; show -9223372036854775808 ≤ (0 : Int) ∧ (0 : Int) ≤ 9223372036854775807; decide⟩⟩

theorem kCheck (a : Option Addr) (c : Nat) (w : World) (h : ReadsA w a 2 (atD [xa, xb])) : Calls Tryz.prog 18 #[.agg #[.string ⟨#[107]⟩, .int .i64 1, .int .i64 0, .int .i64 0, .string ⟨#[47, 122]⟩, .slice a 2 c]] w fun e w' => e = .returned (.int .i64 0) ∧ Below w.heap.size w w' := by
  have := wCheck_any rr a c (by decide) (by decide) (fun j hj => by obtain ⟨⟨h1, h2, _⟩, _⟩ := few2 j hj; exact ⟨by omega, by omega⟩) w h
  rwa [errR_r] at this

theorem kSame (a : Option Addr) (c : Nat) (w : World) (h : ReadsA w a 2 (atD [xa, xb])) : Calls Tryz.prog 19 #[.agg #[.string ⟨#[107]⟩, .int .i64 1, .int .i64 0, .int .i64 0, .string ⟨#[47, 122]⟩, .slice a 2 c], .agg #[.string ⟨#[107]⟩, .int .i64 1, .int .i64 0, .int .i64 0, .string ⟨#[47, 122]⟩, .slice a 2 c]] w fun e w' => e = .returned (.bool true) ∧ Below w.heap.size w w' := by
  have := rowSame_any rr rr a a c c (by decide) w h h
  rwa [sameR_r] at this

theorem kSameA (a d : Option Addr) (c cd : Nat) (w : World) (h : ReadsA w a 2 (atD [xa, xb])) (hd : ReadsA w d 1 (atD [xb])) : Calls Tryz.prog 20 #[.slice a 2 c, .slice d 1 cd] w fun e w' => e = .returned (.bool false) ∧ Below w.heap.size w w' := by
  have := sameAttrs_any a d 2 1 c cd (atD [xa, xb]) (atD [xb]) (by decide) w h hd
  rwa [sameL_d] at this

theorem kText (a : Option Addr) (c : Nat) (w : World) (h : ReadsA w a 2 (atD [xa, xb])) (hw : LaidT w) : Calls Tryz.prog 21 #[.agg #[.string ⟨#[107]⟩, .int .i64 1, .int .i64 0, .int .i64 0, .string ⟨#[47, 122]⟩, .slice a 2 c]] w fun e w' => e = .returned (.string ⟨#[107, 32, 49, 46, 48, 46, 48, 64, 47, 122, 32, 97, 61, 34, 120, 34, 32, 98, 61, 53]⟩) ∧ Below w.heap.size w w' := by
  have := rowText_any rr a c (by decide) (by decide) (by unfold In64; decide) (by unfold In64; decide) (by unfold In64; decide) few2 (by decide) w h hw
  rwa [textR_r] at this

/-- What the walk keeps: the row, the attributes. -/
structure KnW (w0 w : World) (rb : Nat) (a : Option Addr) (c : Nat) : Prop where
  l : LaidT w
  bw : Below w0.heap.size w0 w
  r : ReadsA w a 2 (atD [xa, xb])
  h : w.heap[rb]? = some (.cells #[.string ⟨#[107]⟩, .int .i64 1, .int .i64 0, .int .i64 0, .string ⟨#[47, 122]⟩, .slice a 2 c] 55 (0, 0))

theorem KnW.kept {w0 w w' : World} {rb : Nat} {a : Option Addr} {c : Nat} (h : KnW w0 w rb a c) (hb : Below w.heap.size w w') : KnW w0 w' rb a c :=
  ⟨h.l.step hb, h.bw.trans (hb.mono h.bw.size), h.r.kept hb, (hb.block _ (lt_of_block h.h)).trans h.h⟩

/-- .. and the value that Get answered. -/
structure KnU (w0 w : World) (rb : Nat) (a : Option Addr) (c : Nat) (vb : Nat) (y : Option Addr) (cy : Nat) : Prop where
  k : KnW w0 w rb a c
  v : w.heap[vb]? = some (.cells #[.int .i64 1, .int .i64 5, .string ⟨#[]⟩, .slice y 0 cy] 28 (0, 0))

theorem KnU.kept {w0 w w' : World} {rb : Nat} {a : Option Addr} {c vb : Nat} {y : Option Addr} {cy : Nat} (h : KnU w0 w rb a c vb y cy) (hb : Below w.heap.size w w') : KnU w0 w' rb a c vb y cy :=
  ⟨h.k.kept hb, (hb.block _ (lt_of_block h.v)).trans h.v⟩

theorem cells6 {W : World} {B : Nat} {x0 x1 x2 x3 x4 x5 : Value} {t : TypeId} (h : W.heap[B]? = some (.cells #[x0, x1, x2, x3, x4, x5] t (0, 0))) :
    W.cell? ⟨B, 0, none⟩ = some x0 ∧ W.cell? ⟨B, 1, none⟩ = some x1 ∧ W.cell? ⟨B, 2, none⟩ = some x2 ∧ W.cell? ⟨B, 3, none⟩ = some x3 ∧ W.cell? ⟨B, 4, none⟩ = some x4 ∧ W.cell? ⟨B, 5, none⟩ = some x5 := by
  refine ⟨?_, ?_, ?_, ?_, ?_, ?_⟩ <;> simp [World.cell?, h]

set_option maxRecDepth 100000 in
set_option maxHeartbeats 4000000 in
theorem knownW_any (w : World) (hw : LaidT w) : Calls Tryz.prog 4 #[] w fun e w' => e = .returned (.bool true) ∧ Below w.heap.size w w' := by
  have hLW := Lib.hid hw
  clear hw
  go_enter Tryz.func4, Tryz.ntmps4
  go_wp2_with fail
  refine (kSet0 w).mono ?_
  rintro e w1 ⟨l1, c1, rfl, hr1, hb1⟩
  have S1 := Lib.hid (And.intro (hLW.out.step hb1) (And.intro hr1 hb1))
  clear hr1 hb1
  go_wp2_with fail
  refine (kSet1 _ _ _ S1.out.2.1).mono ?_
  rintro e w2 ⟨l2, c2, rfl, hr2, hb2⟩
  have S2 := Lib.hid (And.intro (S1.out.1.step hb2) (And.intro hr2 (S1.out.2.2.trans (hb2.mono S1.out.2.2.size))))
  clear hr2 hb2
  go_wp2_with fail
  generalize hW : World.alloc w2 _ = W
  have bl : Below w2.heap.size w2 W := by rw [← hW]; exact (Below.refl _ _).alloc (Nat.le_refl _) _
  have K3 := Lib.hid (KnW.mk (w0 := w) (w := W) (rb := w2.heap.size) (a := l2) (c := c2) (S2.out.1.step bl) (S2.out.2.2.trans (bl.mono S2.out.2.2.size)) (S2.out.2.1.kept bl) (by rw [← hW]; exact heap_alloc_new w2 _))
  clear hW bl S1 hLW
  refine (kGet _ _ _ K3.out.r).mono ?_
  rintro e w4 ⟨⟨v4, cv4, rfl⟩, hb4⟩
  have K4 := Lib.hid (K3.out.kept hb4)
  clear hb4 K3
  go_wp2_with fail
  generalize hW : World.alloc w4 _ = W
  have bl : Below w4.heap.size w4 W := by rw [← hW]; exact (Below.refl _ _).alloc (Nat.le_refl _) _
  have K5 := Lib.hid (KnU.mk (y := v4) (cy := cv4) (vb := w4.heap.size) (K4.out.kept bl) (by rw [← hW]; exact heap_alloc_new w4 _))
  clear hW bl K4
  refine (kDrop _ _ _ K5.out.k.r).mono ?_
  rintro e w6 ⟨d6, c6, rfl, hr6, hb6⟩
  have K6 := Lib.hid (K5.out.kept hb6)
  have D6 := Lib.hid hr6
  clear hb6 K5 hr6
  obtain ⟨⟨x0, x1, x2, x3⟩, -⟩ := four K6.out.v
  go_wp2_with fail
  refine (kSetB _ _ _ _ _ K6.out.k.r).mono ?_
  rintro e w7 ⟨rfl, hb7⟩
  have K7 := Lib.hid (K6.out.kept hb7)
  have D7 := Lib.hid (D6.out.kept hb7)
  clear hb7 K6 D6 x0 x1 x2 x3
  obtain ⟨⟨x0, x1, x2, x3⟩, -⟩ := four K7.out.v
  obtain ⟨y0, y1, y2, y3, y4, y5⟩ := cells6 K7.out.k.h
  obtain ⟨b, off, rfl, hc⟩ := K7.out.k.r.2.resolve_left (by decide)
  obtain ⟨ya, ca, h5, -⟩ := hc 0 (by decide)
  rw [Nat.zero_mul, Nat.add_zero] at h5
  have H5 := Lib.hid (show Cells5 w7 b off xa ya ca from h5)
  have a0 : w7.cell? ⟨b, off, none⟩ = some (.string ⟨#[97]⟩) := h5.1
  clear hc h5
  go_wp2_with fail
  refine (wName_any ⟨#[97, 49]⟩ (by decide) w7).mono ?_
  rintro e w8 ⟨rfl, rfl⟩
  rw [show goodB (⟨#[97, 49]⟩ : ByteArray).data.toList = true from good_a1]
  go_wp2_with fail
  refine (wName_any ⟨#[49, 97]⟩ (by decide) w7).mono ?_
  rintro e w8 ⟨rfl, rfl⟩
  rw [show goodB (⟨#[49, 97]⟩ : ByteArray).data.toList = false from good_1a]
  clear x0 x1 x2 x3 a0 H5 S2
  go_wp2_with fail
  refine (kCheck _ _ _ K7.out.k.r).mono ?_
  rintro e w8 ⟨rfl, hb8⟩
  have K8 := Lib.hid (K7.out.kept hb8)
  have D8 := Lib.hid (D7.out.kept hb8)
  clear hb8 K7 D7 y0 y1 y2 y3 y4 y5
  obtain ⟨y0, y1, y2, y3, y4, y5⟩ := cells6 K8.out.k.h
  go_wp2_with fail
  refine (kSame _ _ _ K8.out.k.r).mono ?_
  rintro e w9 ⟨rfl, hb9⟩
  have K9 := Lib.hid (K8.out.kept hb9)
  have D9 := Lib.hid (D8.out.kept hb9)
  clear hb9 K8 D8 y0 y1 y2 y3 y4 y5
  obtain ⟨y0, y1, y2, y3, y4, y5⟩ := cells6 K9.out.k.h
  go_wp2_with fail
  refine (kSameA _ _ _ _ _ K9.out.k.r D9.out).mono ?_
  rintro e w10 ⟨rfl, hb10⟩
  have K10 := Lib.hid (K9.out.kept hb10)
  have D10 := Lib.hid (D9.out.kept hb10)
  clear hb10 K9 D9 y0 y1 y2 y3 y4 y5
  obtain ⟨y0, y1, y2, y3, y4, y5⟩ := cells6 K10.out.k.h
  go_wp2_with fail
  refine (kText _ _ _ K10.out.k.r K10.out.k.l).mono ?_
  rintro e w11 ⟨rfl, hb11⟩
  have B11 := Lib.hid (K10.out.kept hb11).k.bw
  clear hb11 y0 y1 y2 y3 y4 y5
  go_wp2_with fail
  go_ret
  exact ⟨rfl, B11.out⟩

end Go.Proofs.YtgcjfalgngiebaaGreatDoor
