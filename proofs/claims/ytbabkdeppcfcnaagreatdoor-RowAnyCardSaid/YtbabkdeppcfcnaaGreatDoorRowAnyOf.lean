/-
  No statement: known of cantonlaw4; the walk of RowAny; the laid list; a row that came in, opened.
-/
import Derived.Test.YtbabkdeppcfcnaaGreatDoorWCalls
import Derived.Test.YtbabkdeppcfcnaaGreatDoorWSame
import Derived.Test.YtbabkdeppcfcnaaGreatDoorWText
import Derived.Test.YtbabkdeppcfcnaaGreatDoorXOfR
import Derived.Test.YtbabkdeppcfcnaaGreatDoorXCheck
import Derived.Test.YtbabkdeppcfcnaaGreatDoorXSame
import Derived.Test.YtbabkdeppcfcnaaGreatDoorXText
import Derived.Test.YtbabkdeppcfcnaaGreatDoorTie
import Derived.Test.YtbabkdeppcfcnaaGreatDoorVRead
import Derived.ProofKit
import Derived.OpenShut
import Derived.LaidMore
import Derived.Lay
import Derived.SevenTiedAt
import Derived.Stop.Joined
import Derived.Lib.LaidTab
import Derived.Carry
import Derived.Stop.LaidErr
import Derived.Lib.SmallJoins
import Derived.ChangeSlices
import Derived.Deep.Slices
import Derived.Deep.Fields
import Derived.ChangeSame
namespace Go.Proofs.YtbabkdeppcfcnaaGreatDoor
open Go.RowKit

def xb : AD := ⟨⟨#[98]⟩, 1, 5, ⟨#[]⟩, 0, fun _ => 0⟩
def xa : AD := ⟨⟨#[97]⟩, 2, 0, ⟨#[120]⟩, 0, fun _ => 0⟩
def xB : AD := ⟨⟨#[66]⟩, 1, 5, ⟨#[]⟩, 0, fun _ => 0⟩

theorem twsA_atD (D : List AD) : twsA (atD D) D.length = D.map twA := by
  apply List.ext_getElem
  · simp [twsA]
  · intro i h1 h2
    have : i < D.length := by simpa using h2
    simp [twsA, atD, List.getD, List.getElem?_eq_getElem this]

theorem err0 : errSet [] xb = 0 := by kernel_rfl
theorem put0 : putD [] (twA xb) = [xb] := by kernel_rfl
theorem err1 : errSet [xb] xa = 0 := by kernel_rfl
theorem put1 : putD [xb] (twA xa) = [xa, xb] := by kernel_rfl
theorem tw1 : [xb].map twA = [xb] := by kernel_rfl
theorem tw2 : [xa, xb].map twA = [xa, xb] := by kernel_rfl
theorem has2 : has (nmD [xa, xb]) ⟨#[98]⟩ = true := by kernel_rfl
theorem pos2 : pos lsS (nmD [xa, xb]) ⟨#[98]⟩ = 1 := by kernel_rfl
theorem has3 : has (nmD [xa, xb]) ⟨#[97]⟩ = true := by kernel_rfl
theorem drop3 : dropD [xa, xb] ⟨#[97]⟩ = [xb] := by kernel_rfl
theorem errB : errSet [xa, xb] xB = 5 := by kernel_rfl
theorem good_a1 : goodB [97, 49] = true := by decide
theorem good_1a : goodB [49, 97] = false := by decide
def rr : RD := ⟨⟨#[107]⟩, 1, 0, 0, ⟨#[47, 122]⟩, 2, atD [xa, xb]⟩
theorem errR_r : errR rr = 0 := by kernel_rfl
theorem sameR_r : sameR rr rr = true := by kernel_rfl
theorem sameL_d : sameL 2 1 (atD [xa, xb]) (atD [xb]) = false := by kernel_rfl
theorem itoa0 : Lib.itoa 0 = [48] := by simp [Lib.itoa, Lib.decDigits]
theorem itoa1s : Lib.itoa 1 = [49] := by simp [Lib.itoa, Lib.decDigits]
theorem itoa5 : Lib.itoa 5 = [53] := by simp [Lib.itoa, Lib.decDigits]
theorem textR_r : textR rr = [107, 32, 49, 46, 48, 46, 48, 64, 47, 122, 32, 97, 61, 34, 120, 34, 32, 98, 61, 53] := by
  simp [textR, rr, rowPre, textSt, textV, atD, xa, xb, itoa0, itoa1s, itoa5]
theorem rise1 : RiseA (atD [xb]) 1 := fun i j hij hj => by omega
theorem rise2 : RiseA (atD [xa, xb]) 2 := fun i j hij hj => by
  obtain rfl : i = 0 := by omega
  obtain rfl : j = 1 := by omega
  kernel_rfl

theorem len1 : ∀ j, j < 1 → (atD [xb] j).len ≤ 1000000 := fun j hj => by
  obtain rfl : j = 0 := by omega
  decide
theorem len2 : ∀ j, j < 2 → (atD [xa, xb] j).len ≤ 1000000 := fun j hj => by
  rcases (show j = 0 ∨ j = 1 by omega) with rfl | rfl <;> decide

theorem kSet0 (w : World) : Calls Tryz.prog 19 #[.slice none 0 0, .string ⟨#[98]⟩, .agg #[.int .i64 1, .int .i64 5, .string ⟨#[]⟩, .slice none 0 0]] w fun e w' => ∃ a c, e = .returned (.tuple #[.slice a 1 c, .int .i64 0]) ∧ ReadsA w' a 1 (atD [xb]) ∧ Below w.heap.size w w' := by
  refine (setL_any none 0 0 (fun _ => xb) xb none 0 (by decide) (fun j hj => by omega) (fun i j _ hj => by omega) (by decide) (by decide) (by decide) w ⟨by decide, .inl rfl⟩ (nil_reads _ _)).mono ?_
  rintro e w' ⟨h, hb⟩
  rw [show twsA (fun _ => xb) 0 = [] from rfl, if_pos err0, put0] at h
  obtain ⟨a, c, rfl, hr⟩ := h
  exact ⟨a, c, rfl, hr, hb⟩

theorem kSet1 (a : Option Addr) (c : Nat) (w : World) (h : ReadsA w a 1 (atD [xb])) : Calls Tryz.prog 19 #[.slice a 1 c, .string ⟨#[97]⟩, .agg #[.int .i64 2, .int .i64 0, .string ⟨#[120]⟩, .slice none 0 0]] w fun e w' => ∃ a c, e = .returned (.tuple #[.slice a 2 c, .int .i64 0]) ∧ ReadsA w' a 2 (atD [xa, xb]) ∧ Below w.heap.size w w' := by
  refine (setL_any a 1 c (atD [xb]) xa none 0 (by decide) len1 rise1 (by decide) (by decide) (by decide) w h (nil_reads _ _)).mono ?_
  rintro e w' ⟨h, hb⟩
  rw [show twsA (atD [xb]) 1 = [xb] from twsA_atD [xb], if_pos err1, put1] at h
  obtain ⟨a, c, rfl, hr⟩ := h
  exact ⟨a, c, rfl, hr, hb⟩

theorem kSetB (a y : Option Addr) (c cy : Nat) (w : World) (h : ReadsA w a 2 (atD [xa, xb])) : Calls Tryz.prog 19 #[.slice a 2 c, .string ⟨#[66]⟩, .agg #[.int .i64 1, .int .i64 5, .string ⟨#[]⟩, .slice y 0 cy]] w fun e w' => e = .returned (.tuple #[.slice none 0 0, .int .i64 5]) ∧ Below w.heap.size w w' := by
  refine (setL_any a 2 c (atD [xa, xb]) xB y cy (by decide) len2 rise2 (by decide) (by decide) (by decide) w h ⟨Nat.zero_le _, .inl rfl⟩).mono ?_
  rintro e w' ⟨h, hb⟩
  rw [show twsA (atD [xa, xb]) 2 = [xa, xb] from twsA_atD [xa, xb], errB, if_neg (by decide)] at h
  exact ⟨h, hb⟩

theorem kDrop (a : Option Addr) (c : Nat) (w : World) (h : ReadsA w a 2 (atD [xa, xb])) : Calls Tryz.prog 22 #[.slice a 2 c, .string ⟨#[97]⟩] w fun e w' => ∃ a c, e = .returned (.tuple #[.slice a 1 c, .bool true]) ∧ ReadsA w' a 1 (atD [xb]) ∧ Below w.heap.size w w' := by
  refine (dropL_any a 2 c (atD [xa, xb]) ⟨#[97]⟩ (by decide) len2 rise2 w h).mono ?_
  rintro e w' ⟨h, hb⟩
  rw [show twsA (atD [xa, xb]) 2 = [xa, xb] from twsA_atD [xa, xb], drop3, has3] at h
  obtain ⟨a, c, rfl, hr⟩ := h
  exact ⟨a, c, rfl, hr, hb⟩

theorem kGet (a : Option Addr) (c : Nat) (w : World) (h : ReadsA w a 2 (atD [xa, xb])) : Calls Tryz.prog 24 #[.slice a 2 c, .string ⟨#[98]⟩] w fun e w' => (∃ a c, e = .returned (.tuple #[.agg #[.int .i64 1, .int .i64 5, .string ⟨#[]⟩, .slice a 0 c], .bool true])) ∧ Below w.heap.size w w' := by
  refine (getL_any a 2 c (atD [xa, xb]) ⟨#[98]⟩ (by decide) len2 rise2 w h).mono ?_
  rintro e w' ⟨h, hb⟩
  rw [show twsA (atD [xa, xb]) 2 = [xa, xb] from twsA_atD [xa, xb], if_pos has2, pos2] at h
  obtain ⟨v, a, c, _, rfl, rfl, _⟩ := h
  exact ⟨⟨a, c, rfl⟩, hb⟩

theorem few2 : ∀ j, j < rr.len → FewA (rr.A j) ∧ NumA (rr.A j) := fun j hj => by
  have : j < 2 := hj
  rcases (show j = 0 ∨ j = 1 by omega) with rfl | rfl <;> exact ⟨⟨by decide, by decide, by decide⟩, ⟨by unfold In64; decide, by unfold In64; decide, fun j => by unfold In64; show -9223372036854775808 ≤ (0 : Int) ∧ (0 : Int) ≤ 9223372036854775807; decide⟩⟩

theorem kCheck (a : Option Addr) (c : Nat) (w : World) (h : ReadsA w a 2 (atD [xa, xb])) : Calls Tryz.prog 10 #[.agg #[.string ⟨#[107]⟩, .int .i64 1, .int .i64 0, .int .i64 0, .string ⟨#[47, 122]⟩, .slice a 2 c]] w fun e w' => e = .returned (.int .i64 0) ∧ Below w.heap.size w w' := by
  have := wCheck_any rr a c (by decide) (by decide) (fun j hj => by obtain ⟨⟨h1, h2, _⟩, _⟩ := few2 j hj; exact ⟨by omega, by omega⟩) w h
  rwa [errR_r] at this

theorem kSame (a : Option Addr) (c : Nat) (w : World) (h : ReadsA w a 2 (atD [xa, xb])) : Calls Tryz.prog 13 #[.agg #[.string ⟨#[107]⟩, .int .i64 1, .int .i64 0, .int .i64 0, .string ⟨#[47, 122]⟩, .slice a 2 c], .agg #[.string ⟨#[107]⟩, .int .i64 1, .int .i64 0, .int .i64 0, .string ⟨#[47, 122]⟩, .slice a 2 c]] w fun e w' => e = .returned (.bool true) ∧ Below w.heap.size w w' := by
  have := rowSame_any rr rr a a c c (by decide) w h h
  rwa [sameR_r] at this

theorem kSameA (a d : Option Addr) (c cd : Nat) (w : World) (h : ReadsA w a 2 (atD [xa, xb])) (hd : ReadsA w d 1 (atD [xb])) : Calls Tryz.prog 15 #[.slice a 2 c, .slice d 1 cd] w fun e w' => e = .returned (.bool false) ∧ Below w.heap.size w w' := by
  have := sameAttrs_any a d 2 1 c cd (atD [xa, xb]) (atD [xb]) (by decide) w h hd
  rwa [sameL_d] at this

theorem kText (a : Option Addr) (c : Nat) (w : World) (h : ReadsA w a 2 (atD [xa, xb])) (hw : LaidT w) : Calls Tryz.prog 11 #[.agg #[.string ⟨#[107]⟩, .int .i64 1, .int .i64 0, .int .i64 0, .string ⟨#[47, 122]⟩, .slice a 2 c]] w fun e w' => e = .returned (.string ⟨#[107, 32, 49, 46, 48, 46, 48, 64, 47, 122, 32, 97, 61, 34, 120, 34, 32, 98, 61, 53]⟩) ∧ Below w.heap.size w w' := by
  have := rowText_any rr a c (by decide) (by decide) (by unfold In64; decide) (by unfold In64; decide) (by unfold In64; decide) few2 (by decide) w h hw
  rwa [textR_r] at this

/-- What the walk keeps: the row, the attributes. -/
structure KnW (w0 w : World) (rb : Nat) (a : Option Addr) (c : Nat) : Prop where
  l : LaidT w
  bw : Below w0.heap.size w0 w
  r : ReadsA w a 2 (atD [xa, xb])
  h : w.heap[rb]? = some (.cells #[.string ⟨#[107]⟩, .int .i64 1, .int .i64 0, .int .i64 0, .string ⟨#[47, 122]⟩, .slice a 2 c] 26 (0, 0))

theorem KnW.kept {w0 w w' : World} {rb : Nat} {a : Option Addr} {c : Nat} (h : KnW w0 w rb a c) (hb : Below w.heap.size w w') : KnW w0 w' rb a c :=
  ⟨h.l.step hb, h.bw.trans (hb.mono h.bw.size), h.r.kept hb, (hb.block _ (lt_of_block h.h)).trans h.h⟩

/-- .. and the value that Get answered. -/
structure KnU (w0 w : World) (rb : Nat) (a : Option Addr) (c : Nat) (vb : Nat) (y : Option Addr) (cy : Nat) : Prop where
  k : KnW w0 w rb a c
  v : w.heap[vb]? = some (.cells #[.int .i64 1, .int .i64 5, .string ⟨#[]⟩, .slice y 0 cy] 47 (0, 0))

theorem KnU.kept {w0 w w' : World} {rb : Nat} {a : Option Addr} {c vb : Nat} {y : Option Addr} {cy : Nat} (h : KnU w0 w rb a c vb y cy) (hb : Below w.heap.size w w') : KnU w0 w' rb a c vb y cy :=
  ⟨h.k.kept hb, (hb.block _ (lt_of_block h.v)).trans h.v⟩

theorem cells6 {W : World} {B : Nat} {x0 x1 x2 x3 x4 x5 : Value} {t : TypeId} (h : W.heap[B]? = some (.cells #[x0, x1, x2, x3, x4, x5] t (0, 0))) :
    W.cell? ⟨B, 0, none⟩ = some x0 ∧ W.cell? ⟨B, 1, none⟩ = some x1 ∧ W.cell? ⟨B, 2, none⟩ = some x2 ∧ W.cell? ⟨B, 3, none⟩ = some x3 ∧ W.cell? ⟨B, 4, none⟩ = some x4 ∧ W.cell? ⟨B, 5, none⟩ = some x5 := by
  refine ⟨?_, ?_, ?_, ?_, ?_, ?_⟩ <;> simp [World.cell?, h]

set_option maxRecDepth 100000 in
set_option maxHeartbeats 4000000 in
theorem knownW_any (w : World) (hw : LaidT w) : Calls Tryz.prog 6 #[] w fun e w' => e = .returned (.bool true) ∧ Below w.heap.size w w' := by
  have hLW := Lib.hid hw
  clear hw
  go_enter Tryz.func6, Tryz.ntmps6
  go_wp2_with fail
  refine (kSet0 w).mono ?_
  rintro e w1 ⟨l1, c1, rfl, hr1, hb1⟩
  have S1 := Lib.hid (And.intro (hLW.out.step hb1) (And.intro hr1 hb1))
  clear hr1 hb1
  go_wp2_with fail
  refine (kSet1 _ _ _ S1.out.2.1).mono ?_
  rintro e w2 ⟨l2, c2, rfl, hr2, hb2⟩
  have S2 := Lib.hid (And.intro (S1.out.1.step hb2) (And.intro hr2 (S1.out.2.2.trans (hb2.mono S1.out.2.2.size))))
  clear hr2 hb2
  go_wp2_with fail
  generalize hW : World.alloc w2 _ = W
  have bl : Below w2.heap.size w2 W := by rw [← hW]; exact (Below.refl _ _).alloc (Nat.le_refl _) _
  have K3 := Lib.hid (KnW.mk (w0 := w) (w := W) (rb := w2.heap.size) (a := l2) (c := c2) (S2.out.1.step bl) (S2.out.2.2.trans (bl.mono S2.out.2.2.size)) (S2.out.2.1.kept bl) (by rw [← hW]; exact heap_alloc_new w2 _))
  clear hW bl S1 hLW
  refine (kGet _ _ _ K3.out.r).mono ?_
  rintro e w4 ⟨⟨v4, cv4, rfl⟩, hb4⟩
  have K4 := Lib.hid (K3.out.kept hb4)
  clear hb4 K3
  go_wp2_with fail
  generalize hW : World.alloc w4 _ = W
  have bl : Below w4.heap.size w4 W := by rw [← hW]; exact (Below.refl _ _).alloc (Nat.le_refl _) _
  have K5 := Lib.hid (KnU.mk (y := v4) (cy := cv4) (vb := w4.heap.size) (K4.out.kept bl) (by rw [← hW]; exact heap_alloc_new w4 _))
  clear hW bl K4
  refine (kDrop _ _ _ K5.out.k.r).mono ?_
  rintro e w6 ⟨d6, c6, rfl, hr6, hb6⟩
  have K6 := Lib.hid (K5.out.kept hb6)
  have D6 := Lib.hid hr6
  clear hb6 K5 hr6
  obtain ⟨⟨x0, x1, x2, x3⟩, -⟩ := four K6.out.v
  go_wp2_with fail
  refine (kSetB _ _ _ _ _ K6.out.k.r).mono ?_
  rintro e w7 ⟨rfl, hb7⟩
  have K7 := Lib.hid (K6.out.kept hb7)
  have D7 := Lib.hid (D6.out.kept hb7)
  clear hb7 K6 D6 x0 x1 x2 x3
  obtain ⟨⟨x0, x1, x2, x3⟩, -⟩ := four K7.out.v
  obtain ⟨y0, y1, y2, y3, y4, y5⟩ := cells6 K7.out.k.h
  obtain ⟨b, off, rfl, hc⟩ := K7.out.k.r.2.resolve_left (by decide)
  obtain ⟨ya, ca, h5, -⟩ := hc 0 (by decide)
  rw [Nat.zero_mul, Nat.add_zero] at h5
  have H5 := Lib.hid (show Cells5 w7 b off xa ya ca from h5)
  have a0 : w7.cell? ⟨b, off, none⟩ = some (.string ⟨#[97]⟩) := h5.1
  clear hc h5
  go_wp2_with fail
  refine (wName_any ⟨#[97, 49]⟩ (by decide) w7).mono ?_
  rintro e w8 ⟨rfl, rfl⟩
  rw [show goodB (⟨#[97, 49]⟩ : ByteArray).data.toList = true from good_a1]
  go_wp2_with fail
  refine (wName_any ⟨#[49, 97]⟩ (by decide) w7).mono ?_
  rintro e w8 ⟨rfl, rfl⟩
  rw [show goodB (⟨#[49, 97]⟩ : ByteArray).data.toList = false from good_1a]
  clear x0 x1 x2 x3 a0 H5 S2
  go_wp2_with fail
  refine (kCheck _ _ _ K7.out.k.r).mono ?_
  rintro e w8 ⟨rfl, hb8⟩
  have K8 := Lib.hid (K7.out.kept hb8)
  have D8 := Lib.hid (D7.out.kept hb8)
  clear hb8 K7 D7 y0 y1 y2 y3 y4 y5
  obtain ⟨y0, y1, y2, y3, y4, y5⟩ := cells6 K8.out.k.h
  go_wp2_with fail
  refine (kSame _ _ _ K8.out.k.r).mono ?_
  rintro e w9 ⟨rfl, hb9⟩
  have K9 := Lib.hid (K8.out.kept hb9)
  have D9 := Lib.hid (D8.out.kept hb9)
  clear hb9 K8 D8 y0 y1 y2 y3 y4 y5
  obtain ⟨y0, y1, y2, y3, y4, y5⟩ := cells6 K9.out.k.h
  go_wp2_with fail
  refine (kSameA _ _ _ _ _ K9.out.k.r D9.out).mono ?_
  rintro e w10 ⟨rfl, hb10⟩
  have K10 := Lib.hid (K9.out.kept hb10)
  have D10 := Lib.hid (D9.out.kept hb10)
  clear hb10 K9 D9 y0 y1 y2 y3 y4 y5
  obtain ⟨y0, y1, y2, y3, y4, y5⟩ := cells6 K10.out.k.h
  go_wp2_with fail
  refine (kText _ _ _ K10.out.k.r K10.out.k.l).mono ?_
  rintro e w11 ⟨rfl, hb11⟩
  have B11 := Lib.hid (K10.out.kept hb11).k.bw
  clear hb11 y0 y1 y2 y3 y4 y5
  go_wp2_with fail
  go_ret
  exact ⟨rfl, B11.out⟩

end Go.Proofs.YtbabkdeppcfcnaaGreatDoor

namespace Go.Proofs.YtbabkdeppcfcnaaGreatDoor
open Go.RowKit

/-- A row whose sizes and numbers are those of Go. -/
structure GoR (x : RD) : Prop where
  k : x.key.size ≤ maxLen
  o : x.o.size ≤ maxLen
  t : In64 x.t
  i : In64 x.i
  q : In64 x.q
  s : ∀ j, j < x.len → SizA (x.A j)
  n : ∀ j, j < x.len → NumA (x.A j)

/-- What the walk keeps: two rows. -/
structure KR (w0 w : World) (p : Nat) (x y : RD) (a : Option Addr) (c : Nat) (b : Option Addr) (d : Nat) : Prop where
  l : LaidT w
  bw : Below w0.heap.size w0 w
  rx : ReadsA w a x.len x.A
  ry : ReadsA w b y.len y.A
  h : w.heap[p]? = some (.cells #[.string x.key, .int .i64 x.t, .int .i64 x.i, .int .i64 x.q, .string x.o, .slice a x.len c] 26 (0, 0))
  g : w.heap[p + 1]? = some (.cells #[.string y.key, .int .i64 y.t, .int .i64 y.i, .int .i64 y.q, .string y.o, .slice b y.len d] 26 (0, 0))

theorem KR.kept {w0 w w' : World} {p : Nat} {x y : RD} {a : Option Addr} {c : Nat} {b : Option Addr} {d : Nat} (h : KR w0 w p x y a c b d) (hb : Below w.heap.size w w') : KR w0 w' p x y a c b d :=
  ⟨h.l.step hb, h.bw.trans (hb.mono h.bw.size), h.rx.kept hb, h.ry.kept hb, (hb.block _ (lt_of_block h.h)).trans h.h, (hb.block _ (lt_of_block h.g)).trans h.g⟩

theorem cmpL_self : ∀ l, cmpL l l = 0
  | [] => rfl
  | a :: r => by rw [cmpL, if_pos (cmpI_self a)]; exact cmpL_self r
theorem cmpV_self (k n : Int) (s : ByteArray) (l : Nat) (z : Nat → Int) : cmpV k n s l z k n s l z = 0 := by
  unfold cmpV
  rw [if_pos rfl]
  split
  · exact cmpI_self n
  · split
    · exact cmpS_self s
    · split
      · exact cmpL_self _
      · rfl
theorem sameAD_self (x : AD) : sameAD x x = true := by
  unfold sameAD; rw [cmpV_self]; simp
theorem sameAs_self : ∀ l, sameAs l l = true
  | [] => rfl
  | x :: r => by unfold sameAs; rw [sameAD_self, sameAs_self r]; rfl
theorem sameR_self (x : RD) : sameR x x = true := by
  unfold sameR; rw [sameAs_self, cmpSt_self]; simp

theorem rowSameSelf_any (x : RD) (a : Option Addr) (c : Nat) (hn : x.len ≤ 1000000) (w : World) (h : ReadsA w a x.len x.A) :
    Calls Tryz.prog 13 #[.agg #[.string x.key, .int .i64 x.t, .int .i64 x.i, .int .i64 x.q, .string x.o, .slice a x.len c], .agg #[.string x.key, .int .i64 x.t, .int .i64 x.i, .int .i64 x.q, .string x.o, .slice a x.len c]] w fun e w' => e = .returned (.bool true) ∧ Below w.heap.size w w' := by
  have := rowSame_any x x a a c c hn w h h
  rwa [sameR_self] at this

/-- OfAttrs at attributes that lie there. -/
theorem ofA_any (a : Option Addr) (n c : Nat) (A : Nat → AD) (hn : n ≤ 1000) (w : World) (h : ReadsA w a n A) :
    Calls Tryz.prog 17 #[.slice a n c] w fun e w' => (∃ a' c', e = .returned (.slice a' n c') ∧ ReadsA w' a' n A) ∧ Below w.heap.size w w' :=
  (ofAttrs_any a n c A hn w w h (Below.refl _ _)).mono fun _ w' ⟨⟨a', c', he, hr⟩, hb⟩ => ⟨⟨a', c', he, hr w' (Kept.refl _ _)⟩, hb⟩

theorem fewR_all {x : RD} (h : fewR x = true) : x.key.size ≤ 100 ∧ x.o.size ≤ 100 ∧ x.len ≤ 40 ∧ ∀ j, j < x.len → FewA (x.A j) := by
  unfold fewR fewL fewAs at h
  simp only [Bool.and_eq_true, decide_eq_true_eq, List.all_eq_true] at h
  obtain ⟨h1, h2, h3, h4⟩ := h
  refine ⟨h1, h2, h3, fun j hj => ?_⟩
  have := h4 (x.A j) (by unfold fromA; exact List.mem_map.2 ⟨j, List.mem_range.2 (by omega), by rw [Nat.zero_add]⟩)
  unfold fewA at this
  simp only [Bool.and_eq_true, decide_eq_true_eq] at this
  unfold FewA
  omega

set_option maxRecDepth 100000 in
set_option maxHeartbeats 4000000 in
theorem rowAny_any (x y : RD) (a b : Option Addr) (c d : Nat) (gx : GoR x) (gy : GoR y) (w : World) (hx : ReadsA w a x.len x.A) (hy : ReadsA w b y.len y.A) (hw : LaidT w) :
    Calls Tryz.prog 3 #[.agg #[.string x.key, .int .i64 x.t, .int .i64 x.i, .int .i64 x.q, .string x.o, .slice a x.len c], .agg #[.string y.key, .int .i64 y.t, .int .i64 y.i, .int .i64 y.q, .string y.o, .slice b y.len d]] w fun e w' => e = .returned (.bool true) ∧ Below w.heap.size w w' := by
  have G := Lib.hid (And.intro hx (And.intro hy hw))
  clear hx hy hw
  go_enter Tryz.func3, Tryz.ntmps3
  go_wp2_with fail
  generalize hW : World.alloc (World.alloc w _) _ = W
  have bl : Below w.heap.size w W := by rw [← hW]; exact ((Below.refl _ _).alloc (Nat.le_refl _) _).alloc (by simp) _
  have K0 := Lib.hid (KR.mk (w0 := w) (w := W) (p := w.heap.size) (x := x) (y := y) (a := a) (b := b) (c := c) (d := d) (G.out.2.2.step bl) bl (G.out.1.kept bl) (G.out.2.1.kept bl)
    (by rw [← hW]; exact (Below.heap_alloc _ _ _ (by simp)).trans (heap_alloc_new w _))
    (by rw [← hW]; have := heap_alloc_new (w.alloc (.cells #[.string x.key, .int .i64 x.t, .int .i64 x.i, .int .i64 x.q, .string x.o, .slice a x.len c] 26)) (.cells #[.string y.key, .int .i64 y.t, .int .i64 y.i, .int .i64 y.q, .string y.o, .slice b y.len d] 26); rwa [World.size_alloc] at this))
  clear hW bl G
  refine (knownW_any W K0.out.l).mono ?_
  rintro e w1 ⟨rfl, hb⟩
  have K1 := Lib.hid (K0.out.kept hb)
  clear hb K0
  obtain ⟨a0, a1, a2, a3, a4, a5⟩ := cells6 K1.out.h
  obtain ⟨b0, b1, b2, b3, b4, b5⟩ := cells6 K1.out.g
  have F1 := Lib.hid (few_any x a c gx.k gx.o gx.s w1 K1.out.rx)
  by_cases h1 : fewR x = false
  · rw [h1] at F1
    go_wp2_with fail
    refine F1.out.mono ?_
    rintro e w2 ⟨rfl, hb⟩
    have P := Lib.hid (K1.out.kept hb).bw
    clear hb
    go_wp2_with fail
    go_ret
    exact ⟨rfl, P.out⟩
  have h1' : fewR x = true := by simpa using h1
  rw [h1'] at F1
  go_wp2_with fail
  refine F1.out.mono ?_
  rintro e w2 ⟨rfl, hb⟩
  have K2 := Lib.hid (K1.out.kept hb)
  clear hb K1 a0 a1 a2 a3 a4 a5 b0 b1 b2 b3 b4 b5
  obtain ⟨a0, a1, a2, a3, a4, a5⟩ := cells6 K2.out.h
  obtain ⟨b0, b1, b2, b3, b4, b5⟩ := cells6 K2.out.g
  have F2 := Lib.hid (few_any y b d gy.k gy.o gy.s w2 K2.out.ry)
  by_cases h2 : fewR y = false
  · rw [h2] at F2
    go_wp2_with fail
    refine F2.out.mono ?_
    rintro e w3 ⟨rfl, hb⟩
    have P := Lib.hid (K2.out.kept hb).bw
    clear hb
    go_wp2_with fail
    go_ret
    exact ⟨rfl, P.out⟩
  have h2' : fewR y = true := by simpa using h2
  rw [h2'] at F2
  go_wp2_with fail
  refine F2.out.mono ?_
  rintro e w3 ⟨rfl, hb⟩
  have K3 := Lib.hid (K2.out.kept hb)
  clear hb K2 F1 F2 a0 a1 a2 a3 a4 a5 b0 b1 b2 b3 b4 b5
  have SX := Lib.hid (fewR_all h1')
  have SY := Lib.hid (fewR_all h2')
  clear h1 h1' h2 h2'
  obtain ⟨a0, a1, a2, a3, a4, a5⟩ := cells6 K3.out.h
  obtain ⟨b0, b1, b2, b3, b4, b5⟩ := cells6 K3.out.g
  go_wp2_with fail
  refine (ofR_any x a c (by have := SX.out.2.2.1; omega) w3 K3.out.rx).mono ?_
  rintro e w4 ⟨⟨a4', c4, rfl, hr4⟩, hb⟩
  have K4 := Lib.hid (K3.out.kept hb)
  have R4 := Lib.hid hr4
  clear hb hr4 K3 a0 a1 a2 a3 a4 a5 b0 b1 b2 b3 b4 b5
  go_wp2_with fail
  refine (xCheck_any x _ _ (by have := SX.out.1; omega) (by have := SX.out.2.1; omega) (fun j hj => by obtain ⟨h1, h2, _⟩ := SX.out.2.2.2 j hj; omega) w4 R4.out).mono ?_
  rintro e w5 ⟨rfl, hb⟩
  have K5 := Lib.hid (K4.out.kept hb)
  clear hb K4 R4
  obtain ⟨a0, a1, a2, a3, a4, a5⟩ := cells6 K5.out.h
  obtain ⟨b0, b1, b2, b3, b4, b5⟩ := cells6 K5.out.g
  go_wp2_with fail
  refine (wCheck_any x a c (by have := SX.out.1; omega) (by have := SX.out.2.1; omega) (fun j hj => by obtain ⟨h1, h2, _⟩ := SX.out.2.2.2 j hj; omega) w5 K5.out.rx).mono ?_
  rintro e w6 ⟨rfl, hb⟩
  have K6 := Lib.hid (K5.out.kept hb)
  clear hb K5 a0 a1 a2 a3 a4 a5 b0 b1 b2 b3 b4 b5
  obtain ⟨a0, a1, a2, a3, a4, a5⟩ := cells6 K6.out.h
  obtain ⟨b0, b1, b2, b3, b4, b5⟩ := cells6 K6.out.g
  by_cases h3 : errR x = 0
  · rw [h3]
    go_wp2_with fail
    refine (ofR_any y b d (by have := SY.out.2.2.1; omega) w6 K6.out.ry).mono ?_
    rintro e w7 ⟨⟨a7, c7, rfl, hr7⟩, hb⟩
    have K7 := Lib.hid (K6.out.kept hb)
    have R7 := Lib.hid hr7
    clear hb hr7 K6 a0 a1 a2 a3 a4 a5 b0 b1 b2 b3 b4 b5
    go_wp2_with fail
    refine (xCheck_any y _ _ (by have := SY.out.1; omega) (by have := SY.out.2.1; omega) (fun j hj => by obtain ⟨h1, h2, _⟩ := SY.out.2.2.2 j hj; omega) w7 R7.out).mono ?_
    rintro e w8 ⟨rfl, hb⟩
    have K8 := Lib.hid (K7.out.kept hb)
    clear hb K7 R7
    by_cases h4 : errR y = 0
    · rw [h4]
      obtain ⟨a0, a1, a2, a3, a4, a5⟩ := cells6 K8.out.h
      obtain ⟨b0, b1, b2, b3, b4, b5⟩ := cells6 K8.out.g
      clear a0 a1 a2 a3 a4 a5 b0 b1 b2 b3 b4 b5
      have C1 := Lib.hid (fun w h l => rowText_any x a c SX.out.1 SX.out.2.1 gx.t gx.i gx.q (fun j hj => ⟨SX.out.2.2.2 j hj, gx.n j hj⟩) (by have := SX.out.2.2.1; omega) w h l)
      have C2 := Lib.hid (fun w h => ofR_any x a c (by have := SX.out.2.2.1; omega) w h)
      have C3 := Lib.hid (fun w a c h => xText_any x a c SX.out.1 SX.out.2.1 gx.t gx.i gx.q (fun j hj => ⟨SX.out.2.2.2 j hj, gx.n j hj⟩) (by have := SX.out.2.2.1; omega) w h)
      have C4 := Lib.hid (fun w h g => rowSame_any x y a b c d (by have := SX.out.2.2.1; omega) w h g)
      have C5 := Lib.hid (fun w h => ofR_any y b d (by have := SY.out.2.2.1; omega) w h)
      have C6 := Lib.hid (fun w a c b d h g => xSame_any x y a b c d (by have := SX.out.2.2.1; omega) w h g)
      have C7 := Lib.hid (fun w h g => sameAttrs_any a b x.len y.len c d x.A y.A (by have := SX.out.2.2.1; omega) w h g)
      have C8 := Lib.hid (fun w h => ofA_any a x.len c x.A (by have := SX.out.2.2.1; omega) w h)
      have C9 := Lib.hid (fun w h => ofA_any b y.len d y.A (by have := SY.out.2.2.1; omega) w h)
      have C10 := Lib.hid (fun w a c b d h g => xSameAttrs_any a b x.len y.len c d x.A y.A (by have := SX.out.2.2.1; omega) w h g)
      have C11 := Lib.hid (fun w h => rowSameSelf_any x a c (by have := SX.out.2.2.1; omega) w h)
      obtain ⟨T, hT⟩ : ∃ T : ByteArray, ⟨(textR x).toArray⟩ = T := ⟨_, rfl⟩
      obtain ⟨B1, hB1⟩ : ∃ B, sameR x y = B := ⟨_, rfl⟩
      obtain ⟨B2, hB2⟩ : ∃ B, sameL x.len y.len x.A y.A = B := ⟨_, rfl⟩
      rw [hT] at C1 C3
      rw [hB1] at C4 C6
      rw [hB2] at C7 C10
      have K8 : Hid (KR w w8.drew w.heap.size x y a c b d) := Lib.hid (K8.out.kept ⟨rfl, rfl, rfl, Nat.le_refl _, fun _ _ => rfl⟩)
      clear hT hB1 hB2
      have cc := And.intro (cells6 K8.out.h) (cells6 K8.out.g)
      go_wp2_with fail
      go_region_held3 (fun w' => (w'.cell? ⟨w.heap.size, 0, none⟩ = some (.string x.key) ∧ w'.cell? ⟨w.heap.size, 1, none⟩ = some (.int .i64 x.t) ∧ w'.cell? ⟨w.heap.size, 2, none⟩ = some (.int .i64 x.i) ∧ w'.cell? ⟨w.heap.size, 3, none⟩ = some (.int .i64 x.q) ∧ w'.cell? ⟨w.heap.size, 4, none⟩ = some (.string x.o) ∧ w'.cell? ⟨w.heap.size, 5, none⟩ = some (.slice a x.len c)) ∧ (w'.cell? ⟨w.heap.size + 1, 0, none⟩ = some (.string y.key) ∧ w'.cell? ⟨w.heap.size + 1, 1, none⟩ = some (.int .i64 y.t) ∧ w'.cell? ⟨w.heap.size + 1, 2, none⟩ = some (.int .i64 y.i) ∧ w'.cell? ⟨w.heap.size + 1, 3, none⟩ = some (.int .i64 y.q) ∧ w'.cell? ⟨w.heap.size + 1, 4, none⟩ = some (.string y.o) ∧ w'.cell? ⟨w.heap.size + 1, 5, none⟩ = some (.slice b y.len d))) (first | assumption | exact cc) (first
        | (go_at_call 11
           with_reducible refine (C1.out _ K8.out.rx K8.out.l).mono ?_
           rintro e w9 ⟨rfl, hb⟩
           have K9 := Lib.hid (K8.out.kept hb)
           have cc := And.intro (cells6 K9.out.h) (cells6 K9.out.g)
           clear hb)
        | (go_at_call 9
           with_reducible refine (C2.out _ K9.out.rx).mono ?_
           rintro e w10 ⟨⟨a10, c10, rfl, hr⟩, hb⟩
           have K10 := Lib.hid (K9.out.kept hb)
           have R10 := Lib.hid hr
           clear hr
           have cc := And.intro (cells6 K10.out.h) (cells6 K10.out.g)
           clear hb)
        | (go_at_call 12
           with_reducible refine (C3.out _ a10 c10 R10.out).mono ?_
           rintro e w11 ⟨rfl, hb⟩
           have K11 := Lib.hid (K10.out.kept hb)
           have cc := And.intro (cells6 K11.out.h) (cells6 K11.out.g)
           clear hb)
        | (go_at_call 13
           with_reducible refine (C4.out _ K11.out.rx K11.out.ry).mono ?_
           rintro e w12 ⟨rfl, hb⟩
           have K12 := Lib.hid (K11.out.kept hb)
           have cc := And.intro (cells6 K12.out.h) (cells6 K12.out.g)
           clear hb)
        | (go_at_call 9
           with_reducible refine (C2.out _ K12.out.rx).mono ?_
           rintro e w13 ⟨⟨a13, c13, rfl, hr⟩, hb⟩
           have K13 := Lib.hid (K12.out.kept hb)
           have R13 := Lib.hid hr
           clear hr
           have cc := And.intro (cells6 K13.out.h) (cells6 K13.out.g)
           clear hb)
        | (go_at_call 9
           with_reducible refine (C5.out _ K13.out.ry).mono ?_
           rintro e w14 ⟨⟨b14, d14, rfl, hr⟩, hb⟩
           have K14 := Lib.hid (K13.out.kept hb)
           have Q14 := Lib.hid hr
           have R14 := Lib.hid (R13.out.kept hb)
           clear hr
           have cc := And.intro (cells6 K14.out.h) (cells6 K14.out.g)
           clear hb)
        | (go_at_call 14
           with_reducible refine (C6.out _ a13 c13 b14 d14 R14.out Q14.out).mono ?_
           rintro e w15 ⟨rfl, hb⟩
           have K15 := Lib.hid (K14.out.kept hb)
           have cc := And.intro (cells6 K15.out.h) (cells6 K15.out.g)
           clear hb)
        | (go_at_call 15
           with_reducible refine (C7.out _ K15.out.rx K15.out.ry).mono ?_
           rintro e w16 ⟨rfl, hb⟩
           have K16 := Lib.hid (K15.out.kept hb)
           have cc := And.intro (cells6 K16.out.h) (cells6 K16.out.g)
           clear hb)
        | (go_at_call 17
           with_reducible refine (C8.out _ K16.out.rx).mono ?_
           rintro e w17 ⟨⟨a17, c17, rfl, hr⟩, hb⟩
           have K17 := Lib.hid (K16.out.kept hb)
           have R17 := Lib.hid hr
           clear hr
           have cc := And.intro (cells6 K17.out.h) (cells6 K17.out.g)
           clear hb)
        | (go_at_call 17
           with_reducible refine (C9.out _ K17.out.ry).mono ?_
           rintro e w18 ⟨⟨b18, d18, rfl, hr⟩, hb⟩
           have K18 := Lib.hid (K17.out.kept hb)
           have Q18 := Lib.hid hr
           have R18 := Lib.hid (R17.out.kept hb)
           clear hr
           have cc := And.intro (cells6 K18.out.h) (cells6 K18.out.g)
           clear hb)
        | (go_at_call 16
           with_reducible refine (C10.out _ a17 c17 b18 d18 R18.out Q18.out).mono ?_
           rintro e w19 ⟨rfl, hb⟩
           have K19 := Lib.hid (K18.out.kept hb)
           have cc := And.intro (cells6 K19.out.h) (cells6 K19.out.g)
           clear hb)
        | (go_at_call 13
           with_reducible refine (C11.out _ K19.out.rx).mono ?_
           rintro e w20 ⟨rfl, hb⟩
           have K20 := Lib.hid (K19.out.kept hb)
           have cc := And.intro (cells6 K20.out.h) (cells6 K20.out.g)
           clear hb)
        | fail)
      have P := Lib.hid K20.out.bw
      clear cc
      go_wp2_with fail
      go_ret
      exact ⟨rfl, P.out⟩
    · have P := Lib.hid K8.out.bw
      go_wp2_with fail
      go_ret
      exact ⟨rfl, P.out⟩
  · have P := Lib.hid K6.out.bw
    go_wp2_with fail
    go_ret
    exact ⟨rfl, P.out⟩
end Go.Proofs.YtbabkdeppcfcnaaGreatDoor

namespace Go.Proofs.YtbabkdeppcfcnaaGreatDoor
open Go.ChangeShapes Go.WideShapes Go.ChangeAt Go.RowKit

theorem own_knobS : ownKnob Tryz.prog.godebug = none := by kernel_rfl
theorem laid_outS : laidOutB Tryz.prog = true := by kernel_rfl

/-- The list of the laws' variables. -/
abbrev laidS : List (String × DataW Unit) := Rows.rowAnyRow.laid

theorem laidT_of {W : World} (h : laidMetH Tryz.prog laidS W) : LaidT W := by
  rw [MakeChecks.laidMetH_plain _ _ _ (by kernel_rfl)] at h
  have h2 := h.tail.tail
  have htab := Lib.tabIs_of_head (g := 1) (k := .u64) (zs := Lib.pow10Tab) (by kernel_rfl) (by kernel_rfl) Tryz.underlying164 Tryz.underlying152 (by kernel_rfl) (by kernel_rfl) h2
  unfold Lib.TabIs World.var? at htab
  rw [show Tryz.prog.globalNamed "internal/strconv.uint64pow10" = some 1 by kernel_rfl] at htab
  simp only [Option.bind_some] at htab
  split at htab
  · rename_i cs' t f e
    cases htab
    exact ⟨t, f, e⟩
  · cases htab

theorem in64_of_wfS {n : Int} (h : (Lit.int .i64 n).wf = true) : In64 n := by
  simp [Lit.wf, IntKind.min, IntKind.max, IntKind.bits, IntKind.signed] at h
  unfold In64
  omega

/-- A start that meets the list. -/
theorem start_metS (os : Os) (args : Array Value) : laidMetH Tryz.prog laidS ((World.laidAll Tryz.prog os laidS).forCall (fun _ _ => 0) ⟨#[], args, []⟩).memory := by
  rw [MakeChecks.laidMetH_plain _ _ _ (by kernel_rfl)]
  exact laidMet_laidAll _ (by kernel_rfl) (by kernel_rfl)
theorem start_shapedS (os : Os) : (World.laidAll Tryz.prog os laidS).Shaped Tryz.prog := World.shaped_of_ZipB (by kernel_rfl) (by kernel_rfl)

end Go.Proofs.YtbabkdeppcfcnaaGreatDoor

namespace Go.Proofs.YtbabkdeppcfcnaaGreatDoor
open Go.RowKit Go.ChangeShapes Go.WideShapes Go.Deep

theorem in64_getD {zs : List Int} (h : ∀ n ∈ zs, (Lit.int .i64 n).wf = true) (j : Nat) : In64 (zs.getD j 0) := by
  by_cases hj : j < zs.length
  · rw [List.getD, List.getElem?_eq_getElem hj]
    exact in64_of_wfS (h _ (List.getElem_mem hj))
  · rw [List.getD, List.getElem?_eq_none (by omega)]
    unfold In64; simp

theorem in64_zero : In64 0 := by unfold In64; omega
theorem attrCells : Tryz.prog.cellsOf 71 = 5 := by kernel_rfl
theorem valueCells : Tryz.prog.cellsOf 47 = 4 := by kernel_rfl
theorem stampCells : Tryz.prog.cellsOf 23 = 4 := by kernel_rfl
theorem rowCells : Tryz.prog.cellsOf 26 = 6 := by kernel_rfl

set_option maxRecDepth 100000 in
/-- The four cells of a value. -/
theorem value_cells {H : Type} {enc : TypeId × Value → H} {W : World} {n : Nat} {c0 c1 c2 c3 : Value} {x : DataW H × List MemPlace} (h : DataW.trod enc Tryz.prog W 0 (fun _ => true) true n 47 [c0, c1, c2, c3] = some x) :
    ∃ (k i : Int) (s : ByteArray) (a : Option Addr) (len cap : Nat) (z : Nat → Int), c0 = .int .i64 k ∧ c1 = .int .i64 i ∧ c2 = .string s ∧ c3 = .slice a len cap ∧ In64 k ∧ In64 i ∧ s.size ≤ maxLen ∧ (∀ j, In64 (z j)) ∧ Reads W a len z := by
  obtain ⟨ys, m, -, -, -, hyl, hf⟩ := DataW.trod_struct Tryz.underlying47 h
  have y4 : ys.length = 4 := hyl
  match ys, y4 with
  | [y0, y1, y2, y3], _ =>
    have h0 : DataW.trod enc Tryz.prog W 0 (fun _ => true) true m 3 [c0] = some y0 := hf 0 _ rfl
    have h1 : DataW.trod enc Tryz.prog W 0 (fun _ => true) true m 2 [c1] = some y1 := hf 1 _ rfl
    have h2 : DataW.trod enc Tryz.prog W 0 (fun _ => true) true m 9 [c2] = some y2 := hf 2 _ rfl
    have h3 : DataW.trod enc Tryz.prog W 0 (fun _ => true) true m 45 [c3] = some y3 := hf 3 _ rfl
    obtain ⟨k, e0, -, w0⟩ := DataW.trod_int Tryz.underlying3 h0
    obtain ⟨i, e1, -, w1⟩ := DataW.trod_int Tryz.underlying2 h1
    obtain ⟨s, e2, -, w2⟩ := DataW.trod_string Tryz.underlying9 h2
    cases e0; cases e1; cases e2
    rcases open_ints Tryz.underlying45 Tryz.underlying2 (by kernel_rfl) h3 with ⟨hcs, _⟩ | ⟨x, l, c, zs, hcs, _, hl, hm, hz, _, hcell, hwz⟩
    · cases hcs
      exact ⟨k, i, s, none, 0, 0, fun _ => 0, rfl, rfl, rfl, rfl, in64_of_wfS w0, in64_of_wfS w1, w2, fun _ => in64_zero, ⟨Nat.zero_le _, .inl rfl⟩⟩
    · cases hcs
      simp only [if_true] at hz
      refine ⟨k, i, s, some x, l, c, fun j => zs.getD j 0, rfl, rfl, rfl, rfl, in64_of_wfS w0, in64_of_wfS w1, w2, in64_getD hwz, ⟨Nat.le_trans hl hm, ?_⟩⟩
      by_cases hl0 : l = 0
      · exact .inl hl0
      · right
        obtain ⟨b, off, spot⟩ := x
        have hspot : spot = none := by simpa [Addr.add] using World.cell?_spot (hcell 0 (by omega))
        subst hspot
        exact ⟨b, off, rfl, fun j hj => by rw [← Addr.add_lit]; exact hcell j (by omega)⟩

set_option maxRecDepth 100000 in
/-- The five cells of an attribute. -/
theorem attr_cells {H : Type} {enc : TypeId × Value → H} {W : World} {n : Nat} {cs : List Value} {x : DataW H × List MemPlace} (h : DataW.trod enc Tryz.prog W 0 (fun _ => true) true n 71 cs = some x) :
    ∃ (v : AD) (y : Option Addr) (c : Nat), SizA v ∧ NumA v ∧ cs = fiveL v y c ∧ Reads W y v.len v.z := by
  obtain ⟨ys, m, -, -, hlen, hyl, hf⟩ := DataW.trod_struct Tryz.underlying71 h
  rw [attrCells] at hlen
  match cs, hlen with
  | [c0, c1, c2, c3, c4], _ =>
    have y2 : ys.length = 2 := hyl
    match ys, y2 with
    | [y0, y1], _ =>
      have h0 : DataW.trod enc Tryz.prog W 0 (fun _ => true) true m 9 [c0] = some y0 := hf 0 _ rfl
      have h1 : DataW.trod enc Tryz.prog W 0 (fun _ => true) true m 47 [c1, c2, c3, c4] = some y1 := hf 1 _ rfl
      obtain ⟨s, e0, -, w0⟩ := DataW.trod_string Tryz.underlying9 h0
      cases e0
      obtain ⟨k, i, t, a, len, cap, z, rfl, rfl, rfl, rfl, wk, wi, wt, wz, hr⟩ := value_cells h1
      exact ⟨⟨s, k, i, t, len, z⟩, a, cap, ⟨w0, wt, hr.1⟩, ⟨wk, wi, wz⟩, rfl, hr⟩

theorem attrs_of {H : Type} {enc : TypeId × Value → H} {W : World} {fuel : Nat} {c5 : Value} {x : DataW H × List MemPlace}
    (hf : DataW.trod enc Tryz.prog W 0 (fun _ => true) true fuel 24 [c5] = some x) : ∃ (a : Option Addr) (len cap : Nat) (A : Nat → AD), c5 = .slice a len cap ∧ (∀ j, SizA (A j)) ∧ (∀ j, NumA (A j)) ∧ ReadsA W a len A := by
  have d0 : SizA ⟨⟨#[]⟩, 0, 0, ⟨#[]⟩, 0, fun _ => 0⟩ := ⟨Nat.zero_le _, Nat.zero_le _, Nat.zero_le _⟩
  have d1 : NumA ⟨⟨#[]⟩, 0, 0, ⟨#[]⟩, 0, fun _ => 0⟩ := ⟨in64_zero, in64_zero, fun _ => in64_zero⟩
  rcases open_slice Tryz.underlying24 hf with ⟨hcs, _⟩ | ⟨x, l, c, m, n, D, Pl, hcs, _, hl, hm, hmm, _, hi⟩
  · simp at hcs
    subst hcs
    exact ⟨none, 0, 0, fun _ => ⟨⟨#[]⟩, 0, 0, ⟨#[]⟩, 0, fun _ => 0⟩, rfl, fun _ => d0, fun _ => d1, Nat.zero_le _, .inl rfl⟩
  · simp at hcs
    subst hcs
    simp only [if_true] at hmm
    subst hmm
    have hx : ∀ j, ∃ s : AD, SizA s ∧ NumA s ∧ (j < l → ∃ y cc, (W.cell? (x.add (j * 5)) = some (.string s.m) ∧ W.cell? (x.add (j * 5 + 1)) = some (.int .i64 s.k) ∧ W.cell? (x.add (j * 5 + 2)) = some (.int .i64 s.n) ∧ W.cell? (x.add (j * 5 + 3)) = some (.string s.s) ∧ W.cell? (x.add (j * 5 + 4)) = some (.slice y s.len cc)) ∧ Reads W y s.len s.z) := by
      intro j
      by_cases hj : j < l
      · obtain ⟨cs', hc, ht⟩ := hi j (by omega)
        rw [attrCells] at hc
        obtain ⟨s, y, cc, hs, hn, rfl, hr⟩ := attr_cells ht
        obtain ⟨-, -, hat⟩ := World.cells?_some hc
        have e : ∀ i, i < 5 → (x.add (j * 5)).add i = x.add (j * 5 + i) := fun i _ => Go.Deep.add_add _ _ _
        refine ⟨s, hs, hn, fun _ => ⟨y, cc, ⟨?_, ?_, ?_, ?_, ?_⟩, hr⟩⟩
        · have := hat 0 (by omega); rw [e 0 (by omega)] at this; exact this
        · have := hat 1 (by omega); rw [e 1 (by omega)] at this; exact this
        · have := hat 2 (by omega); rw [e 2 (by omega)] at this; exact this
        · have := hat 3 (by omega); rw [e 3 (by omega)] at this; exact this
        · have := hat 4 (by omega); rw [e 4 (by omega)] at this; exact this
      · exact ⟨_, d0, d1, fun h => absurd h hj⟩
    have hS : ∃ S : Nat → AD, ∀ j, SizA (S j) ∧ NumA (S j) ∧ (j < l → ∃ y cc, (W.cell? (x.add (j * 5)) = some (.string (S j).m) ∧ W.cell? (x.add (j * 5 + 1)) = some (.int .i64 (S j).k) ∧ W.cell? (x.add (j * 5 + 2)) = some (.int .i64 (S j).n) ∧ W.cell? (x.add (j * 5 + 3)) = some (.string (S j).s) ∧ W.cell? (x.add (j * 5 + 4)) = some (.slice y (S j).len cc)) ∧ Reads W y (S j).len (S j).z) := ⟨fun j => Classical.choose (hx j), fun j => Classical.choose_spec (hx j)⟩
    obtain ⟨S, hS⟩ := hS
    refine ⟨some x, l, _, S, rfl, fun j => (hS j).1, fun j => (hS j).2.1, Nat.le_trans hl hm, ?_⟩
    by_cases hz : l = 0
    · exact Or.inl hz
    · right
      obtain ⟨b, off, spot⟩ := x
      have hspot : spot = none := by
        obtain ⟨y, cc, h0, _⟩ := (hS 0).2.2 (by omega)
        simpa [Addr.add] using World.cell?_spot h0.1
      subst hspot
      refine ⟨b, off, rfl, fun j hj => ?_⟩
      obtain ⟨y, cc, h5, hr⟩ := (hS j).2.2 hj
      rw [Addr.add_lit, Addr.add_lit, Addr.add_lit, Addr.add_lit, Addr.add_lit] at h5
      exact ⟨y, cc, h5, hr⟩

set_option maxRecDepth 100000 in
/-- A row that came in, opened. -/
theorem row_of {H : Type} {enc : TypeId × Value → H} {W : World} {base : Nat} {v : Value} {d : DataW H} {p : List MemPlace} (hv : Value.okWide Tryz.prog W .any base 26 v) (h : DataW.Trod enc Tryz.prog W 0 (fun _ => true) true 26 v d p) :
    ∃ (x : RD) (a : Option Addr) (c : Nat), v = .agg #[.string x.key, .int .i64 x.t, .int .i64 x.i, .int .i64 x.q, .string x.o, .slice a x.len c] ∧ GoR x ∧ ReadsA W a x.len x.A := by
  obtain ⟨cs, rfl, hsz⟩ := okWide_struct Tryz.underlying26 hv
  rw [rowCells] at hsz
  obtain ⟨l⟩ := cs
  have hsz' : l.length = 6 := hsz
  match l, hsz' with
  | [c0, c1, c2, c3, c4, c5], _ =>
    obtain ⟨fuel, hf⟩ := h
    obtain ⟨ys, m, -, -, hlen, hyl, hg⟩ := DataW.trod_struct Tryz.underlying26 hf
    have y3 : ys.length = 3 := hyl
    match ys, y3 with
    | [y0, y1, y2], _ =>
      have h0 : DataW.trod enc Tryz.prog W 0 (fun _ => true) true m 9 [c0] = some y0 := hg 0 _ rfl
      have h1 : DataW.trod enc Tryz.prog W 0 (fun _ => true) true m 23 [c1, c2, c3, c4] = some y1 := hg 1 _ rfl
      have h2 : DataW.trod enc Tryz.prog W 0 (fun _ => true) true m 24 [c5] = some y2 := hg 2 _ rfl
      obtain ⟨k, e0, -, w0⟩ := DataW.trod_string Tryz.underlying9 h0
      cases e0
      obtain ⟨zs, m', -, -, -, hzl, hz⟩ := DataW.trod_struct Tryz.underlying23 h1
      have z4 : zs.length = 4 := hzl
      match zs, z4 with
      | [z0, z1, z2, z3], _ =>
        have g0 : DataW.trod enc Tryz.prog W 0 (fun _ => true) true m' 2 [c1] = some z0 := hz 0 _ rfl
        have g1 : DataW.trod enc Tryz.prog W 0 (fun _ => true) true m' 2 [c2] = some z1 := hz 1 _ rfl
        have g2 : DataW.trod enc Tryz.prog W 0 (fun _ => true) true m' 2 [c3] = some z2 := hz 2 _ rfl
        have g3 : DataW.trod enc Tryz.prog W 0 (fun _ => true) true m' 9 [c4] = some z3 := hz 3 _ rfl
        obtain ⟨t, e1, -, w1⟩ := DataW.trod_int Tryz.underlying2 g0
        obtain ⟨i, e2, -, w2⟩ := DataW.trod_int Tryz.underlying2 g1
        obtain ⟨q, e3, -, w3⟩ := DataW.trod_int Tryz.underlying2 g2
        obtain ⟨o, e4, -, w4⟩ := DataW.trod_string Tryz.underlying9 g3
        cases e1; cases e2; cases e3; cases e4
        obtain ⟨a, len, cap, A, rfl, hS, hN, hr⟩ := attrs_of h2
        exact ⟨⟨k, t, i, q, o, len, A⟩, a, cap, rfl, ⟨w0, w4, in64_of_wfS w1, in64_of_wfS w2, in64_of_wfS w3, fun j _ => hS j, fun j _ => hN j⟩, hr⟩

theorem rowAny_walk (x y : RD) (a : Option Addr) (c : Nat) (gx : GoR x) (b : Option Addr) (d : Nat) (gy : GoR y) (w : World) (hx : ReadsA w a x.len x.A) (hy : ReadsA w b y.len y.A) (hw : LaidT w) :
    Calls Tryz.prog 3 #[.agg #[.string x.key, .int .i64 x.t, .int .i64 x.i, .int .i64 x.q, .string x.o, .slice a x.len c], .agg #[.string y.key, .int .i64 y.t, .int .i64 y.i, .int .i64 y.q, .string y.o, .slice b y.len d]] w fun e w' => e = .returned (.bool true) ∧ Below w.heap.size w w' :=
  rowAny_any x y a b c d gx gy w hx hy hw

end Go.Proofs.YtbabkdeppcfcnaaGreatDoor
