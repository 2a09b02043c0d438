/-
  No statement: the first test of each law of cantonlaw2, 'known': it returns true and turns nothing that was there.
-/
import Derived.Test.YtdghknmlleffbaaDoorVParseAll
import Derived.Test.YtdghknmlleffbaaDoorVCmp
import Derived.Test.YtdghknmlleffbaaDoorVText
namespace Go.Proofs.YtdghknmlleffbaaDoor
open Go.RowKit

theorem itoa1 : Lib.itoa 1 = [49] := by simp [Lib.itoa, Lib.decDigits]
theorem itoa5 : Lib.itoa 5 = [53] := by simp [Lib.itoa, Lib.decDigits]
theorem itoam3 : Lib.itoa (-3) = [45, 51] := by simp [Lib.itoa, Lib.decDigits]
theorem num1 : numOf [49] = some 1 := by
  have : Lib.parseIntB 64 [49] = .ok 1 := by decide
  simp [numOf, this, itoa1]
theorem num5 : numOf [53] = some 5 := by
  have : Lib.parseIntB 64 [53] = .ok 5 := by decide
  simp [numOf, this, itoa5]
theorem num01 : numOf [48, 49] = none := by
  have : Lib.parseIntB 64 [48, 49] = .ok 1 := by decide
  simp [numOf, this, itoa1]
theorem raw1 : raw [91, 49, 32, 53, 93] = some (.list [1, 5]) := by
  have hi : inner [91, 49, 32, 53, 93] 93 = some [49, 32, 53] := by decide
  have hs : splitL [49, 32, 53] = [[49], [53]] := by decide
  simp [raw, hi, hs, numsOf, num1, num5]
theorem raw2 : raw [34, 120, 32, 121, 34] = some (.text [120, 32, 121]) := by
  have hi : inner [34, 120, 32, 121, 34] 34 = some [120, 32, 121] := by decide
  simp [raw, hi]
theorem raw3 : raw [48, 49] = none := by simp [raw, num01]

theorem reads_list {w : World} {a : Option Addr} {len : Nat} {z z' : Nat → Int} (h : Reads w a len z) (hz : ∀ j, j < len → z j = z' j) : Reads w a len z' :=
  ⟨h.1, h.2.imp id fun ⟨b, off, e, hc⟩ => ⟨b, off, e, fun j hj => by rw [← hz j hj]; exact hc j hj⟩⟩

/-- 1 and 5, then nought. -/
def z15 (j : Nat) : Int := ([1, 5] : List Int).getD j 0
theorem z15_in (j : Nat) : In64 (z15 j) := by
  unfold z15 In64
  match j with
  | 0 => decide
  | 1 => decide
  | j + 2 => simp
theorem upTo15 : upTo z15 2 = [1, 5] := by decide
theorem text15 : textV 3 0 ⟨#[]⟩ 2 z15 = [91, 49, 32, 53, 93] := by
  simp [textV, listT, listPre, z15, itoa1, itoa5]
theorem textm3 : textV 1 (-3) ⟨#[]⟩ 0 z15 = [45, 51] := by simp [textV, itoam3]

/-- What the walk keeps of the two values that it has read: the structs' cells, the list's numbers. -/
structure Kn (B1 B3 : Nat) (a : Option Addr) (cap : Nat) (w : World) : Prop where
  r : Reads w a 2 z15
  c1 : w.heap[B1]? = some (.cells #[.int .i64 3, .int .i64 0, .string ⟨#[]⟩, .slice a 2 cap] 24 (0, 0))
  c3 : w.heap[B3]? = some (.cells #[.int .i64 2, .int .i64 0, .string ⟨#[120, 32, 121]⟩, .slice none 0 0] 24 (0, 0))
  l : Laid w
  s : 7 ≤ w.heap.size

theorem Kn.kept {B1 B3 : Nat} {a : Option Addr} {cap : Nat} {w w' : World} (h : Kn B1 B3 a cap w) (hb : Below w.heap.size w w') : Kn B1 B3 a cap w' :=
  ⟨h.r.kept hb, (hb.block _ (lt_of_block h.c1)).trans h.c1, (hb.block _ (lt_of_block h.c3)).trans h.c3, h.l.below hb h.s, Nat.le_trans h.s hb.size⟩

theorem parse1 {w : World} {e : Ending} {w' : World} (h : ParsePost ⟨#[91, 49, 32, 53, 93]⟩ w e w') : Below w.heap.size w w' ∧ ∃ a cap, e = .returned (.tuple #[val 3 0 ⟨#[]⟩ (.slice a 2 cap), .int .i64 0]) ∧ Reads w' a 2 z15 := by
  obtain ⟨hb, ⟨hr, _⟩ | ⟨p, hr, h0, _⟩ | ⟨p, k, n, T, a, len, cap, z, hr, h0, hi, hd, _, _, rfl⟩⟩ := h
  · exact absurd (hr.symm.trans raw1) (by simp)
  · cases hr.symm.trans raw1
    exact absurd (by decide) h0
  · cases hr.symm.trans raw1
    obtain ⟨rfl, rfl, rfl, hu⟩ := hi
    have hl : len = 2 := by have := congrArg List.length hu; rw [upTo_len] at this; exact this
    subst hl
    refine ⟨hb, a, cap, rfl, reads_list hd fun j hj => ?_⟩
    rw [← upTo_at z hj, hu]; rfl

theorem parse2 {w : World} {e : Ending} {w' : World} (h : ParsePost ⟨#[34, 120, 32, 121, 34]⟩ w e w') : Below w.heap.size w w' ∧ e = .returned (.tuple #[val 2 0 ⟨#[120, 32, 121]⟩ (.slice none 0 0), .int .i64 0]) := by
  obtain ⟨hb, ⟨hr, _⟩ | ⟨p, hr, h0, _⟩ | ⟨p, k, n, T, a, len, cap, z, hr, h0, hi, hd, _, _, rfl⟩⟩ := h
  · exact absurd (hr.symm.trans raw2) (by simp)
  · cases hr.symm.trans raw2
    exact absurd (by decide) h0
  · cases hr.symm.trans raw2
    obtain ⟨rfl, rfl, hT, rfl, rfl, rfl⟩ := hi
    obtain rfl : T = ⟨#[120, 32, 121]⟩ := text_eq hT
    exact ⟨hb, rfl⟩

theorem parse3 {w : World} {e : Ending} {w' : World} (h : ParsePost ⟨#[48, 49]⟩ w e w') : Below w.heap.size w w' ∧ e = .returned (.tuple #[val 0 0 ⟨#[]⟩ (.slice none 0 0), .int .i64 2]) := by
  obtain ⟨hb, ⟨_, rfl⟩ | ⟨p, hr, h0, _⟩ | ⟨p, k, n, T, a, len, cap, z, hr, h0, hi, hd, _, _, rfl⟩⟩ := h
  · exact ⟨hb, rfl⟩
  · exact absurd (hr.symm.trans raw3) (by simp)
  · exact absurd (hr.symm.trans raw3) (by simp)

set_option maxRecDepth 100000 in
set_option maxHeartbeats 4000000 in
theorem known_any (w : World) (hw : Laid w) (h8 : 7 ≤ w.heap.size) : Calls Tryd.prog 8 #[] w fun e w' => e = .returned (.bool true) ∧ Below w.heap.size w w' := by
  go_enter Tryd.func8, Tryd.ntmps8
  go_wp2_with fail
  refine (parse_any _ (by decide) w hw h8).mono ?_
  intro e w1 hp
  obtain ⟨hb, a, cap, rfl, hd⟩ := parse1 hp
  have hw1 := hw.below hb h8
  have h81 : 7 ≤ w1.heap.size := Nat.le_trans h8 hb.size
  have D1 := Lib.hid hd
  have W1 := Lib.hid hw1
  have b1 := Lib.hid hb
  clear hp hb hd hw1
  unfold val
  go_wp2_with fail
  have hal : Below w1.heap.size w1 (w1.alloc (.cells #[.int .i64 3, .int .i64 0, .string ⟨#[]⟩, .slice a 2 cap] 24)) := (Below.refl _ _).alloc (Nat.le_refl _) _
  refine (parse_any _ (by decide) _ (W1.out.below hal h81) (by simp; omega)).mono ?_
  intro e w2 hp
  obtain ⟨hb, rfl⟩ := parse2 hp
  have c1 := Lib.hid ((hb.block w1.heap.size (by simp)).trans (World.alloc_heap_new w1 _))
  have D2 := Lib.hid (((D1.out.kept hal).kept hb))
  have W2 := Lib.hid ((W1.out.below hal h81).below hb (by simp; omega))
  have b2 := Lib.hid (b1.out.trans ((hal.trans (hb.mono (by simp))).mono (by have := b1.out.size; omega)))
  have h82 : 7 ≤ w2.heap.size := by have := b2.out.size; omega
  clear hp hb hal D1 W1 b1
  unfold val
  go_wp2_with fail
  have hal : Below w2.heap.size w2 (w2.alloc (.cells #[.int .i64 2, .int .i64 0, .string ⟨#[120, 32, 121]⟩, .slice none 0 0] 24)) := (Below.refl _ _).alloc (Nat.le_refl _) _
  refine (parse_any _ (by decide) _ (W2.out.below hal h82) (by simp; omega)).mono ?_
  intro e w3 hp
  obtain ⟨hb, rfl⟩ := parse3 hp
  have hbb : Below w2.heap.size w2 w3 := hal.trans (hb.mono (by simp))
  have K3 := Lib.hid (Kn.mk (B1 := w1.heap.size) (B3 := w2.heap.size) ((D2.out.kept hal).kept hb) ((hbb.block _ (lt_of_block c1.out)).trans c1.out) ((hb.block w2.heap.size (by simp)).trans (World.alloc_heap_new w2 _)) (W2.out.below hbb h82) (Nat.le_trans h82 hbb.size))
  have b3 := Lib.hid (b2.out.trans (hbb.mono (by have := b2.out.size; omega)))
  clear hp hb hbb hal D2 W2 b2 c1
  unfold val
  have K4 := Lib.hid (K3.out.kept ((Below.refl _ _).alloc (Nat.le_refl _) (.cells #[.int .i64 0, .int .i64 0, .string ⟨#[]⟩, .slice none 0 0] 24)))
  have b4 := Lib.hid (b3.out.alloc (o := .cells #[.int .i64 0, .int .i64 0, .string ⟨#[]⟩, .slice none 0 0] 24) (by have := b3.out.size; omega))
  clear K3 b3
  obtain ⟨⟨k0, k1, k2, k3⟩, g0, g1, g2, g3⟩ := four K4.out.c1
  obtain ⟨⟨m0, m1, m2, m3⟩, f0, f1, f2, f3⟩ := four K4.out.c3
  have D1 := fun w => vDiv_any (-7) 2 w (by unfold In64; omega) (by unfold In64; omega) (by omega)
  rw [show cut64 (Int.tdiv (-7) 2) = -3 by decide] at D1
  have D2 := fun w => vMod_any (-7) 2 w (by unfold In64; omega) (by unfold In64; omega) (by omega)
  rw [show Int.tmod (-7) 2 = -1 by decide] at D2
  have D3 := fun w => vDiv_nought 1 w
  have D1' := Lib.hid D1
  have D2' := Lib.hid D2
  have D3' := Lib.hid D3
  clear D1 D2 D3
  go_wp2_with (first | (go_at_call 30; refine (D2'.out _).mono ?_; rintro e w' ⟨rfl, rfl⟩) | (go_at_call 29; first | ((with_reducible refine (D1'.out _).mono ?_); rintro e w' ⟨rfl, rfl⟩) | ((with_reducible refine (D3'.out _).mono ?_); rintro e w' ⟨rfl, rfl⟩)))
  have C := text_any 3 0 (by unfold In64; omega) ⟨#[]⟩ (Nat.zero_le _) a 2 cap z15 z15_in (by omega) _ K4.out.r K4.out.l K4.out.s
  rw [text15] at C
  unfold val at C
  refine C.mono ?_
  clear C
  rintro e w5 ⟨rfl, hb⟩
  have K5 := Lib.hid (K4.out.kept hb)
  have b5 := Lib.hid (b4.out.trans (hb.mono (by have := b4.out.size; omega)))
  clear hb K4 b4 k0 k1 k2 k3 g0 g1 g2 g3 m0 m1 m2 m3 f0 f1 f2 f3
  obtain ⟨⟨k0, k1, k2, k3⟩, g0, g1, g2, g3⟩ := four K5.out.c1
  obtain ⟨⟨m0, m1, m2, m3⟩, f0, f1, f2, f3⟩ := four K5.out.c3
  go_wp2_with fail
  have C := text_any 1 (-3) (by unfold In64; omega) ⟨#[]⟩ (Nat.zero_le _) none 0 0 z15 z15_in (by omega) _ ⟨Nat.zero_le _, .inl rfl⟩ K5.out.l K5.out.s
  rw [textm3] at C
  unfold val at C
  refine C.mono ?_
  clear C
  rintro e w6 ⟨rfl, hb⟩
  have K6 := Lib.hid (K5.out.kept hb)
  have b6 := Lib.hid (b5.out.trans (hb.mono (by have := b5.out.size; omega)))
  clear hb K5 b5 k0 k1 k2 k3 g0 g1 g2 g3 m0 m1 m2 m3 f0 f1 f2 f3
  obtain ⟨⟨k0, k1, k2, k3⟩, g0, g1, g2, g3⟩ := four K6.out.c1
  obtain ⟨⟨m0, m1, m2, m3⟩, f0, f1, f2, f3⟩ := four K6.out.c3
  go_wp2_with fail
  have C := compare_any 3 0 ⟨#[]⟩ a 2 cap z15 2 0 ⟨#[120, 32, 121]⟩ none 0 0 z15 _ K6.out.r ⟨Nat.zero_le _, .inl rfl⟩
  rw [show cmpV 3 0 ⟨#[]⟩ 2 z15 2 0 ⟨#[120, 32, 121]⟩ 0 z15 = 1 by decide] at C
  unfold val at C
  refine C.mono ?_
  clear C
  rintro e w7 ⟨rfl, hb⟩
  have K7 := Lib.hid (K6.out.kept hb)
  have b7 := Lib.hid (b6.out.trans (hb.mono (by have := b6.out.size; omega)))
  clear hb K6 b6 k0 k1 k2 k3 g0 g1 g2 g3 m0 m1 m2 m3 f0 f1 f2 f3
  obtain ⟨⟨k0, k1, k2, k3⟩, g0, g1, g2, g3⟩ := four K7.out.c1
  obtain ⟨⟨m0, m1, m2, m3⟩, f0, f1, f2, f3⟩ := four K7.out.c3
  go_wp2_with fail
  have C := same_any 3 0 ⟨#[]⟩ a 2 cap z15 3 0 ⟨#[]⟩ a 2 cap z15 _ K7.out.r K7.out.r
  rw [show decide (cmpV 3 0 ⟨#[]⟩ 2 z15 3 0 ⟨#[]⟩ 2 z15 = 0) = true by decide] at C
  unfold val at C
  refine C.mono ?_
  clear C
  rintro e w8 ⟨rfl, hb⟩
  have K8 := Lib.hid (K7.out.kept hb)
  have b8 := Lib.hid (b7.out.trans (hb.mono (by have := b7.out.size; omega)))
  clear hb K7 b7 k0 k1 k2 k3 g0 g1 g2 g3 m0 m1 m2 m3 f0 f1 f2 f3
  obtain ⟨⟨k0, k1, k2, k3⟩, g0, g1, g2, g3⟩ := four K8.out.c1
  obtain ⟨⟨m0, m1, m2, m3⟩, f0, f1, f2, f3⟩ := four K8.out.c3
  go_wp2_with fail
  have A := vAdd_any 4611686018427387904 4611686018427387904 w8 (by unfold In64; omega) (by unfold In64; omega)
  rw [show cut64 (4611686018427387904 + 4611686018427387904) = 9223372036854775807 by decide] at A
  refine A.mono ?_
  clear A
  rintro e w' ⟨rfl, rfl⟩
  go_wp2_with fail
  have C := check_any 0 0 ⟨#[]⟩ (Nat.zero_le _) none 0 0 z15 w8 ⟨Nat.zero_le _, .inl rfl⟩
  rw [show errV 0 ⟨#[]⟩ 0 z15 = 7 by decide] at C
  unfold val at C
  refine C.mono ?_
  clear C
  rintro e w9 ⟨rfl, hb⟩
  have b9 := Lib.hid (b8.out.trans (hb.mono (by have := b8.out.size; omega)))
  clear hb
  go_wp2_with fail
  go_ret
  exact ⟨rfl, b9.out⟩

end Go.Proofs.YtdghknmlleffbaaDoor
