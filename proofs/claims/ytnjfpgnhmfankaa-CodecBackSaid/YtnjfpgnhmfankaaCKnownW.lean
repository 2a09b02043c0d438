/-
  No statement: the walk of cantonlaw5's 'known'.
-/
import Derived.Test.YtnjfpgnhmfankaaCKnown
namespace Go.Proofs.Ytnjfpgnhmfankaa
open Go.RowKit

theorem kIntW (w : World) : Calls Try.prog 11 #[.pointer (some ⟨w.heap.size, 0, none⟩), .slice (some ⟨w.heap.size + 1, 0, none⟩) 2 2] ((w.alloc (.cells #[.slice none 0 0] 27)).alloc (.cells #[.int .i64 300, .int .i64 (-1)] 2)) fun e w' =>
    e = .returned (.tuple #[]) ∧ EncN w w' w.heap.size [216, 4, 1] := by
  have h := (EncN.new w).ints [300, -1] (by simp) (by simp)
  have e : ([] : List UInt8) ++ encs [300, -1] = [216, 4, 1] := by
    show encs [300, -1] = _
    unfold encs
    rw [List.flatMap_cons, List.flatMap_cons, encI300, encIm1]; rfl
  rw [e, World.size_alloc] at h
  exact h

theorem kTextW {w0 w : World} {p : Nat} (h : EncN w0 w p [216, 4, 1]) : Calls Try.prog 9 #[.pointer (some ⟨p, 0, none⟩), .slice (some ⟨w.heap.size, 0, none⟩) 1 1] (w.alloc (.cells #[.string ⟨#[97, 98]⟩] 9)) fun e w' =>
    e = .returned (.tuple #[]) ∧ EncN w0 w' p [216, 4, 1, 4, 97, 98] := by
  have h := h.texts [[97, 98]] (by simp) (by simp) (by simp)
  have e : [216, 4, 1] ++ encts [[97, 98]] = [216, 4, 1, 4, 97, 98] := by
    unfold encts
    rw [List.flatMap_cons, encTab]; rfl
  rw [e] at h
  exact h

def kd0 : DS := ([216, 4, 1, 4, 97, 98], 0)
def kd1 : DS := ([1, 4, 97, 98], 0)
def kd2 : DS := ([4, 97, 98], 0)
def kd3 : DS := ([], 0)
theorem kdInt0 : dInt kd0 = (300, kd1) := by
  have := dInt_enc (n := 300) (by decide) (by decide) [1, 4, 97, 98] 0
  rw [encI300] at this; exact this
theorem kdInt1 : dInt kd1 = (-1, kd2) := by
  have := dInt_enc (n := -1) (by decide) (by decide) [4, 97, 98] 0
  rw [encIm1] at this; exact this
theorem kdText : dText kd2 = ([97, 98], kd3) := by
  have := dText_enc (s := [97, 98]) (by decide) [] 0
  rw [encTab] at this; exact this

theorem kOf {w0 w : World} {p : Nat} (hE : EncN w0 w p [216, 4, 1, 4, 97, 98]) (a : Option Addr) (c : Nat) (h : BR w a c [216, 4, 1, 4, 97, 98]) : Calls Try.prog 14 #[.slice a 6 c] w fun e w' => ∃ q, e = .returned (.pointer (some ⟨q, 0, none⟩)) ∧ KnS w0 w w' p q [216, 4, 1, 4, 97, 98] kd0 :=
  (of_any a c [216, 4, 1, 4, 97, 98] (by simp) w h).mono fun e w' hP => by
    obtain ⟨q, he, hd⟩ := DecN.of hP
    exact ⟨q, he, KnS.start hE hd⟩

theorem kBytes {w0 w : World} {p : Nat} (hE : EncN w0 w p [216, 4, 1, 4, 97, 98]) : Calls Try.prog 13 #[.pointer (some ⟨p, 0, none⟩)] w fun e w' => ∃ a c, e = .returned (.slice a 6 c) ∧ BR w' a c [216, 4, 1, 4, 97, 98] ∧ Below w.heap.size w w' :=
  (hE.bytes (by simp)).mono fun e w' ⟨a, c, he, ho, hb⟩ => ⟨a, c, he, ho.br, hb⟩

theorem kD0 {w0 w1 w : World} {p q : Nat} {l : List UInt8} (h : KnS w0 w1 w p q l kd0) : Calls Try.prog 16 #[.pointer (some ⟨q, 0, none⟩)] w fun e w' => e = .returned (.int .i64 300) ∧ KnS w0 w1 w' p q l kd1 :=
  h.d.int.mono fun e w' ⟨he, hd, hk⟩ => by rw [kdInt0] at he hd; exact ⟨he, h.step hd hk⟩
theorem kD1 {w0 w1 w : World} {p q : Nat} {l : List UInt8} (h : KnS w0 w1 w p q l kd1) : Calls Try.prog 16 #[.pointer (some ⟨q, 0, none⟩)] w fun e w' => e = .returned (.int .i64 (-1)) ∧ KnS w0 w1 w' p q l kd2 :=
  h.d.int.mono fun e w' ⟨he, hd, hk⟩ => by rw [kdInt1] at he hd; exact ⟨he, h.step hd hk⟩
theorem kD2 {w0 w1 w : World} {p q : Nat} {l : List UInt8} (h : KnS w0 w1 w p q l kd2) : Calls Try.prog 15 #[.pointer (some ⟨q, 0, none⟩)] w fun e w' => e = .returned (.string ⟨#[97, 98]⟩) ∧ KnS w0 w1 w' p q l kd3 :=
  h.d.text.mono fun e w' ⟨he, hd, hk⟩ => by rw [kdText] at he hd; exact ⟨he, h.step hd hk⟩

theorem blkBR {w : World} {b : Nat} {cur : Array Value} {t : TypeId} {fr : Nat × Nat} (h : w.heap[b]? = some (.cells cur t fr)) (l : List UInt8) (hc : cur.toList = bC l) (hm : l.length ≤ 1000) : BR w (some ⟨b, 0, none⟩) l.length l := by
  refine ⟨Nat.le_refl _, by unfold maxLen; omega, .inr (.inr ⟨b, 0, rfl, fun j hj => ?_⟩)⟩
  rw [cell_of_row w b _ cur t fr h, Nat.zero_add, ← Array.getElem?_toList, hc, bC_at l hj]

theorem heap_mark (w : World) (C : Array Value) (t : TypeId) (fr : Nat × Nat) : (w.alloc (.cells C t fr)).heap[w.heap.size]? = some (.cells C t fr) := by
  show (w.heap.push (.cells C t fr))[w.heap.size]? = _
  simp

/-- A conversion of the call's own bytes to themselves marks their block, and no more. -/
theorem conv_own (w : World) (C : Array Value) (n c : Nat) : (convert 25 25 (.slice (some ⟨w.heap.size, 0, none⟩) n c)).run Try.prog (w.alloc (.cells C 5)) = .ok (.slice (some ⟨w.heap.size, 0, none⟩) n c) (w.alloc (.cells C 5 (C.size, C.size + 1))) := by
  have hsh : (w.alloc (.cells C 5)).shape? w.heap.size = some (5, C.size) := by
    have : (w.alloc (.cells C 5)).heap[w.heap.size]? = some (.cells C 5) := by
      show (w.heap.push (.cells C 5))[w.heap.size]? = _
      simp
    unfold World.shape?
    rw [this]
  have hfr : ∀ (n : Nat), (w.alloc (.cells C 5)).freeze ⟨w.heap.size, n, none⟩ 1 = w.alloc (.cells C 5 (n, n + 1)) := fun n => by
    have hm : ∀ (a : Array Obj) (x : Obj) (f : Obj → Obj), (a.push x).modify a.size f = a.push (f x) := by
      intro a x f
      apply Array.ext
      · simp
      · intro i h1 h2
        simp only [Array.getElem_modify, Array.getElem_push]
        by_cases h : a.size = i
        · subst h
          simp
        · have hi : i < a.size := by simp at h1; omega
          simp [h, hi]
    unfold World.freeze
    rw [if_neg (by decide)]
    show ({ w.alloc (.cells C 5) with heap := (w.heap.push (.cells C 5)).modify w.heap.size _ } : World) = _
    rw [hm]
    rfl
  simp [convert, run_underlying undB, run_underlying Try.underlying5, markStringish, hsh]
  exact hfr _

theorem kSeal (w : World) : Calls Try.prog 24 #[.slice (some ⟨w.heap.size, 0, none⟩) 3 3] (w.alloc (.cells #[.int .u8 120, .int .u8 121, .int .u8 122] 5 (3, 4))) fun e w' => ∃ a c, e = .returned (.slice a 7 c) ∧ BR w' a c (sealB [120, 121, 122]) ∧ Below w.heap.size w w' :=
  (seal_any _ 3 [120, 121, 122] (by simp) _ (blkBR (heap_mark w _ _ _) [120, 121, 122] rfl (by simp))).mono fun e w' ⟨a, c, he, ho, hb⟩ => ⟨a, c, he, ho.br, (below_new w _).trans (hb.mono (by simp))⟩

theorem kOpen (a : Option Addr) (c : Nat) (w : World) (h : BR w a c (sealB [120, 121, 122])) : Calls Try.prog 25 #[.slice a 7 c] w fun e w' => ∃ a c, e = .returned (.tuple #[.slice a 3 c, .int .i64 0]) ∧ BR w' a c [120, 121, 122] ∧ Below w.heap.size w w' :=
  (open_any a 3 c [120, 121, 122] (le4 (crc [120, 121, 122])) rfl rfl (by decide) w h).mono fun e w' ⟨h, hb⟩ => by
    rw [if_pos (valB_le4 (crc_lt _))] at h
    obtain ⟨a, c, he, ho⟩ := h
    exact ⟨a, c, he, ho.br, hb⟩

theorem kOpen0 (w : World) : Calls Try.prog 25 #[.slice (some ⟨w.heap.size, 0, none⟩) 4 4] (w.alloc (.cells #[.int .u8 120, .int .u8 121, .int .u8 122, .int .u8 48] 5 (4, 5))) fun e w' => e = .returned (.tuple #[.slice none 0 0, .int .i64 10]) ∧ Below w.heap.size w w' :=
  (open_any _ 0 4 [] [120, 121, 122, 48] rfl rfl (by decide) _ (blkBR (heap_mark w _ _ _) [120, 121, 122, 48] rfl (by simp))).mono fun e w' ⟨h, hb⟩ => by
    rw [if_neg (by decide)] at h
    exact ⟨h, (below_new w _).trans (hb.mono (by simp))⟩

theorem conv3 (w : World) : (convert 25 25 (.slice (some ⟨w.heap.size, 0, none⟩) 3 3)).run Try.prog (w.alloc (.cells #[.int .u8 120, .int .u8 121, .int .u8 122] 5)) = .ok (.slice (some ⟨w.heap.size, 0, none⟩) 3 3) (w.alloc (.cells #[.int .u8 120, .int .u8 121, .int .u8 122] 5 (3, 4))) := conv_own w _ 3 3
theorem conv4 (w : World) : (convert 25 25 (.slice (some ⟨w.heap.size, 0, none⟩) 4 4)).run Try.prog (w.alloc (.cells #[.int .u8 120, .int .u8 121, .int .u8 122, .int .u8 48] 5)) = .ok (.slice (some ⟨w.heap.size, 0, none⟩) 4 4) (w.alloc (.cells #[.int .u8 120, .int .u8 121, .int .u8 122, .int .u8 48] 5 (4, 5))) := conv_own w _ 4 4

theorem kLeft {w0 w1 w : World} {p q : Nat} {l : List UInt8} (h : KnS w0 w1 w p q l kd3) : Calls Try.prog 17 #[.pointer (some ⟨q, 0, none⟩)] w fun e w' => e = .returned (.int .i64 0) ∧ w' = w := decLeft_any q _ kd3 w h.d.1
theorem kErr {w0 w1 w : World} {p q : Nat} {l : List UInt8} (h : KnS w0 w1 w p q l kd3) : Calls Try.prog 18 #[.pointer (some ⟨q, 0, none⟩)] w fun e w' => e = .returned (.int .i64 0) ∧ w' = w := decErr_any q _ kd3 w h.d.1

set_option maxRecDepth 100000 in
set_option maxHeartbeats 4000000 in
theorem known_any (w : World) : Calls Try.prog 8 #[] w fun e w' => e = .returned (.bool true) ∧ Below w.heap.size w w' := by
  go_enter Try.func8, Try.ntmps8
  go_wp2_with fail
  refine (kIntW w).mono ?_
  rintro e w1 ⟨rfl, h1⟩
  have H1 := Lib.hid h1
  clear h1
  go_wp2_with fail
  refine (kTextW H1.out).mono ?_
  rintro e w2 ⟨rfl, h2⟩
  have H2 := Lib.hid h2
  clear h2 H1
  go_wp2_with fail
  refine (kBytes H2.out).mono ?_
  rintro e w3 ⟨a3, c3, rfl, hr3, hb3⟩
  have H3 := Lib.hid (H2.out.kept hb3)
  have R3 := Lib.hid hr3
  clear hr3 hb3 H2
  go_wp2_with fail
  refine (kOf H3.out _ _ R3.out).mono ?_
  rintro e w4 ⟨q, rfl, hk4⟩
  have K4 := Lib.hid hk4
  clear hk4 R3
  go_wp2_with fail
  refine (kD0 K4.out).mono ?_
  rintro e w5 ⟨rfl, hk⟩
  have K5 := Lib.hid hk
  clear hk K4
  go_wp2_with fail
  refine (kD1 K5.out).mono ?_
  rintro e w6 ⟨rfl, hk⟩
  have K6 := Lib.hid hk
  clear hk K5
  go_wp2_with fail
  refine (kD2 K6.out).mono ?_
  rintro e w7 ⟨rfl, hk⟩
  have K7 := Lib.hid hk
  have cv := conv3 w7
  clear hk K6
  go_wp2_with fail
  clear cv
  refine (kSeal _).mono ?_
  rintro e w8 ⟨a8, c8, rfl, hr, hb⟩
  have K8 := Lib.hid (K7.out.below hb)
  have R8 := Lib.hid hr
  clear hb hr K7
  go_wp2_with fail
  refine (kOpen _ _ _ R8.out).mono ?_
  rintro e w9 ⟨a9, c9, rfl, hr, hb⟩
  have K9 := Lib.hid (K8.out.below hb)
  have R9 := Lib.hid hr
  have cv := conv4 w9
  clear hb hr K8 R8
  go_wp2_with fail
  clear cv
  refine (kOpen0 _).mono ?_
  rintro e w10 ⟨rfl, hb⟩
  have K10 := Lib.hid (K9.out.below hb)
  have R10 := Lib.hid (R9.out.kept hb)
  clear hb K9 R9
  go_wp2_with fail
  refine (kBytes K10.out.e).mono ?_
  rintro e w11 ⟨a11, c11, rfl, hr, hb⟩
  have K11 := Lib.hid (K10.out.below hb)
  have s11 := strB hr
  have s12 := strB (R10.out.kept hb)
  simp only [List.length_cons, List.length_nil] at s11 s12
  clear hb hr K10 R10
  go_wp2_with fail
  refine (kLeft K11.out).mono ?_
  rintro e w12 ⟨rfl, rfl⟩
  go_wp2_with fail
  refine (kErr K11.out).mono ?_
  rintro e w13 ⟨rfl, rfl⟩
  have P := Lib.hid K11.out.e.2
  go_wp2_with fail
  go_ret
  exact ⟨rfl, P.out⟩

end Go.Proofs.Ytnjfpgnhmfankaa
