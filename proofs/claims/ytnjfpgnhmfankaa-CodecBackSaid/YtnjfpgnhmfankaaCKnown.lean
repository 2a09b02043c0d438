/-
  No statement: the first test of each law of cantonlaw5, 'known': it returns true and turns nothing that was there.
-/
import Derived.Test.YtnjfpgnhmfankaaCEncT
import Derived.Test.YtnjfpgnhmfankaaCDecM
namespace Go.Proofs.Ytnjfpgnhmfankaa
open Go.RowKit

/-- An Enc that was made since w0, in blocks of its own. -/
def EncN (w0 w : World) (p : Nat) (l : List UInt8) : Prop := (∃ F, EncH w p F l ∧ ∀ k, F k → w0.heap.size ≤ k) ∧ Below w0.heap.size w0 w

theorem EncN.new (w : World) : EncN w (w.alloc (.cells #[.slice none 0 0] 27)) w.heap.size [] :=
  ⟨⟨fun k => k = w.heap.size, ⟨_, heap_alloc_new w _, World.ownsRow_nil _ _ _ _, fun h => (by cases h), rfl, fun _ h => (by cases h), fun k hk => by simp; omega⟩, fun k hk => by omega⟩, below_new w _⟩

theorem encN_step {w0 w w' : World} {p : Nat} {m : List UInt8} {e : Ending} {F : Nat → Prop} (hF : ∀ k, F k → w0.heap.size ≤ k) (hb : Below w0.heap.size w0 w) (h : EncPost w F p m e w') : e = .returned (.tuple #[]) ∧ EncN w0 w' p m := by
  obtain ⟨he, F', hE', hg, hk⟩ := h
  exact ⟨he, ⟨F', hE', fun k hk => (hg k hk).elim (hF k) (fun h => by have := hb.size; omega)⟩, hb.trans (hk.below hF hb.size)⟩

theorem EncN.kept {w0 w w' : World} {p : Nat} {l : List UInt8} (h : EncN w0 w p l) (hb : Below w.heap.size w w') : EncN w0 w' p l := by
  obtain ⟨⟨F, hE, hF⟩, hb0⟩ := h
  have hlt : ∀ k, F k → k < w.heap.size := by obtain ⟨_, _, _, _, _, _, h5⟩ := hE; exact h5
  exact ⟨⟨F, hE.kept (S := fun k => w.heap.size ≤ k) ⟨hb.os, hb.tape, hb.output, hb.size, fun k hk _ => hb.block k hk⟩ (fun k hk h => by have := hlt k hk; omega), hF⟩, hb0.trans (hb.mono hb0.size)⟩

theorem encI300 : encI 300 = [216, 4] := by
  unfold encI
  rw [show Lib.zigzag 300 = 600 by decide, Lib.uvarint_big (by decide), Lib.uvarint_small (by decide)]
  rfl
theorem encIm1 : encI (-1) = [1] := by
  unfold encI
  rw [show Lib.zigzag (-1) = 1 by decide, Lib.uvarint_small (by decide)]
  rfl
theorem encTab : encT [97, 98] = [4, 97, 98] := by
  unfold encT encI
  rw [show Lib.zigzag (([97, 98] : List UInt8).length : Nat) = 4 by decide, Lib.uvarint_small (by decide)]
  rfl

/-- The call's own numbers, in the block that was made last. -/
theorem EncN.ints {w0 w : World} {p : Nat} {l : List UInt8} (h : EncN w0 w p l) (zs : List Int) (hz : ∀ z ∈ zs, -9223372036854775808 ≤ z ∧ z ≤ 9223372036854775807) (hsz : l.length + 10 * zs.length ≤ 100000000000) :
    Calls Try.prog 11 #[.pointer (some ⟨p, 0, none⟩), .slice (some ⟨w.heap.size, 0, none⟩) zs.length zs.length] (w.alloc (.cells (zs.map (Value.int .i64)).toArray 2)) fun e w' => e = .returned (.tuple #[]) ∧ EncN w0 w' p (l ++ encs zs) := by
  obtain ⟨⟨F, hE, hF⟩, hb⟩ := h
  have hlt : ∀ k, F k → k < w.heap.size := by obtain ⟨_, _, _, _, _, _, h5⟩ := hE; exact h5
  have hE1 : EncH (w.alloc (.cells (zs.map (Value.int .i64)).toArray 2)) p F l := hE.kept ((Kept.refl (fun _ => False) w).alloc _) (fun _ _ h => h)
  refine (encInt_any p F l _ zs _ _ hz hsz hE1 ⟨by unfold maxLen; omega, .inr ⟨_, _, rfl, fun h => by have := hlt _ h; omega, fun j hj => ?_⟩⟩).mono fun e w' hP => encN_step hF (hb.alloc hb.size _) hP
  rw [cell_of_row _ _ _ _ _ (0, 0) (heap_alloc_new w _), Nat.zero_add]
  simp [List.getElem?_eq_getElem hj]

theorem EncN.texts {w0 w : World} {p : Nat} {l : List UInt8} (h : EncN w0 w p l) (ts : List (List UInt8)) (hz : ∀ t ∈ ts, t.length ≤ 1000000) (hsz : ts.length ≤ 100) (hl : l.length ≤ 1000000000) :
    Calls Try.prog 9 #[.pointer (some ⟨p, 0, none⟩), .slice (some ⟨w.heap.size, 0, none⟩) ts.length ts.length] (w.alloc (.cells (ts.map (fun t => Value.string ⟨t.toArray⟩)).toArray 9)) fun e w' => e = .returned (.tuple #[]) ∧ EncN w0 w' p (l ++ encts ts) := by
  obtain ⟨⟨F, hE, hF⟩, hb⟩ := h
  have hlt : ∀ k, F k → k < w.heap.size := by obtain ⟨_, _, _, _, _, _, h5⟩ := hE; exact h5
  have hE1 : EncH (w.alloc (.cells (ts.map (fun t => Value.string ⟨t.toArray⟩)).toArray 9)) p F l := hE.kept ((Kept.refl (fun _ => False) w).alloc _) (fun _ _ h => h)
  refine (encText_any p F l _ ts _ _ hz hsz hl hE1 ⟨by unfold maxLen; omega, .inr ⟨_, _, rfl, fun h => by have := hlt _ h; omega, fun j hj => ?_⟩⟩).mono fun e w' hP => encN_step hF (hb.alloc hb.size _) hP
  rw [cell_of_row _ _ _ _ _ (0, 0) (heap_alloc_new w _), Nat.zero_add]
  simp [List.getElem?_eq_getElem hj]

theorem EncN.bytes {w0 w : World} {p : Nat} {l : List UInt8} (h : EncN w0 w p l) (hl : l.length ≤ 100000000000) : Calls Try.prog 13 #[.pointer (some ⟨p, 0, none⟩)] w (OutB w l) := by
  obtain ⟨⟨F, hE, _⟩, _⟩ := h
  exact encBytes_any p F l hl w hE

/-- A Dec that was made since w0, in blocks of its own. -/
def DecN (w0 w : World) (q : Nat) (d : DS) : Prop := DecH w q (fun k => w0.heap.size ≤ k ∧ k < w.heap.size) d ∧ Below w0.heap.size w0 w

theorem DecH.mono {w : World} {p : Nat} {F G : Nat → Prop} {d : DS} (h : DecH w p F d) (hG : ∀ k, F k → G k) : DecH w p G d := by
  obtain ⟨a, c, h0, h1, h2, h3⟩ := h
  exact ⟨a, c, h0, h1, fun x hx => ⟨(h2 x hx).1, hG _ (h2 x hx).2.1, (h2 x hx).2.2⟩, hG _ h3⟩

theorem DecN.kept {w0 w w' : World} {q : Nat} {d : DS} (h : DecN w0 w q d) (hb : Below w.heap.size w w') : DecN w0 w' q d :=
  ⟨(h.1.kept (S := fun k => w.heap.size ≤ k) ⟨hb.os, hb.tape, hb.output, hb.size, fun k hk _ => hb.block k hk⟩ (fun k hk h => by omega)).mono (fun k hk => ⟨hk.1, by have := hb.size; omega⟩), h.2.trans (hb.mono h.2.size)⟩

theorem DecN.step {w0 w w' : World} {q : Nat} {d d' : DS} {r : Value} {e : Ending} (h : DecN w0 w q d) (hP : DPost w q (fun k => w0.heap.size ≤ k ∧ k < w.heap.size) r d' e w') : e = .returned r ∧ DecN w0 w' q d' ∧ Kept (· = q) w w' := by
  obtain ⟨he, hd, hk⟩ := hP
  have hq : w0.heap.size ≤ q := by obtain ⟨_, _, _, _, _, h3⟩ := h.1; exact h3.1
  exact ⟨he, ⟨hd.mono (fun k hk2 => ⟨hk2.1, by have := hk.size; omega⟩), h.2.trans (hk.below (fun k hk2 => by omega) h.2.size)⟩, hk⟩

theorem DecN.of {w w' : World} {l : List UInt8} {e : Ending} (h : OfP w l e w') : ∃ q, e = .returned (.pointer (some ⟨q, 0, none⟩)) ∧ DecN w w' q (l, 0) := by
  obtain ⟨q, he, hd, hb⟩ := h
  exact ⟨q, he, hd, hb⟩

theorem DecN.int {w0 w : World} {q : Nat} {d : DS} (h : DecN w0 w q d) : Calls Try.prog 16 #[.pointer (some ⟨q, 0, none⟩)] w fun e w' => e = .returned (.int .i64 (dInt d).1) ∧ DecN w0 w' q (dInt d).2 ∧ Kept (· = q) w w' :=
  (decInt_any q _ d w h.1).mono fun _ _ hP => h.step hP
theorem DecN.text {w0 w : World} {q : Nat} {d : DS} (h : DecN w0 w q d) : Calls Try.prog 15 #[.pointer (some ⟨q, 0, none⟩)] w fun e w' => e = .returned (.string ⟨(dText d).1.toArray⟩) ∧ DecN w0 w' q (dText d).2 ∧ Kept (· = q) w w' :=
  (decText_any q _ d w h.1).mono fun _ _ hP => h.step hP
theorem DecN.many {w0 w : World} {q : Nat} {d : DS} (h : DecN w0 w q d) (most : Int) (hm : -9223372036854775808 ≤ most ∧ most ≤ 9223372036854775807) : Calls Try.prog 21 #[.pointer (some ⟨q, 0, none⟩), .int .i64 most] w fun e w' => e = .returned (.int .i64 (dNum 0 most d).1) ∧ DecN w0 w' q (dNum 0 most d).2 ∧ Kept (· = q) w w' :=
  (decMany_any q _ d most hm w h.1).mono fun _ _ hP => h.step hP

/-- What the walk keeps: an Enc and, in newer blocks, a Dec. -/
structure KnS (w0 w1 w : World) (p q : Nat) (l : List UInt8) (d : DS) : Prop where
  e : EncN w0 w p l
  d : DecN w1 w q d
  s : ∃ F, EncH w p F l ∧ (∀ k, F k → w0.heap.size ≤ k ∧ k < w1.heap.size)

theorem KnS.start {w0 w1 w : World} {p q : Nat} {l : List UInt8} {d : DS} (h : EncN w0 w1 p l) (hd : DecN w1 w q d) : KnS w0 w1 w p q l d := by
  obtain ⟨⟨F, hE, hF⟩, hb⟩ := h
  have hlt : ∀ k, F k → k < w1.heap.size := by obtain ⟨_, _, _, _, _, _, h5⟩ := hE; exact h5
  have hE2 : EncH w p F l := hE.kept (S := fun k => w1.heap.size ≤ k) ⟨hd.2.os, hd.2.tape, hd.2.output, hd.2.size, fun k hk _ => hd.2.block k hk⟩ (fun k hk h => by have := hlt k hk; omega)
  exact ⟨⟨⟨F, hE2, hF⟩, hb.trans (hd.2.mono hb.size)⟩, hd, F, hE2, fun k hk => ⟨hF k hk, hlt k hk⟩⟩

theorem KnS.below {w0 w1 w w' : World} {p q : Nat} {l : List UInt8} {d : DS} (h : KnS w0 w1 w p q l d) (hb : Below w.heap.size w w') : KnS w0 w1 w' p q l d := by
  refine ⟨h.e.kept hb, h.d.kept hb, ?_⟩
  obtain ⟨F, hE, hF⟩ := h.s
  have hlt : ∀ k, F k → k < w.heap.size := by obtain ⟨_, _, _, _, _, _, h5⟩ := hE; exact h5
  exact ⟨F, hE.kept (S := fun k => w.heap.size ≤ k) ⟨hb.os, hb.tape, hb.output, hb.size, fun k hk _ => hb.block k hk⟩ (fun k hk h => by have := hlt k hk; omega), hF⟩

theorem KnS.step {w0 w1 w w' : World} {p q : Nat} {l : List UInt8} {d d' : DS} (h : KnS w0 w1 w p q l d) (hd : DecN w1 w' q d') (hk : Kept (· = q) w w') : KnS w0 w1 w' p q l d' := by
  obtain ⟨F, hE, hF⟩ := h.s
  have hq : w1.heap.size ≤ q := by obtain ⟨_, _, _, _, _, h3⟩ := h.d.1; exact h3.1
  have hE2 : EncH w' p F l := hE.kept hk (fun k hk2 h => by have := (hF k hk2).2; omega)
  have h01 : w0.heap.size ≤ w1.heap.size := by
    obtain ⟨v, _, _, _, h3, _⟩ := hE
    have := hF _ h3
    omega
  exact ⟨⟨⟨F, hE2, fun k hk2 => (hF k hk2).1⟩, h.e.2.trans (hk.below (fun k hk2 => by omega) h.e.2.size)⟩, hd, F, hE2, hF⟩

end Go.Proofs.Ytnjfpgnhmfankaa
