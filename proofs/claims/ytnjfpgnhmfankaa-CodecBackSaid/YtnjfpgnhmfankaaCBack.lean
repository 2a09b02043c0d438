/-
  No statement: an Enc and a slice of bytes, apart from one another, as CodecBack fills them.
-/
import Derived.Test.YtnjfpgnhmfankaaCKnownW
import Derived.Test.YtnjfpgnhmfankaaRPut
import Derived.Test.YtnjfpgnhmfankaaItems
namespace Go.Proofs.Ytnjfpgnhmfankaa
open Go.RowKit

theorem OwnB.keptS {w w' : World} {B : Nat} {v : Value} {l : List UInt8} {S : Nat → Prop} (h : OwnB w B v l) (hk : Kept S w w') (hS : ∀ b, v.ownBlock = some b → ¬ S b) : OwnB w' B v l := by
  refine ⟨h.1, ?_⟩
  rcases h.2 with hn | ⟨g, cap, cur, rfl, hb, hgg, rest⟩
  · exact .inl hn
  · exact .inr ⟨g, cap, cur, rfl, hb, hk.heap hgg (hS g rfl), rest⟩

/-- An Enc at p that holds o, and a slice v that holds o', apart. -/
structure LB (w0 w : World) (p : Nat) (v : Value) (o o' : List UInt8) : Prop where
  ex : ∃ F, EncH w p F o ∧ (∀ k, F k → w0.heap.size ≤ k) ∧ ∀ b, v.ownBlock = some b → ¬ F b
  wt : OwnB w w0.heap.size v o'
  b : Below w0.heap.size w0 w

theorem LB.start (w0 w1 : World) (h : Below w0.heap.size w0 w1) : LB w0 (w1.alloc (.cells #[.slice none 0 0] 27)) w1.heap.size (.slice none 0 0) [] [] := by
  obtain ⟨⟨F, hE, hF⟩, -⟩ := EncN.new w1
  exact ⟨⟨F, hE, fun k hk => Nat.le_trans h.size (hF k hk), fun b hb => by cases hb⟩, World.ownsRow_nil _ _ _ _, h.alloc h.size _⟩

theorem LB.below {w0 w w' : World} {p : Nat} {v : Value} {o o' : List UInt8} (h : LB w0 w p v o o') (hb : Below w.heap.size w w') : LB w0 w' p v o o' := by
  obtain ⟨⟨F, hE, hF, hv⟩, ho, hb0⟩ := h
  have hlt : ∀ k, F k → k < w.heap.size := by obtain ⟨_, _, _, _, _, _, h5⟩ := hE; exact h5
  exact ⟨⟨F, hE.kept (S := fun k => w.heap.size ≤ k) ⟨hb.os, hb.tape, hb.output, hb.size, fun k hk _ => hb.block k hk⟩ (fun k hk h => by have := hlt k hk; omega), hF, hv⟩, ho.below hb, hb0.trans (hb.mono hb0.size)⟩

/-- Behind a call of the Enc. -/
theorem LB.enc {w0 w w' : World} {p : Nat} {v : Value} {o o' m : List UInt8} (h : LB w0 w p v o o') (f : ∀ F, EncH w p F o → EncS w F p w' m) : LB w0 w' p v m o' := by
  obtain ⟨⟨F, hE, hF, hv⟩, ho, hb0⟩ := h
  obtain ⟨F', hE', hg, hk⟩ := f F hE
  exact ⟨⟨F', hE', fun k hk2 => (hg k hk2).elim (hF k) (fun h => Nat.le_trans hb0.size h), fun b hb hf => (hg b hf).elim (hv b hb) (fun h => by have := (ho.lt b hb).2; omega)⟩, ho.keptS hk hv, hb0.trans (hk.below hF hb0.size)⟩

theorem LB.int {w0 w : World} {p : Nat} {v : Value} {o o' : List UInt8} (h : LB w0 w p v o o') (n : Int) (h0 : -9223372036854775808 ≤ n) (h1 : n ≤ 9223372036854775807) (hl : o.length ≤ 10000000) :
    Calls Try.prog 11 #[.pointer (some ⟨p, 0, none⟩), .slice (some ⟨w.heap.size, 0, none⟩) 1 1] (w.alloc (.cells #[.int .i64 n] 2)) fun e w' => e = .returned (.tuple #[]) ∧ LB w0 w' p v (o ++ encI n) o' := by
  have h2 := h
  obtain ⟨⟨F, hE, hF, hv⟩, ho, hb0⟩ := h
  refine (encOne_any (EncS.start hE) n h0 h1 (by omega)).mono fun e w' ⟨he, hS⟩ => ⟨he, ?_⟩
  obtain ⟨F', hE', hg, hk⟩ := hS
  exact ⟨⟨F', hE', fun k hk2 => (hg k hk2).elim (hF k) (fun h => Nat.le_trans hb0.size h), fun b hb hf => (hg b hf).elim (hv b hb) (fun h => by have := (ho.lt b hb).2; omega)⟩, ho.keptS hk hv, hb0.trans (hk.below hF hb0.size)⟩

theorem LB.text {w0 w : World} {p : Nat} {v : Value} {o o' : List UInt8} (h : LB w0 w p v o o') (s : ByteArray) (hs : s.size ≤ 1000000) (hl : o.length ≤ 10000000) :
    Calls Try.prog 9 #[.pointer (some ⟨p, 0, none⟩), .slice (some ⟨w.heap.size, 0, none⟩) 1 1] (w.alloc (.cells #[.string s] 9)) fun e w' => e = .returned (.tuple #[]) ∧ LB w0 w' p v (o ++ (encI (s.size : Nat) ++ s.data.toList)) o' := by
  have hA := h.below (below_new w (.cells #[.string s] 9))
  obtain ⟨⟨F, hE, hF, hv⟩, ho, hb0⟩ := h
  have hlt : ∀ k, F k → k < w.heap.size := by obtain ⟨_, _, _, _, _, _, h5⟩ := hE; exact h5
  have hsl : s.data.toList.length = s.size := by rw [Array.length_toList]; rfl
  have hE1 : EncH (w.alloc (.cells #[.string s] 9)) p F o := hE.kept ((Kept.refl (fun _ => False) w).alloc _) (fun _ _ h => h)
  refine (encText_any p F o _ [s.data.toList] 1 _ (by simp only [List.mem_singleton, forall_eq]; omega) (by simp) (by omega) hE1 ⟨by unfold maxLen; simp, .inr ⟨_, _, rfl, fun h => by have := hlt _ h; omega, fun j hj => ?_⟩⟩).mono fun e w' ⟨he, hS⟩ => ⟨he, ?_⟩
  · have : j = 0 := by simpa using hj
    subst this
    rw [cell_of_row _ _ _ _ _ (0, 0) (heap_alloc_new w _)]
    simp
  · have hx : o ++ encts [s.data.toList] = o ++ (encI (s.size : Nat) ++ s.data.toList) := by simp [encts, encT, hsl]
    rw [hx] at hS
    obtain ⟨F', hE', hg, hk⟩ := hS
    have hsz : (w.alloc (.cells #[.string s] 9)).heap.size = w.heap.size + 1 := by simp
    exact ⟨⟨F', hE', fun k hk2 => (hg k hk2).elim (hF k) (fun h => by have := hb0.size; omega), fun b hb hf => (hg b hf).elim (hv b hb) (fun h => by have := (ho.lt b hb).2; omega)⟩, hA.wt.keptS hk hv, hA.b.trans (hk.below hF hA.b.size)⟩

/-- Behind an append to the slice. -/
theorem LB.grow {w0 w w' : World} {p m : Nat} {v v' : Value} {o o' X : List UInt8} (h : LB w0 w p v o o') (ho' : w'.ownsRow w0.heap.size 5 1 v' m (bC X)) (hg : w.grownBy w' v.ownBlock) (hb : v'.ownBlock = v.ownBlock ∨ v'.ownBlock = some w.heap.size) : LB w0 w' p v' o X := by
  obtain ⟨⟨F, hE, hF, hv⟩, ho, hb0⟩ := h
  have hlt : ∀ k, F k → k < w.heap.size := by obtain ⟨_, _, _, _, _, _, h5⟩ := hE; exact h5
  have hk : Kept (fun k => v.ownBlock = some k) w w' := (Kept.refl _ w).grown hg (fun k hk => .inl hk)
  refine ⟨⟨F, hE.kept hk (fun k hf he => hv k he hf), hF, fun b hb' hf => ?_⟩, ?_, hb0.trans (hk.below (fun k hk2 => (ho.lt k hk2).1) hb0.size)⟩
  · rcases hb with hb | hb
    · rw [hb] at hb'; exact hv b hb' hf
    · rw [hb] at hb'; cases hb'; have := hlt _ hf; omega
  · have hm := own_row_len ho'
    subst hm
    exact ho'

/-- An item in bytes; items. -/
def itB (x : It) : List UInt8 := if x.k = 2 then encI (x.s.size : Nat) ++ x.s.data.toList else encI x.n
def itsB (l : List It) : List UInt8 := l.flatMap itB

theorem itsB_take (l : List It) {k : Nat} (h : k < l.length) : itsB (l.take (k + 1)) = itsB (l.take k) ++ itB l[k] := by
  unfold itsB
  rw [List.take_succ_eq_append_getElem h, List.flatMap_append]
  simp
theorem itsB_drop (l : List It) {k : Nat} (h : k < l.length) : itsB (l.drop k) = itB l[k] ++ itsB (l.drop (k + 1)) := by
  unfold itsB
  rw [List.drop_eq_getElem_cons h, List.flatMap_cons]

theorem itB_len {x : It} (hn : In64' x.n) (hs : x.s.size ≤ 300) : (itB x).length ≤ 320 := by
  unfold itB
  split
  · have := encI_len (n := (x.s.size : Nat)) (by omega) (by omega)
    have h2 : x.s.data.toList.length = x.s.size := by rw [Array.length_toList]; rfl
    rw [List.length_append]
    omega
  · have := encI_len hn.1 hn.2; omega

end Go.Proofs.Ytnjfpgnhmfankaa
