/-
  No statement: bytes in memory; a call that makes bytes anew; bytes.Clone.
-/
import Derived.Test.YtfenfgbkphpboaaCSum
import Derived.Test.YtfenfgbkphpboaaAppend
import Derived.Lib.SliceRun
namespace Go.Proofs.Ytfenfgbkphpboaa
open Go.RowKit

abbrev bC (l : List UInt8) : List Value := Lib.byteCells l

theorem bC_len (l : List UInt8) : (bC l).length = l.length := Lib.byteCells_length l
theorem bC_app (a b : List UInt8) : bC (a ++ b) = bC a ++ bC b := Lib.byteCells_append a b
theorem bC_one (l : List UInt8) : ∀ u ∈ bC l, u.oneCell' = true := by
  intro u hu
  obtain ⟨b, -, rfl⟩ := List.mem_map.1 hu
  rfl
theorem bC_at (l : List UInt8) {j : Nat} (h : j < l.length) : (bC l)[j]? = some (.int .u8 l[j].toNat) := by
  simp [bC, Lib.byteCells, List.getElem?_map, List.getElem?_eq_getElem h]

theorem BR.from {w : World} {a : Option Addr} {c : Nat} {l : List UInt8} (h : BR w a c l) : From w (.slice a l.length c) l.length (bC l) := by
  rcases h.2.2 with ⟨rfl, rfl⟩ | ⟨rfl, x, rfl⟩ | ⟨b, off, rfl, hc⟩
  · have h0 : l = [] := List.length_eq_zero_iff.1 (by have := h.1; omega)
    subst h0
    exact .inl ⟨rfl, rfl, rfl⟩
  · exact .inr ⟨x, c, rfl, rfl, fun j u hj => by simp [Lib.byteCells] at hj⟩
  · refine .inr ⟨_, c, rfl, bC_len l, fun j u hj => ?_⟩
    have hl : j < l.length := by
      have := (List.getElem?_eq_some_iff.1 hj).1
      rwa [bC_len] at this
    rw [bC_at l hl] at hj
    cases hj
    rw [Addr.add_lit]
    exact hc j hl

theorem BR.nil' (w : World) : BR w none 0 [] := ⟨Nat.le_refl _, Nat.zero_le _, .inl ⟨rfl, rfl⟩⟩

/-- A slice of bytes that is the call's own. -/
def OwnB (w : World) (B : Nat) (v : Value) (l : List UInt8) : Prop := w.ownsRow B 5 1 v l.length (bC l)

theorem OwnB.slice {w : World} {B : Nat} {v : Value} {l : List UInt8} (h : OwnB w B v l) : ∃ a c, v = .slice a l.length c := by
  rcases h.2 with ⟨rfl, h0⟩ | ⟨g, cap, _, rfl, _⟩
  · rw [h0]; exact ⟨_, _, rfl⟩
  · exact ⟨_, _, rfl⟩

theorem OwnB.br {w : World} {B : Nat} {a : Option Addr} {c : Nat} {l : List UInt8} (h : OwnB w B (.slice a l.length c) l) : BR w a c l := by
  rcases h.2 with ⟨h1, h0⟩ | ⟨g, cap, cur, h1, _, hg, hn, hm, hs, ht⟩
  · simp only [Value.slice.injEq] at h1
    obtain ⟨rfl, _, rfl⟩ := h1
    exact ⟨by omega, Nat.zero_le _, .inl ⟨rfl, rfl⟩⟩
  · simp only [Value.slice.injEq] at h1
    obtain ⟨rfl, _, rfl⟩ := h1
    rw [Nat.mul_one] at ht
    exact ⟨hn, hm, .inr (.inr ⟨g, 0, rfl, fun j hj => owns_cell hg ht (by rw [Nat.zero_add]; exact bC_at l hj)⟩)⟩

theorem OwnB.below {w w' : World} {B : Nat} {v : Value} {l : List UInt8} (h : OwnB w B v l) (hb : Below w.heap.size w w') : OwnB w' B v l :=
  World.ownsRow.kept (row := none) h ⟨hb.os, hb.tape, hb.output, hb.size, fun k hk _ => hb.block k hk⟩ (by cases v.ownBlock <;> simp)

theorem OwnB.alloc {w : World} {B : Nat} {v : Value} {l : List UInt8} (h : OwnB w B v l) (o : Obj) : OwnB (w.alloc o) B v l := World.ownsRow.alloc h _

theorem OwnB.mono {w : World} {B C : Nat} {v : Value} {l : List UInt8} (h : OwnB w B v l) (hc : C ≤ B) : OwnB w C v l := by
  refine ⟨h.1, ?_⟩
  rcases h.2 with h1 | ⟨g, cap, cur, h1, hb, rest⟩
  · exact .inl h1
  · exact .inr ⟨g, cap, cur, h1, by omega, rest⟩

theorem OwnB.cast {w : World} {B n : Nat} {v : Value} {l : List UInt8} {xs : List Value} (h : w.ownsRow B 5 1 v n xs) (hn : n = l.length) (hx : xs = bC l) : OwnB w B v l := by subst hn; subst hx; exact h

theorem own_len_le {w : World} {B : Nat} {v : Value} {l : List UInt8} (h : OwnB w B v l) : l.length ≤ 9223372036854775807 := by
  rcases h.2 with ⟨_, h0⟩ | ⟨g, cap, cur, _, _, _, hn, hm, _⟩
  · omega
  · unfold maxLen at hm; omega

/-- A call that makes these bytes anew. -/
def OutB (w : World) (l : List UInt8) (e : Ending) (w' : World) : Prop := ∃ a c, e = .returned (.slice a l.length c) ∧ OwnB w' w.heap.size (.slice a l.length c) l ∧ Below w.heap.size w w'

theorem infoB : (Try.prog.info? 5).map (fun i => (i.zero, i.size, i.bytes)) = some (some (.int .u8 0), 1, 1) := by kernel_rfl
theorem undB : Try.prog.underlying 36 = some (.slice 5) := Try.underlying36

theorem own_new (w : World) : OwnB (w.alloc (.cells #[] 5)) w.heap.size (.slice (some ⟨w.heap.size, 0, none⟩) 0 0) [] := own_fresh (Nat.le_refl _) rfl
theorem below_new (w : World) (o : Obj) : Below w.heap.size w (w.alloc o) := (Below.refl _ _).alloc (Nat.le_refl _) _

theorem OwnB.row {w : World} {B : Nat} {v : Value} {l : List UInt8} {m : Nat} (h : OwnB w B v l) (hm : m = l.length) : w.ownsRow B 5 1 v m (bC l) := by subst hm; exact h

theorem own_row_len {w : World} {B m : Nat} {v : Value} {l : List UInt8} (h : w.ownsRow B 5 1 v m (bC l)) : m = l.length := by
  have := h.1; rw [bC_len] at this; omega

theorem own_row_slice {w : World} {B m : Nat} {v : Value} {xs : List Value} (h : w.ownsRow B 5 1 v m xs) : ∃ a c, v = .slice a m c := by
  rcases h.2 with ⟨rfl, h0⟩ | ⟨g, cap, _, rfl, _⟩
  · rw [h0]; exact ⟨_, _, rfl⟩
  · exact ⟨_, _, rfl⟩

set_option maxHeartbeats 1000000 in
set_option maxRecDepth 100000 in
theorem clone_any (a : Option Addr) (c : Nat) (l : List UInt8) (hl : l.length ≤ 100000000000) (w : World) (h : BR w a c l) : Calls Try.prog 42 #[.slice a l.length c] w (OutB w l) := by
  obtain ⟨i0, hi, hz0, hz1, hz2⟩ := info_parts infoB
  have und := undB
  cases a with
  | none =>
    have h0 : l = [] := by
      rcases h.2.2 with ⟨_, hc⟩ | ⟨h0, _⟩ | ⟨_, _, h', _⟩
      · exact List.length_eq_zero_iff.1 (by have := h.1; omega)
      · exact h0
      · cases h'
    subst h0
    have P := Lib.hid (show OutB w [] (.returned (.slice none 0 0)) w from ⟨none, 0, rfl, World.ownsRow_nil _ _ _ _, Below.refl _ _⟩)
    clear h
    go_enter Try.func42, Try.ntmps42
    go_wp2
    rw [Lib.run_eql_slice_nil w _ _ _ _ _ _ _ und]
    simp only [Result.andThen]
    rw [Oper.upon_value]
    go_wp2_with fail
    go_ret
    exact P.out
  | some x =>
    have F := Lib.hid (h.kept (below_new w (.cells #[] 5))).from
    have OA := Lib.hid (own_new w)
    have BA := Lib.hid (below_new w (.cells #[] 5))
    clear h
    go_enter Try.func42, Try.ntmps42
    go_wp2
    rw [Lib.run_eql_slice_nil w _ _ _ _ _ _ _ und]
    simp only [Result.andThen]
    rw [Oper.upon_value]
    go_wp2_with (at_builtin; refine wpList_append_from rfl _ _ 36 rfl und hi hz0 hz1 hz2 rfl _ _ 0 l.length [] _ rfl rfl OA.out F.out (bC_one l) (by unfold maxLen; omega) (by omega) (by simp) ?_)
    intro v' w2 ho hg _
    have O2 := Lib.hid (OwnB.cast (l := l) ho (by simp) (by simp))
    obtain ⟨va, vc, rfl⟩ := O2.out.slice
    have P := Lib.hid (show OutB w l (.returned (.slice va l.length vc)) w2 from ⟨va, vc, rfl, O2.out, BA.out.grown hg (by simp) (fun k hk => by simp [Value.ownBlock] at hk; omega)⟩)
    clear ho hg
    go_wp2_with fail
    go_ret
    exact P.out

end Go.Proofs.Ytfenfgbkphpboaa
