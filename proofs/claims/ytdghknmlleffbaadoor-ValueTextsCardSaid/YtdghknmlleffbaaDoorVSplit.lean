/-
  No statement: the function that strings.SplitSeq(s, one blank) answers, called with a loop's rounds.
-/
import Derived.Test.YtdghknmlleffbaaDoorVNum
import Derived.Test.YtdghknmlleffbaaDoorShelf
import Derived.RangeFuncNested
import Derived.RangeFuncBound
import Derived.RangeFuncCalls
import Derived.RangeFuncLeaves
import Derived.RangeFuncBox
import Derived.Shelf.Abstract
import Derived.Shelf.RegionOpen
import Derived.OwnWalkIn
import Derived.TacticsInMore
import Derived.LoopNIn
import Derived.LoopIn
import Derived.Lib.IndexLaws
namespace Go.Proofs.YtdghknmlleffbaaDoor
open Go.RowKit Go.Shelf
attribute [local go_sem] Oper.semAt_some

/-- xs: the pieces of t between blanks. -/
inductive Splits : List ByteArray → ByteArray → Prop
  | last (t : ByteArray) (h : Lib.indexByte t.data.toList 32 = -1) : Splits [t] t
  | more (t : ByteArray) (i : Nat) (xs : List ByteArray) (h : Lib.indexByte t.data.toList 32 = i) (hr : Splits xs (t.extract (i + 1) t.size)) : Splits (t.extract 0 i :: xs) t

theorem index_lt {t : ByteArray} {i : Nat} (h : Lib.indexByte t.data.toList 32 = i) : i < t.size := by
  have h1 := (Lib.indexByte_some h).1
  have h2 := (List.getElem?_eq_some_iff.1 h1).1
  simpa using h2

theorem splits_any (t : ByteArray) : ∃ xs, Splits xs t := by
  obtain ⟨n, hn⟩ : ∃ n, t.size = n := ⟨_, rfl⟩
  induction n using Nat.strongRecOn generalizing t with
  | _ n ih =>
    have hg := Lib.indexByte_ge t.data.toList 32
    by_cases h : Lib.indexByte t.data.toList 32 = -1
    · exact ⟨_, .last t h⟩
    · obtain ⟨i, hi⟩ : ∃ i : Nat, Lib.indexByte t.data.toList 32 = i := ⟨(Lib.indexByte t.data.toList 32).toNat, by omega⟩
      have := index_lt hi
      obtain ⟨xs, hx⟩ := ih (t.extract (i + 1) t.size).size (by rw [ByteArray.size_extract]; omega) _ rfl
      exact ⟨_, .more t i xs hi hx⟩

/-- The three variables that the function has kept: the text that is left, the blank, nought. -/
structure SplitSt (B : Nat) (t : ByteArray) (W : World) : Prop where
  s : Boxed W B 9 (.string t)
  sep : Boxed W (B + 1) 9 (.string ⟨#[32]⟩)
  save : Boxed W (B + 2) 3 (.int .i64 0)

theorem SplitSt.set {B : Nat} {t : ByteArray} {W : World} (h : SplitSt B t W) (u : ByteArray) : SplitSt B u (W.setCell ⟨B, 0, none⟩ (.string u)) :=
  ⟨h.s.set _, h.sep.kept (grownBy_setCell' W B _) (by simp), h.save.kept (grownBy_setCell' W B _) (by simp)⟩

/-- How much is left, read off the world. -/
def leftOf (B : Nat) (W : World) : Nat := match W.cell? ⟨B, 0, none⟩ with | some (.string t) => t.size | _ => 0
theorem leftOf_eq {B : Nat} {W : World} {t : ByteArray} (h : W.cell? ⟨B, 0, none⟩ = some (.string t)) : leftOf B W = t.size := by unfold leftOf; rw [h]

set_option maxRecDepth 100000 in
set_option maxHeartbeats 2000000 in
theorem split_in (n l B : Nat) (s : ByteArray) (hm : s.size ≤ 281474976710656) (J : List ByteArray → World → Prop) (Jx : List ByteArray → World → Prop)
    (hJ : ∀ pre W t, J pre W → SplitSt B t W → ∀ u, J pre (W.setCell ⟨B, 0, none⟩ (.string u)))
    (hY : ∀ pre x W t, J pre W → SplitSt B t W → x.size ≤ 281474976710656 → YieldAt Fence.wide n Tryd.prog l #[.string x] W fun e W' =>
      (e = .returned (.bool true) ∧ J (pre ++ [x]) W' ∧ SplitSt B t W') ∨ (e = .returned (.bool false) ∧ Jx (pre ++ [x]) W'))
    (W : World) (h0 : J [] W) (hs : SplitSt B s W) :
    CallsIn Fence.wide (n + 1) Tryd.prog 87 #[.func (.yield l) #[] #[], .pointer (some ⟨B + 1, 0, none⟩), .pointer (some ⟨B, 0, none⟩), .pointer (some ⟨B + 2, 0, none⟩)] W fun e W' =>
      (∃ v, e = .returned v) ∧ ((∃ xs, Splits xs s ∧ J xs W') ∨ (∃ pre rest, Splits (pre ++ rest) s ∧ Jx pre W')) := by
  refine callsIn_of_wp Tryd.func87 rfl trivial ?_ rfl
  simp only [Tryd.ntmps87, List.size_toArray, List.length_cons, List.length_nil, Nat.reduceAdd, Nat.reduceSub, Array.replicate_succ, Array.replicate_zero, List.push_toArray, List.append_toArray, List.nil_append, List.cons_append]
  have c1 := hs.sep.cell
  gi_wp2
  clear c1
  gi_loopw [7, 8] (fun _ _ wr => ∃ (pre : List ByteArray) (t : ByteArray), (∀ xs, Splits xs t → Splits (pre ++ xs) s) ∧ t.size ≤ 281474976710656 ∧ SplitSt B t wr ∧ J pre wr)
    (fun _ _ wr => leftOf B wr)
  case atStart => exact ⟨[], s, fun _ h => h, hm, hs, h0⟩
  case round =>
    obtain ⟨pre, t, hx, ht, hst, hj⟩ := hrel
    have c0 := hst.s.cell
    have c1 := hst.sep.cell
    have c2 := hst.save.cell
    have f0 := hst.s.frozen
    have hg := Lib.indexByte_ge t.data.toList 32
    obtain ⟨I, hI⟩ : ∃ I, Lib.indexByte t.data.toList 32 = I := ⟨_, rfl⟩
    have C := fun m w => (callsIn_wide (n := m)).2 (Tryd.strings_Index_one t 32 w)
    rw [hI] at C hg
    by_cases hneg : I = -1
    · subst hneg
      obtain ⟨fn, tmps, assign, body, hy, hR⟩ := hY pre t wr t hj hst ht
      gi_wp2_with (refine ⟨trivial, ?_⟩; gi_at_call 89; refine (C _ _).mono ?_; rintro e w' ⟨rfl, rfl⟩)
      refine hR.mono ?_
      clear hR
      rintro e W3 (⟨rfl, hJ3, hk3⟩ | ⟨rfl, hJx3⟩)
      · gi_wp2
        go_end0
        exact ⟨⟨_, rfl⟩, .inl ⟨_, hx _ (.last t hI), hJ3⟩⟩
      · gi_wp2
        go_end0
        exact ⟨⟨_, rfl⟩, .inr ⟨_, [], by rw [List.append_nil]; exact hx _ (.last t hI), hJx3⟩⟩
    · obtain ⟨k, rfl⟩ : ∃ k : Nat, (k : Int) = I := ⟨I.toNat, by omega⟩
      have hk := index_lt hI
      obtain ⟨fn, tmps, assign, body, hy, hR⟩ := hY pre (t.extract 0 k) wr t hj hst (by rw [ByteArray.size_extract]; omega)
      clear hneg hg
      gi_wp2_with (refine ⟨trivial, ?_⟩; gi_at_call 89; refine (C _ _).mono ?_; rintro e w' ⟨rfl, rfl⟩)
      refine hR.mono ?_
      clear hR
      rintro e W3 (⟨rfl, hJ3, hk3⟩ | ⟨rfl, hJx3⟩)
      · have d0 := hk3.s.cell
        have d1 := hk3.sep.cell
        have d2 := hk3.save.cell
        have g0 := hk3.s.frozen
        gi_wp2
        refine ⟨⟨pre ++ [t.extract 0 k], t.extract (k + 1) t.size, fun xs h => ?_, ?_, hk3.set _, hJ _ _ _ hJ3 hk3 _⟩, ?_⟩
        · rw [List.append_assoc]; exact hx _ (.more t k xs hI h)
        · rw [ByteArray.size_extract]; omega
        · rw [leftOf_eq (hk3.set _).s.cell, leftOf_eq c0, ByteArray.size_extract]; omega
      · gi_wp2
        refine bodyPost_ret (results_none rfl _ _ _) rfl ?_
        obtain ⟨rest, hrest⟩ := splits_any (t.extract (k + 1) t.size)
        exact ⟨⟨_, rfl⟩, .inr ⟨pre ++ [t.extract 0 k], rest, by rw [List.append_assoc]; exact hx _ (.more t k rest hI hrest), hJx3⟩⟩

/-- strings.SplitSeq(s, one blank): three new variables, and the function over them. -/
theorem splitSeq_any (s : ByteArray) (w : World) : Calls Tryd.prog 69 #[.string s, .string ⟨#[32]⟩] w fun e w' =>
    e = .returned (.func (.func 87) #[] #[.pointer (some ⟨w.heap.size + 1, 0, none⟩), .pointer (some ⟨w.heap.size, 0, none⟩), .pointer (some ⟨w.heap.size + 2, 0, none⟩)]) ∧
    w' = ((w.alloc (.cells #[.string s] 9)).alloc (.cells #[.string ⟨#[32]⟩] 9)).alloc (.cells #[.int .i64 0] 3) := by
  go_enter Tryd.func69, Tryd.ntmps69
  go_wp2
  go_ret
  exact ⟨rfl, rfl⟩

end Go.Proofs.YtdghknmlleffbaaDoor
