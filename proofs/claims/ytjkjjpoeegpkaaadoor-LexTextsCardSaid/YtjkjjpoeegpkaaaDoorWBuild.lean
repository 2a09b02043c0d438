/-
  No statement: what a strings.Builder of the call's own holds behind WriteString and WriteByte.
-/
import Derived.Test.YtjkjjpoeegpkaaaDoorBase
import Derived.Test.YtjkjjpoeegpkaaaDoorShelf
import Derived.Lib.Builder
import Derived.Lib.AppendStr
namespace Go.Proofs.YtjkjjpoeegpkaaaDoor
open Go.RowKit

/-- This seat's builder. -/
abbrev Bd (B b : Nat) (bs : List Value) (w : World) : Prop := Lib.IsBuilder 48 5 B b bs w

/-- Blocks that are neither the builder's nor of bytes are as they were. -/
def Oth (b : Nat) (w w' : World) : Prop := ∀ (k : Nat) (cs : Array Value) (t : TypeId), k ≠ b → t ≠ 5 → w.heap[k]? = some (.cells cs t (0, 0)) → w'.heap[k]? = some (.cells cs t (0, 0))

theorem bd_size : (Tryd.prog.info? 48).map (·.size) = some 2 := by kernel_rfl
theorem bd_lies : liesAt Tryd.prog Tryd.prog.depth 48 (2 / Tryd.prog.cellsOf 48) 0 48 1 = true := by kernel_rfl
theorem bd_byte : (Tryd.prog.info? 5).map (fun i => (i.zero, i.size, i.bytes)) = some (some (.int .u8 0), 1, 1) := by kernel_rfl

set_option maxHeartbeats 1000000 in
set_option maxRecDepth 100000 in
theorem bdCopy_any (B b : Nat) (bs : List Value) (w : World) (h : Bd B b bs w) : Calls Tryd.prog 27 #[.pointer (some ⟨b, 0, none⟩)] w fun e w' =>
    e = .returned (.tuple #[]) ∧ Lib.BuilderAt 48 5 B b (.pointer (some ⟨b, 0, none⟩)) bs w' ∧ Below B w w' ∧ Oth b w w' := by
  obtain ⟨j, hj, hjs⟩ := Option.map_eq_some_iff.1 bd_size
  rcases h with h | h
  · have h0 := h.cell0
    have hf := h.frozen0
    have hsh := h.shape
    have H := Lib.hid h
    clear h
    go_enter Tryd.func27, Tryd.ntmps27
    go_wp2
    rw [Lib.run_to_unsafe w ⟨b, 0, none⟩ Tryd.underlying45 Tryd.underlying62 hj (by rw [hjs]; decide) hsh (Nat.zero_lt_succ 1)]
    simp only [Result.andThen]
    rw [Oper.upon_value]
    go_wp2
    rw [run_callFunc_extern Tryd.func34 (by kernel_rfl) (by kernel_rfl) (by kernel_rfl) (e := Extern.AbiNoEscape.same) (by kernel_rfl)]
    rw [Lib.run_noEscape]
    simp only [Result.andThen]
    rw [Oper.upon_value]
    go_wp2
    rw [Lib.run_from_unsafe w ⟨b, 0, none⟩ Tryd.underlying62 Tryd.underlying45 hj hsh bd_lies]
    simp only [Result.andThen]
    rw [Oper.upon_value]
    go_wp2
    go_end0
    exact ⟨rfl, H.out.used _, (Below.refl B w).setCell (p := ⟨b, 0, none⟩) H.out.1 _, fun k cs t hk _ h => (Below.heap_setCell _ ⟨b, 0, none⟩ _ k hk).trans h⟩
  · have h0 := h.cell0
    have H := Lib.hid h
    clear h
    go_enter Tryd.func27, Tryd.ntmps27
    go_wp2
    rw [Lib.run_neq_ptr_same w _ Tryd.underlying45 hj]
    go_wp2
    go_end0
    exact ⟨rfl, H.out, Below.refl B _, fun _ _ _ _ _ h => h⟩

theorem bd_slice {w : World} {B : Nat} {e : TypeId} {v : Value} {n : Nat} {xs : List Value} (h : w.ownsRow B e 1 v n xs) : ∃ a l c, v = .slice a l c := by
  rcases h.2 with ⟨h, _⟩ | ⟨g, cap, _, h, _⟩
  · exact ⟨_, _, _, h⟩
  · exact ⟨_, _, _, h⟩

theorem strCells_len (s : ByteArray) : (Lib.strCells s).length = s.size := by simp [Lib.strCells]

/-- The builder's buffer made longer. -/
theorem bd_put {B b n : Nat} {bs bs' : List Value} {v v' : Value} {w w1 w2 w3 : World} (hB : B ≤ b) (hown : w1.ownsRow B 5 1 v n bs) (hoth : Oth b w w1) (hk2 : ∀ k, k < w1.heap.size → w2.heap[k]? = w1.heap[k]?) (hs2 : w1.heap.size ≤ w2.heap.size) (hb : w1.heap[b]? = some (.cells #[.pointer (some ⟨b, 0, none⟩), v] 48 (0, 0))) (hne : v.ownBlock ≠ some b)
    (b1 : Below B w w1) (b2 : Below B w1 w2) (hk : w2.heap[b]? = w1.heap[b]?) (hv : ∀ k, v.ownBlock = some k → B ≤ k) (hBw : B ≤ w2.heap.size) (ho : w3.ownsRow B 5 1 v' bs'.length bs') (hg : w2.grownBy w3 v.ownBlock) :
    (w3.cell? ⟨b, 0, none⟩ = some (.pointer (some ⟨b, 0, none⟩)) ∧ w3.cell? ⟨b, 1, none⟩ = some v ∧ w3.frozen? ⟨b, 1, none⟩ = false) ∧ Bd B b bs' (w3.setCell ⟨b, 1, none⟩ v') ∧ Below B w (w3.setCell ⟨b, 1, none⟩ v') ∧ Oth b w (w3.setCell ⟨b, 1, none⟩ v') := by
  have hlt : b < w2.heap.size := by
    rcases Nat.lt_or_ge b w2.heap.size with h' | h'
    · exact h'
    · rw [← hk] at hb; simp [Array.getElem?_eq_none h'] at hb
  have hb3 : w3.heap[b]? = some (.cells #[.pointer (some ⟨b, 0, none⟩), v] 48 (0, 0)) := by rw [hg.block b hlt (fun e => hne e.symm), hk]; exact hb
  refine ⟨⟨by rw [Lib.cell_of_heap hb3]; rfl, by rw [Lib.cell_of_heap hb3]; rfl, Lib.frozen_of_heap hb3 1⟩, .inr (Lib.BuilderAt.put hB hb3 ho (by decide)), ?_⟩
  refine ⟨((b1.trans b2).grown hg hBw hv).setCell (p := ⟨b, 1, none⟩) hB _, fun k cs t hkb ht h => ?_⟩
  have h1 := hoth k cs t hkb ht h
  have hl1 := lt_of_block h1
  rw [Below.heap_setCell _ ⟨b, 1, none⟩ _ k hkb, hg.block k (by omega) (fun e => ?_), hk2 k hl1]
  · exact h1
  · rcases hown.2 with ⟨hv0, _⟩ | ⟨g, cap, cur, hv0, _, hgg, _⟩
    · rw [hv0] at e; cases e
    · rw [hv0] at e
      obtain rfl : k = g := by simpa [Value.ownBlock] using e
      rw [h1] at hgg
      simp only [Option.some.injEq, Obj.cells.injEq] at hgg
      exact ht hgg.2.1

set_option maxHeartbeats 2000000 in
set_option maxRecDepth 100000 in
theorem bdString_any (B b : Nat) (bs : List Value) (s : ByteArray) (w : World) (h : Bd B b bs w) (hl : bs.length + s.size ≤ 1000000000) (hBw : B ≤ w.heap.size) :
    Calls Tryd.prog 19 #[.pointer (some ⟨b, 0, none⟩), .string s] w fun e w' => e = .returned (.tuple #[.int .i64 s.size, .nilIface]) ∧ Bd B b (bs ++ Lib.strCells s) w' ∧ Below B w w' ∧ Oth b w w' := by
  obtain ⟨i0, hi, hz0, hz1, hz2⟩ := info_parts bd_byte
  have C := Lib.hid (bdCopy_any B b bs w h)
  clear h
  go_enter Tryd.func19, Tryd.ntmps19
  go_wp2_with fail
  refine C.out.mono ?_
  rintro e w1 ⟨rfl, ⟨hB, v, hbk, hown, hne⟩, hb1, ho1⟩
  have c0 : w1.cell? ⟨b, 0, none⟩ = some (.pointer (some ⟨b, 0, none⟩)) := by rw [Lib.cell_of_heap hbk]; rfl
  have c1 : w1.cell? ⟨b, 1, none⟩ = some v := by rw [Lib.cell_of_heap hbk]; rfl
  have H1 := Lib.hid (And.intro hbk (And.intro hown (And.intro hne (And.intro hb1 ho1))))
  have hz := hb1.size
  clear hbk hown hne hb1 ho1 C
  go_wp2_with (at_builtin; refine Lib.wpList_append_own_string _ rfl _ _ 46 9 rfl B 5 i0 Tryd.underlying46 Tryd.underlying9 hi hz0 hz1 hz2 v bs.length bs rfl H1.out.2.1 s rfl (by unfold maxLen; omega) (by omega) (by omega) ?_)
  intro v' w2 ho hg _
  obtain ⟨ao, no, co, rfl⟩ := bd_slice ho
  obtain ⟨⟨d0, d1, f1⟩, hbd, hbel, hoth⟩ := bd_put (bs' := bs ++ Lib.strCells s) hB H1.out.2.1 H1.out.2.2.2.2 (fun _ _ => rfl) (Nat.le_refl _) H1.out.1 H1.out.2.2.1 H1.out.2.2.2.1 (Below.refl B w1) rfl (fun k hk => (H1.out.2.1.lt k hk).1) (by omega) (by rw [List.length_append, strCells_len]; exact ho) hg
  have R := Lib.hid (And.intro hbd (And.intro hbel hoth))
  clear ho hg hbd hbel hoth c0 c1
  go_wp2
  go_ret2
  exact ⟨rfl, R.out.1, R.out.2⟩

end Go.Proofs.YtjkjjpoeegpkaaaDoor
