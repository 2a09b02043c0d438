/-
  No statement: what the library's variables hold; the contract of readNumber of package value.
-/
import Derived.Test.YtdghknmlleffbaaDoorVNum
import Derived.Test.YtdghknmlleffbaaDoorShelf
import Derived.Lib.AppendIntMem
import Derived.Lib.AtoiErrMem
import Derived.Lib.ParseIntB
import Derived.Deep.QuietTactic
import Derived.BigQuiet
namespace Go.Proofs.YtdghknmlleffbaaDoor
open Go.RowKit

/-- The library's table of powers lies where it should. -/
def LaidT (w : World) : Prop := ∃ t f, w.heap[0]? = some (.cells (Lib.pow10Tab.map fun z => Value.int .u64 z).toArray t f)

theorem LaidT.has {w : World} (h : LaidT w) : 0 < w.heap.size := by
  obtain ⟨t, f, h⟩ := h
  exact (Array.getElem?_eq_some_iff.1 h).1

theorem LaidT.below {B : Nat} {w w' : World} (h : LaidT w) (hb : Below B w w') (hB : 0 < B) : LaidT w' := by
  obtain ⟨t, f, h⟩ := h
  exact ⟨t, f, (hb.block _ hB).trans h⟩

theorem LaidT.step {w w' : World} (h : LaidT w) (hb : Below w.heap.size w w') : LaidT w' := h.below hb h.has

/-- What the library's own variables hold: the table of powers, the two errors. -/
def Laid (w : World) : Prop :=
  LaidT w ∧
  (∃ tp p t f, w.heap[3]? = some (.cells #[.iface tp p] t f)) ∧ (∃ tp p t f, w.heap[4]? = some (.cells #[.iface tp p] t f))

theorem Laid.below {B : Nat} {w w' : World} (h : Laid w) (hb : Below B w w') (hB : 7 ≤ B) : Laid w' := by
  obtain ⟨⟨t, f, h0⟩, ⟨tp, p, t1, f1, h1⟩, ⟨tq, q, t2, f2, h2⟩⟩ := h
  exact ⟨⟨t, f, (hb.block _ (by omega)).trans h0⟩, ⟨tp, p, t1, f1, (hb.block _ (by omega)).trans h1⟩, ⟨tq, q, t2, f2, (hb.block _ (by omega)).trans h2⟩⟩

theorem var_of {w : World} {n : String} {g : Nat} {cs : Array Value} {t : TypeId} {f : Nat × Nat} (hg : Tryd.prog.globalNamed n = some g) (h : w.heap[g]? = some (.cells cs t f)) : w.var? Tryd.prog n = some cs := by
  unfold World.var?
  rw [hg]
  simp [h]

/-- The number that l tells, told just so. -/
def numOf (l : List UInt8) : Option Int :=
  match Lib.parseIntB 64 l with
  | .ok v => if Lib.itoa v = l then some v else none
  | _ => none

theorem parse_ok (s : ByteArray) (v : Int) (hs : s.size ≤ 281474976710656) (h : Lib.parseIntB 64 s.data.toList = .ok v) (w : World) :
    Calls Tryd.prog 70 #[.string s, .int .i64 10, .int .i64 64] w fun e w' => e = .returned (.tuple #[.int .i64 v, .nilIface]) ∧ Below w.heap.size w w' := by
  refine (Tryd.strconv_ParseInt_10_at64_ok s (by omega) v h w).mono ?_
  rintro e w' ⟨rfl, rfl | ⟨t, rfl⟩⟩
  · exact ⟨rfl, Below.refl _ _⟩
  · exact ⟨rfl, Lib.bytesWorld_below _ _ _⟩

/-- It ends with an error. -/
def Fell (w : World) (e : Ending) (w' : World) : Prop := (∃ n t p, e = .returned (.tuple #[.int .i64 n, .iface t p])) ∧ Below w.heap.size w w'

theorem parse_fell (s : ByteArray) (hs : s.size ≤ 281474976710656) (w : World) (hw : Laid w) (h : ∀ v, ¬ Lib.parseIntB 64 s.data.toList = .ok v) :
    Calls Tryd.prog 70 #[.string s, .int .i64 10, .int .i64 64] w (Fell w) := by
  obtain ⟨_, ⟨tp, p, t1, f1, h1⟩, ⟨tq, q, t2, f2, h2⟩⟩ := hw
  rcases hp : Lib.parseIntB 64 s.data.toList with v | _ | _
  · exact absurd hp (h v)
  · refine (Any.strconv_ParseInt_10_at64_syntax_var Tryd.laysC174 s hs hp tp p w (var_of (by kernel_rfl) h1)).mono ?_
    rintro e w' ⟨N, rfl, _, _, hb⟩
    exact ⟨⟨_, _, _, rfl⟩, hb⟩
  · refine (Any.strconv_ParseInt_10_at64_range_var Tryd.laysC174 s hs hp tq q w (var_of (by kernel_rfl) h2)).mono ?_
    rintro e w' ⟨N, rfl, _, _, hb⟩
    exact ⟨⟨_, _, _, rfl⟩, hb⟩

theorem format_any (n : Int) (hn : In64 n) (w : World) (hw : Laid w) :
    Calls Tryd.prog 40 #[.int .i64 n, .int .i64 10] w fun e w' => e = .returned (.string ⟨(Lib.itoa n).toArray⟩) ∧ Below w.heap.size w w' := by
  obtain ⟨⟨t, f, h0⟩, _⟩ := hw
  refine (Tryd.strconv_FormatInt_10 n hn.1 hn.2 w (var_of (by kernel_rfl) h0)).mono ?_
  rintro e w' ⟨rfl, k, os, rfl⟩
  exact ⟨rfl, Lib.below_grow _ _ (Nat.le_refl _) _ _⟩

theorem parse_in {l : List UInt8} {v : Int} (h : Lib.parseIntB 64 l = .ok v) : In64 v := by
  have := Lib.parseIntB_bounds h
  unfold In64
  omega

theorem text_eq {x y : ByteArray} (h : x.data.toList = y.data.toList) : x = y := by
  cases x; cases y; simp only [ByteArray.mk.injEq]; exact Array.toList_inj.1 h

set_option maxHeartbeats 1000000 in
theorem readNumber_any (s : ByteArray) (hs : s.size ≤ 281474976710656) (w : World) (hw : Laid w) (h8 : 7 ≤ w.heap.size) :
    Calls Tryd.prog 60 #[.string s] w fun e w' => e = .returned (match numOf s.data.toList with | some v => .tuple #[.int .i64 v, .bool true] | none => .tuple #[.int .i64 0, .bool false]) ∧ Below w.heap.size w w' := by
  by_cases h : ∃ v, Lib.parseIntB 64 s.data.toList = .ok v
  · obtain ⟨v, h⟩ := h
    obtain ⟨T, hT⟩ : ∃ T : ByteArray, ⟨(Lib.itoa v).toArray⟩ = T := ⟨_, rfl⟩
    have F := fun w hw => format_any v (parse_in h) w hw
    rw [hT] at F
    have hv := parse_in h
    by_cases e : T = s
    · have hn : numOf s.data.toList = some v := by
        unfold numOf; rw [h, ← e, ← hT]; simp
      rw [hn]
      go_enter Tryd.func60, Tryd.ntmps60
      go_wp2_with fail
      refine (parse_ok s v hs h _).mono ?_
      rintro e w1 ⟨rfl, hb⟩
      have hb1 := Lib.hid hb
      have hw1 := Lib.hid (hw.below hb h8)
      clear hb
      go_wp2_with fail
      refine (F _ hw1.out).mono ?_
      rintro e w2 ⟨rfl, hb⟩
      have hb2 := Lib.hid hb
      clear hb
      have he := Lib.hid e
      subst e
      go_wp2_with fail
      go_ret2
      exact ⟨rfl, hb1.out.trans (hb2.out.mono hb1.out.size)⟩
    · have hn : numOf s.data.toList = none := by
        unfold numOf; rw [h]
        simp only
        rw [if_neg]
        intro e2; exact e (by rw [← hT]; exact text_eq (by simpa using e2))
      rw [hn]
      have e' : (T.toList == s.toList) = false := by
        rw [beq_eq_false_iff_ne]; intro x; exact e (text_eq (by simpa [Lib.toList_data] using x))
      go_enter Tryd.func60, Tryd.ntmps60
      go_wp2_with fail
      refine (parse_ok s v hs h _).mono ?_
      rintro e w1 ⟨rfl, hb⟩
      have hb1 := Lib.hid hb
      have hw1 := Lib.hid (hw.below hb h8)
      clear hb
      go_wp2_with fail
      refine (F _ hw1.out).mono ?_
      rintro e w2 ⟨rfl, hb⟩
      have hb2 := Lib.hid hb
      clear hb
      go_wp2_with fail
      go_ret2
      exact ⟨rfl, hb1.out.trans (hb2.out.mono hb1.out.size)⟩
  · have hn : numOf s.data.toList = none := by
      unfold numOf
      cases hp : Lib.parseIntB 64 s.data.toList with
      | ok v => exact (h ⟨v, hp⟩).elim
      | _ => rfl
    rw [hn]
    go_enter Tryd.func60, Tryd.ntmps60
    go_wp2_with fail
    refine (parse_fell s hs _ hw (fun v hv => h ⟨v, hv⟩)).mono ?_
    rintro e w1 ⟨⟨n, t, p, rfl⟩, hb⟩
    have hb1 := Lib.hid hb
    clear hb
    go_wp2_with fail
    go_ret2
    exact ⟨rfl, hb1.out⟩

end Go.Proofs.YtdghknmlleffbaaDoor
