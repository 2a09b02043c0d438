/-
  No statement: what Parse of package value answers, and its contract.
-/
import Derived.Test.YtdghknmlleffbaaDoorVList
import Derived.Test.YtdghknmlleffbaaDoorVCheck
import Derived.Test.YtdghknmlleffbaaDoorVWithin
import Derived.Test.YtdghknmlleffbaaDoorFour
namespace Go.Proofs.YtdghknmlleffbaaDoor
open Go.RowKit

/-- A value, as plain data: a number, a text, a list. -/
inductive PV | num (n : Int) | text (t : List UInt8) | list (ns : List Int)

/-- The pieces between blanks. -/
def splitL : List UInt8 → List (List UInt8)
  | [] => [[]]
  | c :: r => if c = 32 then [] :: splitL r else match splitL r with
    | [] => [[c]]
    | x :: xs => (c :: x) :: xs

theorem splitL_ne (l : List UInt8) : splitL l ≠ [] := by
  cases l with
  | nil => simp [splitL]
  | cons c r =>
    unfold splitL
    split
    · simp
    · split <;> simp

theorem splitL_last (l : List UInt8) (h : ∀ k : Nat, l[k]? ≠ some 32) : splitL l = [l] := by
  induction l with
  | nil => rfl
  | cons c r ih =>
    have hc : ¬ c = 32 := fun e => h 0 (by simp [e])
    have := ih fun k => by simpa using h (k + 1)
    rw [splitL, if_neg hc, this]

theorem splitL_more (l : List UInt8) (i : Nat) (h1 : l[i]? = some 32) (h2 : ∀ k, k < i → l[k]? ≠ some 32) : splitL l = l.take i :: splitL (l.drop (i + 1)) := by
  induction l generalizing i with
  | nil => simp at h1
  | cons c r ih =>
    cases i with
    | zero =>
      obtain rfl : c = 32 := by simpa using h1
      simp [splitL]
    | succ i =>
      have hc : ¬ c = 32 := fun e => h2 0 (by omega) (by simp [e])
      have := ih i (by simpa using h1) (fun k hk => by simpa using h2 (k + 1) (by omega))
      rw [splitL, if_neg hc, this]
      simp

theorem splits_list {xs : List ByteArray} {s : ByteArray} (h : Splits xs s) : xs.map (fun x => x.data.toList) = splitL s.data.toList := by
  induction h with
  | last t h => rw [splitL_last _ (Lib.indexByte_none h)]; rfl
  | more t i xs h hr ih =>
    have h1 := Lib.indexByte_some h
    have hi := index_lt h
    rw [splitL_more _ i h1.1 h1.2, List.map_cons, ih]
    congr 1
    · rw [ByteArray.data_extract, Array.toList_extract]; simp
    · rw [ByteArray.data_extract, Array.toList_extract]
      congr 1
      rw [show t.data.toList.extract (i + 1) t.size = (t.data.toList.drop (i + 1)).take (t.size - (i + 1)) by simp [List.extract_eq_take_drop]]
      exact List.take_of_length_le (by simp)

/-- The numbers that pieces tell, all of them or none. -/
def numsOf : List (List UInt8) → Option (List Int)
  | [] => some []
  | x :: xs => match numOf x, numsOf xs with
    | some n, some ns => some (n :: ns)
    | _, _ => none

theorem numsOf_all {xs : List ByteArray} {ns : List Int} (h : xs.map numT = ns.map some) : numsOf (xs.map fun x => x.data.toList) = some ns := by
  induction xs generalizing ns with
  | nil => cases ns with
    | nil => rfl
    | cons n ns => simp at h
  | cons x xs ih => cases ns with
    | nil => simp at h
    | cons n ns =>
      simp only [List.map_cons, List.cons.injEq] at h
      simp only [List.map_cons, numsOf]
      rw [show numOf x.data.toList = some n from h.1, ih h.2]

theorem numsOf_none {xs : List ByteArray} (h : ∃ x ∈ xs, numT x = none) : numsOf (xs.map fun x => x.data.toList) = none := by
  induction xs with
  | nil => obtain ⟨x, hx, _⟩ := h; cases hx
  | cons y xs ih =>
    simp only [List.map_cons, numsOf]
    obtain ⟨x, hx, hn⟩ := h
    rcases List.mem_cons.1 hx with rfl | hx
    · rw [show numOf x.data.toList = none from hn]
    · rw [ih ⟨x, hx, hn⟩]
      cases numOf y.data.toList <;> rfl

/-- What stands between the first byte and the last, which must be e. -/
def inner (l : List UInt8) (e : UInt8) : Option (List UInt8) := if 2 ≤ l.length ∧ l.getLast? = some e then some ((l.drop 1).take (l.length - 2)) else none

/-- The form that a text has, whatever Check says of it. -/
def raw (l : List UInt8) : Option PV :=
  match l with
  | [] => none
  | c :: _ =>
    if c = 34 then (inner l 34).map .text
    else if c = 91 then (inner l 93).bind fun t => if t = [] then some (.list []) else (numsOf (splitL t)).map .list
    else (numOf l).map .num

theorem within_yes (s : ByteArray) (c : UInt8) (t : List UInt8) (h : inner s.data.toList c = some t) (hm : s.size ≤ 281474976710656) :
    ∃ T : ByteArray, T.data.toList = t ∧ T.size ≤ s.size ∧ ∀ w, Calls Tryd.prog 58 #[.string s, .int .u8 c.toNat] w fun e w' => e = .returned (.tuple #[.string T, .bool true]) ∧ w = w' := by
  unfold inner at h
  split at h
  · rename_i hc
    obtain ⟨h2, hl⟩ := hc
    have hs : s.data.toList.length = s.size := by simp
    rw [hs] at h2
    refine ⟨s.extract 1 (s.size - 1), ?_, by rw [ByteArray.size_extract]; omega, ?_⟩
    · cases h
      rw [ByteArray.data_extract, Array.toList_extract, hs]
      rfl
    · intro w
      refine (within_any s c.toNat h2 hm w).mono ?_
      have hb : s[s.size - 1] = c := by
        rw [List.getLast?_eq_getElem?] at hl
        have := (List.getElem?_eq_some_iff.1 hl).2
        rw [← this]
        simp [hs]
        rfl
      rw [if_pos (by rw [hb])]
      exact fun _ _ h => h
  · cases h

theorem within_no (s : ByteArray) (c : UInt8) (h : inner s.data.toList c = none) (hm : s.size ≤ 281474976710656) (w : World) :
    Calls Tryd.prog 58 #[.string s, .int .u8 c.toNat] w fun e w' => e = .returned (.tuple #[.string ⟨#[]⟩, .bool false]) ∧ w = w' := by
  have hs : s.data.toList.length = s.size := by simp
  by_cases h2 : 2 ≤ s.size
  · refine (within_any s c.toNat h2 hm w).mono ?_
    rw [if_neg]
    · exact fun _ _ h => h
    · intro e
      unfold inner at h
      rw [if_pos] at h
      · cases h
      · refine ⟨by omega, ?_⟩
        rw [List.getLast?_eq_getElem?, List.getElem?_eq_some_iff]
        refine ⟨by omega, ?_⟩
        have hb : s[s.size - 1] = c := UInt8.toNat_inj.1 (by exact_mod_cast e)
        rw [← hb]
        simp [hs]
        rfl
  · exact within_short s _ (by omega) w

/-- What read answers: nothing of a form, or the form's value. -/
def ReadPost (s : ByteArray) (w : World) (e : Ending) (w' : World) : Prop := Below w.heap.size w w' ∧
  ((raw s.data.toList = none ∧ ∃ k, e = .returned (.tuple #[val k 0 ⟨#[]⟩ (.slice none 0 0), .bool false])) ∨
   (∃ n, raw s.data.toList = some (.num n) ∧ e = .returned (.tuple #[val 1 n ⟨#[]⟩ (.slice none 0 0), .bool true])) ∨
   (∃ T : ByteArray, raw s.data.toList = some (.text T.data.toList) ∧ T.size ≤ s.size ∧ e = .returned (.tuple #[val 2 0 T (.slice none 0 0), .bool true])) ∨
   (∃ ns a len cap z, raw s.data.toList = some (.list ns) ∧ Reads w' a len z ∧ (∀ x, a = some x → w.heap.size ≤ x.block) ∧ upTo z len = ns.take 17 ∧ e = .returned (.tuple #[val 3 0 ⟨#[]⟩ (.slice a len cap), .bool true])))

/-- A block of four cells, read cell by cell. -/
theorem upTo_get (L : List Int) : upTo (fun j => L.getD j 0) L.length = L := by
  apply List.ext_getElem
  · simp [upTo]
  · intro j h1 h2
    simp [upTo, List.getD, h2]

theorem reads_of_owns {W : World} {base : Nat} {e : TypeId} {a : Option Addr} {cap : Nat} {L : List Int} (h : W.ownsRow base e 1 (.slice a L.length cap) L.length (L.map (Value.int .i64))) :
    Reads W a L.length (fun j => L.getD j 0) ∧ ∀ x, a = some x → base ≤ x.block := by
  rcases h.2 with ⟨h1, h0⟩ | ⟨g, cap', cur, h1, hb, hg, hn, hm, hs, ht⟩
  · simp only [Value.slice.injEq] at h1
    refine ⟨⟨by rw [h0]; exact Nat.zero_le _, .inl h0⟩, fun x hx => ?_⟩
    rw [h1.1] at hx; cases hx
  · simp only [Value.slice.injEq] at h1
    obtain ⟨rfl, -, rfl⟩ := h1
    refine ⟨⟨Nat.le_trans hn hm, .inr ⟨g, 0, rfl, fun j hj => ?_⟩⟩, fun x hx => by cases hx; exact hb⟩
    rw [Nat.mul_one] at ht
    have hj2 : (cur.toList.take L.length)[j]? = some (.int .i64 (L.getD j 0)) := by
      rw [ht, List.getElem?_map, List.getElem?_eq_getElem hj]
      simp [List.getD, hj]
    rw [List.getElem?_take, if_pos hj] at hj2
    rw [Nat.zero_add, cell_of_row W g j cur e (0, 0) hg]
    simpa using hj2

theorem Reads.four {W : World} {a : Option Addr} {len : Nat} {z : Nat → Int} {B : Nat} (h : Reads W a len z) (hne : ∀ x, a = some x → x.block ≠ B) (v0 v1 v2 v3 : Value) :
    Reads ((((W.setCell ⟨B, 0, none⟩ v0).setCell ⟨B, 1, none⟩ v1).setCell ⟨B, 2, none⟩ v2).setCell ⟨B, 3, none⟩ v3) a len z := by
  refine ⟨h.1, h.2.imp id ?_⟩
  rintro ⟨b, off, rfl, hc⟩
  have hb : b ≠ B := hne ⟨b, off, none⟩ rfl
  have e := four_other (W := W) hb v0 v1 v2 v3
  generalize ((((W.setCell ⟨B, 0, none⟩ v0).setCell ⟨B, 1, none⟩ v1).setCell ⟨B, 2, none⟩ v2).setCell ⟨B, 3, none⟩ v3) = W' at e ⊢
  exact ⟨b, off, rfl, fun j hj => (World.cell?_of_block (w := W) (a := ⟨b, off + j, none⟩) e).trans (hc j hj)⟩

theorem size_pos {s : ByteArray} (h : ¬ s = ⟨#[]⟩) : 0 < s.size := by
  rcases Nat.eq_zero_or_pos s.size with h0 | h0
  · have h1 : s.data.toList.length = 0 := by simpa using h0
    exact absurd (text_eq (x := s) (y := ⟨#[]⟩) (List.length_eq_zero_iff.1 h1)) h
  · exact h0

theorem first_of {s : ByteArray} (h : 0 < s.size) : ∃ r, s.data.toList = s[0] :: r := by
  cases hl : s.data.toList with
  | nil => have : s.data.toList.length = s.size := by simp
           rw [hl] at this; simp at this; omega
  | cons c r =>
    refine ⟨r, ?_⟩
    have : s[0] = s.data.toList[0]'(by rw [hl]; simp) := rfl
    rw [this]; simp [hl]

set_option maxHeartbeats 2000000 in
theorem read_any (s : ByteArray) (hm : s.size ≤ 281474976710656) (w : World) (hw : Laid w) (h8 : 7 ≤ w.heap.size) : Calls Tryd.prog 43 #[.string s] w (ReadPost s w) := by
  by_cases h0 : s = ⟨#[]⟩
  · subst h0
    go_enter Tryd.func43, Tryd.ntmps43
    go_wp2_with fail
    exact bodyPost_ret (v := .tuple #[val 0 0 ⟨#[]⟩ (.slice none 0 0), .bool false]) (by simp [results, Tryd.results43, go_sem, val]) rfl ⟨(Below.refl _ _).alloc (Nat.le_refl _) _, .inl ⟨rfl, 0, rfl⟩⟩
  have e0 : (s.toList == []) = false := by
    rw [beq_eq_false_iff_ne]; intro x; exact h0 (text_eq (by simpa [Lib.toList_data] using x))
  have hpos := size_pos h0
  obtain ⟨r, hr⟩ := first_of hpos
  obtain ⟨ci, hci⟩ : ∃ ci : Int, (s[0].toNat : Int) = ci := ⟨_, rfl⟩
  by_cases h34 : s[0] = 34
  · have q1 : (ci == 34) = true := by rw [← hci, h34]; rfl
    have hraw : raw s.data.toList = (inner s.data.toList 34).map .text := by rw [hr, raw, if_pos h34]
    cases hin : inner s.data.toList 34 with
    | none =>
      rw [hin] at hraw
      have C := fun w => within_no s 34 hin hm w
      have C1 := Lib.hid C
      have R := Lib.hid hraw
      clear C hraw hin h34 hr
      go_enter Tryd.func43, Tryd.ntmps43
      go_wp2_with (go_at_call 58; refine (C1.out _).mono ?_; rintro e w' ⟨rfl, rfl⟩)
      exact bodyPost_ret (v := .tuple #[val 2 0 ⟨#[]⟩ (.slice none 0 0), .bool false]) (by simp [results, Tryd.results43, go_sem, val]) rfl ⟨(Below.refl _ _).alloc (Nat.le_refl _) _, .inl ⟨R.out, 2, rfl⟩⟩
    | some t =>
      rw [hin] at hraw
      obtain ⟨T, hT, hTs, C⟩ := within_yes s 34 t hin hm
      have C1 := Lib.hid C
      have R := Lib.hid hraw
      clear C hraw hin h34 hr
      go_enter Tryd.func43, Tryd.ntmps43
      go_wp2_with (go_at_call 58; refine (C1.out _).mono ?_; rintro e w' ⟨rfl, rfl⟩)
      exact bodyPost_ret (v := .tuple #[val 2 0 T (.slice none 0 0), .bool true]) (by simp [results, Tryd.results43, go_sem, val]) rfl ⟨(Below.refl _ _).alloc (Nat.le_refl _) _, .inr (.inr (.inl ⟨T, by rw [hT]; exact R.out, hTs, rfl⟩))⟩
  have q1 : (ci == 34) = false := by
    rw [← hci, beq_eq_false_iff_ne]; intro e
    exact h34 (UInt8.toNat_inj.1 (Int.ofNat_inj.1 e))
  by_cases h91 : s[0] = 91
  · have q2 : (ci == 91) = true := by rw [← hci, h91]; rfl
    have hraw : raw s.data.toList = (inner s.data.toList 93).bind fun t => if t = [] then some (.list []) else (numsOf (splitL t)).map .list := by rw [hr, raw, if_neg h34, if_pos h91]
    cases hin : inner s.data.toList 93 with
    | none =>
      rw [hin] at hraw
      have C := fun w => within_no s 93 hin hm w
      have C1 := Lib.hid C
      have R := Lib.hid hraw
      clear C hraw hin h34 h91 hr
      go_enter Tryd.func43, Tryd.ntmps43
      go_wp2_with (go_at_call 58; refine (C1.out _).mono ?_; rintro e w' ⟨rfl, rfl⟩)
      exact bodyPost_ret (v := .tuple #[val 0 0 ⟨#[]⟩ (.slice none 0 0), .bool false]) (by simp [results, Tryd.results43, go_sem, val]) rfl ⟨(Below.refl _ _).alloc (Nat.le_refl _) _, .inl ⟨R.out, 0, rfl⟩⟩
    | some t =>
      rw [hin] at hraw
      obtain ⟨T, hT, hTs, C⟩ := within_yes s 93 t hin hm
      have C1 := Lib.hid C
      by_cases ht : t = []
      · have R := Lib.hid (show raw s.data.toList = some (.list []) by rw [hraw]; simp [ht])
        obtain rfl : T = ⟨#[]⟩ := text_eq (by rw [hT, ht])
        clear C hraw hin h34 h91 hr hT
        go_enter Tryd.func43, Tryd.ntmps43
        go_wp2_with (first | (go_at_call 58; refine (C1.out _).mono ?_; rintro e w' ⟨rfl, rfl⟩) | (go_at_call 59; refine (readList_empty _).mono ?_; rintro e w1 ⟨rfl, hb⟩; have hb1 := Lib.hid hb; have hB := (hb.block w.heap.size (by simp)).trans (World.alloc_heap_new w _); clear hb; obtain ⟨⟨k0, k1, k2, k3⟩, g0, g1, g2, g3⟩ := four hB; have hc := Lib.hid hB; clear hB))
        obtain ⟨⟨d0, d1, d2, d3⟩, -⟩ := four (four_set hc.out (.int .i64 3) (.int .i64 0) (.string ⟨#[]⟩) (.slice none 0 0))
        exact bodyPost_ret (v := .tuple #[val 3 0 ⟨#[]⟩ (.slice none 0 0), .bool true]) (by simp [results, Tryd.results43, go_sem, val, d0, d1, d2, d3]) rfl ⟨four_below (((Below.refl _ w).alloc (Nat.le_refl _) _).trans (hb1.out.mono (by simp))) (Nat.le_refl _) _ _ _ _, .inr (.inr (.inr ⟨[], none, 0, 0, fun _ => 0, R.out, ⟨Nat.zero_le _, .inl rfl⟩, fun _ h => by (cases h), rfl, rfl⟩))⟩
      · have hT0 : ¬ T = ⟨#[]⟩ := fun e => ht (by rw [← hT, e])
        have Lc := fun w hw h8 => callsIn_wide.1 (readList_in T hT0 (by omega) w hw h8)
        have R : raw s.data.toList = (numsOf (splitL T.data.toList)).map .list := by rw [hraw, hT]; simp [ht]
        have R1 := Lib.hid R
        have L1 := Lib.hid (Lc (w.alloc (.cells #[.int .i64 0, .int .i64 0, .string ⟨#[]⟩, .slice none 0 0] 24)) (hw.below ((Below.refl _ w).alloc (Nat.le_refl _) _) h8) (by simp; omega))
        clear C hraw hin h34 h91 hr hT R Lc
        go_enter Tryd.func43, Tryd.ntmps43
        go_wp2_with (first | (go_at_call 58; refine (C1.out _).mono ?_; rintro e w' ⟨rfl, rfl⟩))
        refine L1.out.mono ?_
        rintro e w1 ⟨⟨xs, ns, v, hx, hn, rfl, ho⟩ | ⟨xs, hx, hno, rfl⟩, hb⟩
        · obtain ⟨a, cap, rfl⟩ := row_slice ho
          have hR := R1.out.trans (by rw [← splits_list hx, numsOf_all hn])
          have ho1 := Lib.hid ho
          have hR1 := Lib.hid hR
          clear ho hx hn hR
          have hb1 := Lib.hid hb; have hB := (hb.block w.heap.size (by simp)).trans (World.alloc_heap_new w _); clear hb; obtain ⟨⟨k0, k1, k2, k3⟩, g0, g1, g2, g3⟩ := four hB; have hc := Lib.hid hB; clear hB
          obtain ⟨L, hL⟩ : ∃ L, ns.take 17 = L := ⟨_, rfl⟩
          rw [hL] at ho1 ⊢
          have hL1 := Lib.hid hL
          clear hL
          go_wp2_with fail
          obtain ⟨hrd, hab⟩ := reads_of_owns ho1.out
          obtain ⟨⟨d0, d1, d2, d3⟩, -⟩ := four (four_set hc.out (.int .i64 3) (.int .i64 0) (.string ⟨#[]⟩) (.slice a L.length cap))
          exact bodyPost_ret (v := .tuple #[val 3 0 ⟨#[]⟩ (.slice a L.length cap), .bool true]) (by simp [results, Tryd.results43, go_sem, val, d0, d1, d2, d3]) rfl ⟨four_below (((Below.refl _ w).alloc (Nat.le_refl _) _).trans (hb1.out.mono (by simp))) (Nat.le_refl _) _ _ _ _,
            .inr (.inr (.inr ⟨ns, a, L.length, cap, _, hR1.out, hrd.four (fun x hx => by have := hab x hx; simp at this; omega) _ _ _ _, fun x hx => by have := hab x hx; simp at this; omega, by rw [upTo_get, hL1.out], rfl⟩))⟩
        · have hR := R1.out.trans (by rw [← splits_list hx, numsOf_none hno])
          have hR1 := Lib.hid hR
          clear hx hno hR
          have hb1 := Lib.hid hb; have hB := (hb.block w.heap.size (by simp)).trans (World.alloc_heap_new w _); clear hb; obtain ⟨⟨k0, k1, k2, k3⟩, g0, g1, g2, g3⟩ := four hB; have hc := Lib.hid hB; clear hB
          go_wp2_with fail
          obtain ⟨⟨d0, d1, d2, d3⟩, -⟩ := four (four_set hc.out (.int .i64 3) (.int .i64 0) (.string ⟨#[]⟩) (.slice none 0 0))
          exact bodyPost_ret (v := .tuple #[val 3 0 ⟨#[]⟩ (.slice none 0 0), .bool false]) (by simp [results, Tryd.results43, go_sem, val, d0, d1, d2, d3]) rfl ⟨four_below (((Below.refl _ w).alloc (Nat.le_refl _) _).trans (hb1.out.mono (by simp))) (Nat.le_refl _) _ _ _ _, .inl ⟨hR1.out, 3, rfl⟩⟩

  · have q2 : (ci == 91) = false := by
      rw [← hci, beq_eq_false_iff_ne]; intro e
      exact h91 (UInt8.toNat_inj.1 (Int.ofNat_inj.1 e))
    have hraw : raw s.data.toList = (numOf s.data.toList).map .num := by
      have : raw (s[0] :: r) = (numOf (s[0] :: r)).map .num := by rw [raw, if_neg h34, if_neg h91]
      rw [hr]; exact this
    have C := readNumber_any s hm (w.alloc (.cells #[.int .i64 0, .int .i64 0, .string ⟨#[]⟩, .slice none 0 0] 24)) (hw.below ((Below.refl _ w).alloc (Nat.le_refl _) _) h8) (by simp; omega)
    cases hn : numOf s.data.toList with
    | none =>
      rw [hn] at C hraw
      have C1 := Lib.hid C
      have R := Lib.hid hraw
      clear C hraw h34 h91 hr hn
      go_enter Tryd.func43, Tryd.ntmps43
      go_wp2_with (go_at_call 60; refine C1.out.mono ?_; rintro e w1 ⟨rfl, hb⟩; have hb1 := Lib.hid hb; have hB := (hb.block w.heap.size (by simp)).trans (World.alloc_heap_new w _); clear hb; obtain ⟨⟨k0, k1, k2, k3⟩, g0, g1, g2, g3⟩ := four hB; have hc := Lib.hid hB; clear hB)
      obtain ⟨⟨d0, d1, d2, d3⟩, -⟩ := four (four_set hc.out (.int .i64 1) (.int .i64 0) (.string ⟨#[]⟩) (.slice none 0 0))
      exact bodyPost_ret (v := .tuple #[val 1 0 ⟨#[]⟩ (.slice none 0 0), .bool false]) (by simp [results, Tryd.results43, go_sem, val, d0, d1, d2, d3]) rfl ⟨four_below (((Below.refl _ w).alloc (Nat.le_refl _) _).trans (hb1.out.mono (by simp))) (Nat.le_refl _) _ _ _ _, .inl ⟨R.out, 1, rfl⟩⟩
    | some n =>
      rw [hn] at C hraw
      have C1 := Lib.hid C
      have R := Lib.hid hraw
      clear C hraw h34 h91 hr hn
      go_enter Tryd.func43, Tryd.ntmps43
      go_wp2_with (go_at_call 60; refine C1.out.mono ?_; rintro e w1 ⟨rfl, hb⟩; have hb1 := Lib.hid hb; have hB := (hb.block w.heap.size (by simp)).trans (World.alloc_heap_new w _); clear hb; obtain ⟨⟨k0, k1, k2, k3⟩, g0, g1, g2, g3⟩ := four hB; have hc := Lib.hid hB; clear hB)
      obtain ⟨⟨d0, d1, d2, d3⟩, -⟩ := four (four_set hc.out (.int .i64 1) (.int .i64 n) (.string ⟨#[]⟩) (.slice none 0 0))
      exact bodyPost_ret (v := .tuple #[val 1 n ⟨#[]⟩ (.slice none 0 0), .bool true]) (by simp [results, Tryd.results43, go_sem, val, d0, d1, d2, d3]) rfl ⟨four_below (((Below.refl _ w).alloc (Nat.le_refl _) _).trans (hb1.out.mono (by simp))) (Nat.le_refl _) _ _ _ _, .inr (.inl ⟨n, R.out, rfl⟩)⟩

end Go.Proofs.YtdghknmlleffbaaDoor
