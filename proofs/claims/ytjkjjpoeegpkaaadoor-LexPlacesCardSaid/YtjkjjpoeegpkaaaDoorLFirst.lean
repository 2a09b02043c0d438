/-
  No statement: contracts of name, sign, num, first of package lex.
-/
import Derived.Test.YtjkjjpoeegpkaaaDoorLTok
import Derived.Lib.AtoiErrMem
import Derived.Lib.ParseIntBTie
namespace Go.Proofs.YtjkjjpoeegpkaaaDoor
open Go.RowKit

/-- What a first token is answered as. -/
def retF (l : List UInt8) : Fst → Value
  | .bad e => .tuple #[tkV 0 ⟨#[]⟩ 0 0, .int .i64 e]
  | .tok k n v => .tuple #[tkV k ⟨(l.take n).toArray⟩ v 0, .int .i64 0]

theorem front_eq (s : ByteArray) (n : Nat) : s.extract 0 n = ⟨(s.data.toList.take n).toArray⟩ := text_eq (by rw [list_front])

/-- The two errors of the library are there. -/
def Laid (w : World) : Prop :=
  (∃ tp p t f, w.heap[0]? = some (.cells #[.iface tp p] t f)) ∧ (∃ tp p t f, w.heap[1]? = some (.cells #[.iface tp p] t f))

theorem Laid.step {w w' : World} (h : Laid w) (hb : Below w.heap.size w w') : Laid w' := by
  obtain ⟨⟨tp, p, t1, f1, h1⟩, ⟨tq, q, t2, f2, h2⟩⟩ := h
  exact ⟨⟨tp, p, t1, f1, (hb.block _ (lt_block h1)).trans h1⟩, ⟨tq, q, t2, f2, (hb.block _ (lt_block h2)).trans h2⟩⟩

theorem var_of {w : World} {n : String} {g : Nat} {cs : Array Value} {t : TypeId} {f : Nat × Nat} (hg : Tryd.prog.globalNamed n = some g) (h : w.heap[g]? = some (.cells cs t f)) : w.var? Tryd.prog n = some cs := by
  unfold World.var?
  rw [hg]
  simp [h]

theorem parse_ok (s : ByteArray) (v : Int) (hs : s.size ≤ 281474976710656) (h : Lib.parseIntB 64 s.data.toList = .ok v) (w : World) :
    Calls Tryd.prog 32 #[.string s, .int .i64 10, .int .i64 64] w fun e w' => e = .returned (.tuple #[.int .i64 v, .nilIface]) ∧ Below w.heap.size w w' := by
  refine (Tryd.strconv_ParseInt_10_at64_ok s (by omega) v h w).mono ?_
  rintro e w' ⟨rfl, rfl | ⟨t, rfl⟩⟩
  · exact ⟨rfl, Below.refl _ _⟩
  · exact ⟨rfl, Lib.bytesWorld_below _ _ _⟩

/-- It ends with an error. -/
def Fell (w : World) (e : Ending) (w' : World) : Prop := (∃ n t p, e = .returned (.tuple #[.int .i64 n, .iface t p])) ∧ Below w.heap.size w w'

theorem parse_fell (s : ByteArray) (hs : s.size ≤ 281474976710656) (w : World) (hw : Laid w) (h : ∀ v, ¬ Lib.parseIntB 64 s.data.toList = .ok v) :
    Calls Tryd.prog 32 #[.string s, .int .i64 10, .int .i64 64] w (Fell w) := by
  obtain ⟨⟨tp, p, t1, f1, h1⟩, ⟨tq, q, t2, f2, h2⟩⟩ := hw
  rcases hp : Lib.parseIntB 64 s.data.toList with v | _ | _
  · exact absurd hp (h v)
  · refine (Any.strconv_ParseInt_10_at64_syntax_var Tryd.laysC174 s hs hp tp p w (var_of (by kernel_rfl) h1)).mono ?_
    rintro e w' ⟨N, rfl, _, _, hb⟩
    exact ⟨⟨_, _, _, rfl⟩, hb⟩
  · refine (Any.strconv_ParseInt_10_at64_range_var Tryd.laysC174 s hs hp tq q w (var_of (by kernel_rfl) h2)).mono ?_
    rintro e w' ⟨N, rfl, _, _, hb⟩
    exact ⟨⟨_, _, _, rfl⟩, hb⟩

set_option maxHeartbeats 4000000 in
theorem lName_any (s : ByteArray) (hm : s.size ≤ 281474976710656) (w : World) : Calls Tryd.prog 23 #[.string s] w fun e w' => e = .returned (retF s.data.toList (nameF s.data.toList)) ∧ Below w.heap.size w w' := by
  obtain ⟨n, hn⟩ : ∃ n, runL alnumB s.data.toList = n := ⟨_, rfl⟩
  have hle : n ≤ s.size := by rw [← hn]; have := run_le alnumB s.data.toList; simpa using this
  have C := Lib.hid (p := ∀ w, Calls Tryd.prog 29 #[.string s, .func (.func 30) #[] #[]] w fun e w' => e = .returned (.int .i64 (n : Int)) ∧ w = w') (fun w => by have := lRunN_any s hm w; rwa [hn] at this)
  unfold nameF
  rw [hn]
  clear hn
  by_cases h8 : 8 < n
  · rw [if_pos h8]
    unfold retF
    go_enter Tryd.func23, Tryd.ntmps23
    go_wp2_with (go_at_call 29; refine (C.out _).mono ?_; rintro e w' ⟨rfl, rfl⟩)
    refine bodyPost_ret (v := .tuple #[tkV 0 ⟨#[]⟩ 0 0, .int .i64 5]) (by simp [results, Tryd.results23, go_sem]) rfl ⟨rfl, ?_⟩
    exact (Below.refl _ _).alloc (Nat.le_refl _) _
  · rw [if_neg h8]
    have T := Lib.hid (fun w => lToken_any 1 (s.extract 0 n) (by rw [ByteArray.size_extract]; omega) w)
    have F := Lib.hid (front_eq s n)
    unfold retF
    go_enter Tryd.func23, Tryd.ntmps23
    go_wp2_with (go_at_call 29; refine (C.out _).mono ?_; rintro e w' ⟨rfl, rfl⟩)
    refine (T.out _).mono ?_
    rintro e w1 ⟨rfl, hb⟩
    have hB := (hb.block w.heap.size (by simp)).trans (heap_alloc_new w _)
    have B1 := Lib.hid (show Below w.heap.size w w1 from ((Below.refl _ w).alloc (Nat.le_refl _) _).trans (hb.mono (by simp)))
    obtain ⟨⟨k0, k1, k2, k3⟩, g0, g1, g2, g3⟩ := four hB
    have c0 := Lib.hid hB
    clear hb hB
    go_wp2_with fail
    obtain ⟨⟨d0, d1, d2, d3⟩, -⟩ := four (four_set c0.out (.int .i64 1) (.string (s.extract 0 n)) (.int .i64 0) (.int .i64 0))
    refine bodyPost_ret (v := .tuple #[tkV 1 (s.extract 0 n) 0 0, .int .i64 0]) (by simp [results, Tryd.results23, go_sem, d0, d1, d2, d3]) rfl ⟨?_, four_below B1.out (Nat.le_refl _) _ _ _ _⟩
    rw [F.out]

set_option maxHeartbeats 4000000 in
theorem lSignF_any (s : ByteArray) (h1 : 1 ≤ s.size) (hm : s.size ≤ 281474976710656) (w : World) : Calls Tryd.prog 26 #[.string s] w fun e w' => e = .returned (retF s.data.toList (signF s.data.toList)) ∧ Below w.heap.size w w' := by
  obtain ⟨n, hn⟩ : ∃ n, signL s.data.toList = n := ⟨_, rfl⟩
  have hle : n ≤ s.size := by rw [← hn]; have := sign_le s.data.toList; simpa using this
  have C := Lib.hid (p := ∀ w, Calls Tryd.prog 33 #[.string s] w fun e w' => e = .returned (.int .i64 (n : Int)) ∧ w = w') (fun w => by have := lSign_any s h1 w; rwa [hn] at this)
  unfold signF
  rw [hn]
  clear hn
  by_cases h8 : n = 0
  · rw [if_pos h8]
    unfold retF
    have q : ((n : Int) == 0) = true := by rw [h8]; rfl
    clear h8
    go_enter Tryd.func26, Tryd.ntmps26
    go_wp2_with (go_at_call 33; refine (C.out _).mono ?_; rintro e w' ⟨rfl, rfl⟩)
    refine bodyPost_ret (v := .tuple #[tkV 0 ⟨#[]⟩ 0 0, .int .i64 2]) (by simp [results, Tryd.results26, go_sem]) rfl ⟨rfl, ?_⟩
    exact (Below.refl _ _).alloc (Nat.le_refl _) _
  · rw [if_neg h8]
    have q : ((n : Int) == 0) = false := by rw [beq_eq_false_iff_ne]; omega
    clear h8
    have T := Lib.hid (fun w => lToken_any 3 (s.extract 0 n) (by rw [ByteArray.size_extract]; omega) w)
    have F := Lib.hid (front_eq s n)
    unfold retF
    go_enter Tryd.func26, Tryd.ntmps26
    go_wp2_with (go_at_call 33; refine (C.out _).mono ?_; rintro e w' ⟨rfl, rfl⟩)
    refine (T.out _).mono ?_
    rintro e w1 ⟨rfl, hb⟩
    have hB := (hb.block w.heap.size (by simp)).trans (heap_alloc_new w _)
    have B1 := Lib.hid (show Below w.heap.size w w1 from ((Below.refl _ w).alloc (Nat.le_refl _) _).trans (hb.mono (by simp)))
    obtain ⟨⟨k0, k1, k2, k3⟩, g0, g1, g2, g3⟩ := four hB
    have c0 := Lib.hid hB
    clear hb hB
    go_wp2_with fail
    obtain ⟨⟨d0, d1, d2, d3⟩, -⟩ := four (four_set c0.out (.int .i64 3) (.string (s.extract 0 n)) (.int .i64 0) (.int .i64 0))
    refine bodyPost_ret (v := .tuple #[tkV 3 (s.extract 0 n) 0 0, .int .i64 0]) (by simp [results, Tryd.results26, go_sem, d0, d1, d2, d3]) rfl ⟨?_, four_below B1.out (Nat.le_refl _) _ _ _ _⟩
    rw [F.out]

end Go.Proofs.YtjkjjpoeegpkaaaDoor
