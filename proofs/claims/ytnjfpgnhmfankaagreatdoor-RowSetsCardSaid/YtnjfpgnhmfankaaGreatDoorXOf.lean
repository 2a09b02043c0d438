/-
  No statement: the law's own Few, FewAttrs, Of and OfAttrs, of rows.
-/
import Derived.Test.YtnjfpgnhmfankaaGreatDoorXText
import Derived.Test.YtnjfpgnhmfankaaGreatDoorAppM
import Derived.Test.YtnjfpgnhmfankaaGreatDoorRDec
namespace Go.Proofs.YtnjfpgnhmfankaaGreatDoor
open Go.RowKit

set_option maxHeartbeats 1000000 in
theorem few2_any (k n : Int) (s : ByteArray) (a : Option Addr) (len cap : Nat) (hs : s.size ≤ maxLen) (hl : len ≤ maxLen) (w : World) :
    Calls Tryz.prog 6 #[.agg #[.int .i64 k, .int .i64 n, .string s, .slice a len cap]] w fun e w' => e = .returned (.bool (decide (s.size ≤ 200) && decide (len ≤ 40))) ∧ Below w.heap.size w w' := by
  unfold maxLen at hs hl
  by_cases h1 : s.size ≤ 200
  · by_cases h2 : len ≤ 40
    · go_enter Tryz.func6, Tryz.ntmps6
      go_wp2_with fail
      go_ret
      exact ⟨ret_b (a := decide ((len : Int) ≤ 40)) (by rw [decide_eq_true h1, Bool.true_and, decide_eq_true h2]; exact decide_eq_true (by omega)), (Below.refl _ _).alloc (Nat.le_refl _) _⟩
    · go_enter Tryz.func6, Tryz.ntmps6
      go_wp2_with fail
      go_ret
      exact ⟨ret_b (a := decide ((len : Int) ≤ 40)) (by rw [decide_eq_true h1, Bool.true_and, decide_eq_false h2]; exact decide_eq_false (by omega)), (Below.refl _ _).alloc (Nat.le_refl _) _⟩
  · go_enter Tryz.func6, Tryz.ntmps6
    go_wp2_with fail
    go_ret
    exact ⟨ret_b (a := false) (by first | rfl | (rw [decide_eq_false h1]; rfl)), (Below.refl _ _).alloc (Nat.le_refl _) _⟩

/-- Is an attribute short? -/
def fewA (x : AD) : Bool := decide (x.m.size ≤ 100) && (decide (x.s.size ≤ 200) && decide (x.len ≤ 40))
def fewAs (l : List AD) : Bool := l.all fewA
/-- Are attributes few, and short? -/
def fewL (n : Nat) (A : Nat → AD) : Bool := decide (n ≤ 40) && fewAs (fromA A n 0)
/-- Is a row short? -/
def fewR (x : RD) : Bool := decide (x.key.size ≤ 100) && (decide (x.o.size ≤ 100) && fewL x.len x.A)
/-- All sizes are sizes of Go. -/
def SizA (x : AD) : Prop := x.m.size ≤ maxLen ∧ x.s.size ≤ maxLen ∧ x.len ≤ maxLen

set_option maxRecDepth 100000 in
set_option maxHeartbeats 4000000 in
theorem fewAttrs_any (a : Option Addr) (n c : Nat) (A : Nat → AD) (hS : ∀ j, j < n → SizA (A j)) (w : World) (h : ReadsA w a n A) :
    Calls Tryz.prog 40 #[.slice a n c] w fun e w' => e = .returned (.bool (fewL n A)) ∧ Below w.heap.size w w' := by
  have hm := h.1
  unfold maxLen at hm
  have R := Lib.hid h
  have HS := Lib.hid hS
  clear h hS
  by_cases h40 : 40 < n
  · have E := Lib.hid (p := fewL n A = false) (by unfold fewL; rw [decide_eq_false (by omega)]; rfl)
    go_enter Tryz.func40, Tryz.ntmps40
    go_wp2_with fail
    go_ret
    exact ⟨ret_b E.out.symm, Below.refl _ _⟩
  · have E := Lib.hid (p := fewL n A = fewAs (fromA A n 0)) (by unfold fewL; rw [decide_eq_true (by omega)]; rfl)
    go_enter Tryz.func40, Tryz.ntmps40
    go_wp2_with fail
    go_loopw [3] (fun i wr => ∃ k : Nat, i = .int .i64 k ∧ k ≤ n ∧ Hid (fewAs (fromA A n 0) = fewAs (fromA A n k)) ∧ Hid (Below w.heap.size w wr)) (fun i _ => n - (intOf i).toNat)
    case atStart => exact ⟨0, rfl, Nat.zero_le _, Lib.hid rfl, Lib.hid (Below.refl _ _)⟩
    case round =>
      obtain ⟨k, rfl, hk, hE, hB⟩ := hrel
      by_cases hlt : k < n
      · obtain ⟨b, off, rfl, hc⟩ := R.out.2.resolve_left (by omega)
        obtain ⟨y, e, g0, -⟩ := hc k hlt
        have g := g0.kept hB.out
        have hE2 := hE.out
        rw [fromA_cons A hlt] at hE2
        have hsz := HS.out k hlt
        obtain ⟨x, hx⟩ : ∃ x, A k = x := ⟨_, rfl⟩
        rw [hx] at g hE2 hsz
        have hE3 : fewAs (fromA A n 0) = (fewA x && fewAs (fromA A n (k + 1))) := hE2
        obtain ⟨hs1, hs2, hs3⟩ := hsz
        have F2 := Lib.hid (fun w => few2_any x.k x.n x.s y x.len e hs2 hs3 w)
        obtain ⟨q, hq⟩ : ∃ q, (decide (x.s.size ≤ 200) && decide (x.len ≤ 40)) = q := ⟨_, rfl⟩
        rw [hq] at F2
        have hf : fewA x = (decide (x.m.size ≤ 100) && q) := by unfold fewA; rw [hq]
        rw [hf] at hE3
        have hz := hB.out.size
        unfold maxLen at hs1
        obtain ⟨p0, p1, p2, p3, p4⟩ := g
        clear hc hE2 hE hx hf hq g0 hs2 hs3
        by_cases h1 : 100 < x.m.size
        · have HE := Lib.hid (p := fewAs (fromA A n 0) = false) (by rw [hE3, decide_eq_false (by omega)]; rfl)
          clear hE3
          go_wp2_with fail
          go_ret
          exact ⟨ret_b (by rw [E.out, HE.out]), hB.out⟩
        · have HE := Lib.hid (p := fewAs (fromA A n 0) = (q && fewAs (fromA A n (k + 1)))) (by rw [hE3, decide_eq_true (by omega)]; rfl)
          clear hE3
          go_wp2_with fail
          refine (F2.out _).mono ?_
          rintro e w2 ⟨rfl, hb⟩
          have B2 := Lib.hid hb
          clear hb p0 p1 p2 p3 p4
          cases q with
          | true =>
            go_wp2_with fail
            go_roundw
            case rel => exact ⟨k + 1, by go_num, by omega, Lib.hid (by rw [HE.out]; rfl), Lib.hid (hB.out.trans (B2.out.mono hz))⟩
            case measure => simp [intOf]; omega
          | false =>
            go_wp2_with fail
            go_ret
            exact ⟨ret_b (by rw [E.out, HE.out]; rfl), hB.out.trans (B2.out.mono hz)⟩
      · go_wp2_with fail
        go_ret
        exact ⟨ret_b (by rw [E.out, hE.out, fromA_nil A (by omega)]; rfl), hB.out⟩

end Go.Proofs.YtnjfpgnhmfankaaGreatDoor
