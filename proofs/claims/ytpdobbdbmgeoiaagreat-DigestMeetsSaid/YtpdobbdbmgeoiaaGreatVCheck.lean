/-
  No statement: what Check of package value answers, and the contracts of its parts.
-/
import Derived.Test.YtpdobbdbmgeoiaaGreatVNum
import Derived.LoopTactic
import Derived.Deep.QuietTactic
import Derived.BigQuiet
namespace Go.Proofs.YtpdobbdbmgeoiaaGreat
open Go.RowKit

/-- A byte that no text may have. -/
def badB (c : UInt8) : Bool := decide ((c.toNat : Int) < 32) || decide (126 < (c.toNat : Int)) || decide ((c.toNat : Int) = 34)
/-- What is wrong with a text; 0: nothing. -/
def errT (l : List UInt8) : Int := if 64 < l.length then 4 else if l.any badB then 2 else 0
/-- Do numbers rise? -/
def risesB : List Int → Bool
  | a :: b :: r => decide (a < b) && risesB (b :: r)
  | _ => true
/-- What is wrong with a list; 0: nothing. -/
def errL (l : List Int) : Int := if 16 < l.length then 4 else if risesB l then 0 else 2

theorem risesB_iff (l : List Int) : risesB l = true ↔ ∀ j, j + 1 < l.length → l.getD j 0 < l.getD (j + 1) 0 := by
  induction l with
  | nil => simp [risesB]
  | cons a r ih =>
    cases r with
    | nil => simp [risesB]
    | cons b r =>
      simp only [risesB, Bool.and_eq_true, decide_eq_true_eq]
      rw [ih]
      constructor
      · rintro ⟨h, k⟩ j hj
        cases j with
        | zero => simpa using h
        | succ j => simpa using k j (by simpa using hj)
      · intro h
        exact ⟨by simpa using h 0 (by simp), fun j hj => by simpa using h (j + 1) (by simpa using hj)⟩

theorem anyT {s : ByteArray} (h : ∀ j (hj : j < s.size), badB s[j] = false) : s.data.toList.any badB = false := by
  rw [List.any_eq_false]
  intro c hc
  obtain ⟨j, hj, rfl⟩ := List.mem_iff_getElem.1 hc
  have := h j (by simpa using hj)
  intro e
  have e' : badB s[j] = true := e
  rw [this] at e'; cases e'

theorem anyT_yes {s : ByteArray} {j : Nat} (hj : j < s.size) (h : badB s[j] = true) : s.data.toList.any badB = true := by
  rw [List.any_eq_true]
  exact ⟨s[j], List.mem_iff_getElem.2 ⟨j, by simpa using hj, rfl⟩, h⟩

set_option maxHeartbeats 1000000 in
theorem checkText_any (s : ByteArray) (hm : s.size ≤ 281474976710656) (w : World) : Calls Tryz.prog 127 #[.string s] w fun e w' => e = .returned (.int .i64 (errT s.data.toList)) ∧ w = w' := by
  have hlen : s.data.toList.length = s.size := by simp
  by_cases hl : 64 < s.size
  · have R := Lib.hid (show errT s.data.toList = 4 by unfold errT; rw [hlen, if_pos hl])
    go_enter Tryz.func127, Tryz.ntmps127
    go_wp2
    go_ret
    exact ⟨ret_i64 R.out.symm, rfl⟩
  · have R := Lib.hid (show errT s.data.toList = if s.data.toList.any badB then 2 else 0 by unfold errT; rw [hlen, if_neg hl])
    clear hlen
    go_enter Tryz.func127, Tryz.ntmps127
    go_wp2
    go_loop [10] (fun i => ∃ k : Nat, k ≤ s.size ∧ i = .int .i64 k ∧ Hid (∀ j (hj : j < s.size), j < k → badB s[j] = false)) (fun i => s.size - (intOf i).toNat)
    case atStart => exact ⟨0, Nat.zero_le _, rfl, Lib.hid (fun j _ h => by omega)⟩
    case round =>
      obtain ⟨k, hk, rfl, hok⟩ := hrel
      by_cases hlt : k < s.size
      · obtain ⟨c, hc⟩ : ∃ c : Int, (s[k].toNat : Int) = c := ⟨_, rfl⟩
        have hb : badB s[k] = (decide (c < 32) || decide (126 < c) || decide (c = 34)) := by unfold badB; rw [hc]
        have hcase : c < 32 ∨ 126 < c ∨ c = 34 ∨ (32 ≤ c ∧ c ≤ 126 ∧ ¬ c = 34) := by omega
        rcases hcase with h1 | h1 | h1 | ⟨h1, h2, h3⟩
        · have h2 := h1
          have R2 := Lib.hid (R.out.trans (by rw [if_pos (anyT_yes hlt (by rw [hb]; first | (simp; done) | (simp; omega)))]))
          clear hb R hok
          go_wp2
          go_ret
          exact ⟨ret_i64 R2.out.symm, rfl⟩
        · have h2 : ¬ c < 32 := by omega
          have R2 := Lib.hid (R.out.trans (by rw [if_pos (anyT_yes hlt (by rw [hb]; first | (simp; done) | (simp; omega)))]))
          clear hb R hok
          go_wp2
          go_ret
          exact ⟨ret_i64 R2.out.symm, rfl⟩
        · subst h1
          have R2 := Lib.hid (R.out.trans (by rw [if_pos (anyT_yes hlt (by rw [hb]; first | (simp; done) | (simp; omega)))]))
          clear hb R hok
          go_wp2
          go_ret
          exact ⟨ret_i64 R2.out.symm, rfl⟩
        · have hok1 := Lib.hid (show ∀ j (hj : j < s.size), j < k + 1 → badB s[j] = false from fun j hj hjk => by
            by_cases e : j = k
            · subst e; rw [hb]; simp; omega
            · exact hok.out j hj (by omega))
          have h4 : (c == 34) = false := by simpa using h3
          clear hb h3
          go_wp2
          go_round
          case rel => exact ⟨k + 1, by omega, by go_num, hok1⟩
          case measure => simp [intOf]; omega
      · go_wp2
        go_ret
        exact ⟨ret_i64 (by rw [R.out, anyT fun j hj => hok.out j hj (by omega)]; rfl), rfl⟩

/-- A []int64 reads as a list of numbers. -/
def Reads (w : World) (a : Option Addr) (len : Nat) (z : Nat → Int) : Prop :=
  len ≤ maxLen ∧ (len = 0 ∨ ∃ b off, a = some ⟨b, off, none⟩ ∧ ∀ j, j < len → w.cell? ⟨b, off + j, none⟩ = some (.int .i64 (z j)))

/-- The first numbers of z. -/
def upTo (z : Nat → Int) (n : Nat) : List Int := (List.range n).map z

theorem upTo_len (z : Nat → Int) (n : Nat) : (upTo z n).length = n := by simp [upTo]
theorem upTo_at (z : Nat → Int) {n j : Nat} (h : j < n) : (upTo z n).getD j 0 = z j := by simp [upTo, List.getD, h]

theorem Reads.below {B : Nat} {w w' : World} {a : Option Addr} {len : Nat} {z : Nat → Int} (h : Reads w a len z) (hb : Below B w w') (hB : ∀ x, a = some x → x.block < B) : Reads w' a len z := by
  refine ⟨h.1, h.2.imp id ?_⟩
  rintro ⟨b, off, rfl, hc⟩
  exact ⟨b, off, rfl, fun j hj => (hb.cell (p := ⟨b, off + j, none⟩) (show b < B from hB ⟨b, off, none⟩ rfl)).trans (hc j hj)⟩

theorem Reads.kept {w w' : World} {a : Option Addr} {len : Nat} {z : Nat → Int} (h : Reads w a len z) (hb : Below w.heap.size w w') : Reads w' a len z := by
  refine ⟨h.1, ?_⟩
  rcases h.2 with h0 | ⟨b, off, rfl, hc⟩
  · exact .inl h0
  · exact .inr ⟨b, off, rfl, fun j hj => (hb.cell (p := ⟨b, off + j, none⟩) (World.block_lt_of_cell? w _ (hc j hj))).trans (hc j hj)⟩

theorem rises_upTo {z : Nat → Int} {n : Nat} : risesB (upTo z n) = true ↔ ∀ j, j + 1 < n → z j < z (j + 1) := by
  rw [risesB_iff, upTo_len]
  exact ⟨fun h j hj => by have := h j hj; rwa [upTo_at z (by omega), upTo_at z hj] at this, fun h j hj => by rw [upTo_at z (by omega), upTo_at z hj]; exact h j hj⟩

set_option maxHeartbeats 1000000 in
theorem checkList_any (a : Option Addr) (len cap : Nat) (z : Nat → Int) (w : World) (hr : Reads w a len z) :
    Calls Tryz.prog 128 #[.slice a len cap] w fun e w' => e = .returned (.int .i64 (errL (upTo z len))) ∧ ∃ n, w' = w.drewN n := by
  obtain ⟨hmax, hr⟩ := hr
  unfold maxLen at hmax
  have hlen := upTo_len z len
  by_cases hl : 16 < len
  · have R := Lib.hid (show errL (upTo z len) = 4 by unfold errL; rw [hlen, if_pos hl])
    clear hr hlen
    go_enter Tryz.func128, Tryz.ntmps128
    go_wp2
    go_ret
    exact ⟨ret_i64 R.out.symm, 0, rfl⟩
  · have R := Lib.hid (show errL (upTo z len) = if risesB (upTo z len) then 0 else 2 by unfold errL; rw [hlen, if_neg hl])
    clear hlen
    rcases hr with rfl | ⟨b, off, rfl, hc⟩
    · go_enter Tryz.func128, Tryz.ntmps128
      go_wp2
      go_loopw [3] (fun i wr => i = .int .i64 1 ∧ wr = w) (fun _ _ => 0)
      case atStart => exact ⟨rfl, rfl⟩
      case round =>
        obtain ⟨rfl, rfl⟩ := hrel
        go_wp2
        go_ret
        exact ⟨ret_i64 (by rw [R.out]; rfl), 0, rfl⟩
    · have hcc := Lib.hid hc
      clear hc
      go_enter Tryz.func128, Tryz.ntmps128
      go_wp2
      go_loopw [3] (fun i wr => ∃ k : Nat, 1 ≤ k ∧ (k ≤ len ∨ k = 1) ∧ i = .int .i64 k ∧ Hid (∀ j, j + 1 < k → j + 1 < len → z j < z (j + 1)) ∧ Hid (∃ n, wr = w.drewN n)) (fun i _ => len - (intOf i).toNat)
      case atStart => exact ⟨1, Nat.le_refl _, .inr rfl, rfl, Lib.hid (fun j h => by omega), Lib.hid ⟨0, rfl⟩⟩
      case round =>
        obtain ⟨k, h1, hk, rfl, hok, hw⟩ := hrel
        by_cases hlt : k < len
        · obtain ⟨n, rfl⟩ := hw.out
          have c1 := hcc.out k hlt
          have c0 := hcc.out (k - 1) (by omega)
          go_wp2
          have e1 : IntKind.i64.wrap ((k : Int) - 1) = (k : Int) - 1 := IntWalk.i64_in _ (by omega)
          have e2 : 0 ≤ (k : Int) - 1 := by omega
          have e3 : ((k : Int) - 1).toNat = k - 1 := by omega
          have e4 : (k : Int) - 1 < len := by omega
          go_quiet (fail)
          clear e1 e2 e3 e4
          by_cases hz : z k ≤ z (k - 1)
          · have hno := Lib.hid (show ¬ risesB (upTo z len) = true from fun h => by
              have := rises_upTo.1 h (k - 1) (by omega)
              rw [show k - 1 + 1 = k by omega] at this
              omega)
            go_wp2
            go_ret
            exact ⟨ret_i64 (by rw [R.out, if_neg hno.out]), _, World.drewN_drewN _ _ _⟩
          · have hok1 := Lib.hid (show ∀ j, j + 1 < k + 1 → j + 1 < len → z j < z (j + 1) from fun j hj hl => by
              by_cases e : j + 1 = k
              · rw [e, show j = k - 1 by omega]; omega
              · exact hok.out j (by omega) hl)
            go_wp2
            go_roundw
            case rel => exact ⟨k + 1, by omega, .inl (by omega), by go_num, hok1, Lib.hid ⟨_, rfl⟩⟩
            case measure => simp [intOf]; omega
        · go_wp2
          go_ret
          exact ⟨ret_i64 (by rw [R.out, if_pos (rises_upTo.2 fun j hj => hok.out j (by omega) hj)]), hw.out⟩

/-- A value of package value, as data. -/
def val (k n : Int) (s : ByteArray) (l : Value) : Value := .agg #[.int .i64 k, .int .i64 n, .string s, l]

/-- What is wrong with a value; 0: nothing. -/
def errV (k : Int) (s : ByteArray) (len : Nat) (z : Nat → Int) : Int := if k = 1 then 0 else if k = 2 then errT s.data.toList else if k = 3 then errL (upTo z len) else 7

set_option maxHeartbeats 1000000 in
theorem check_any (k n : Int) (s : ByteArray) (hm : s.size ≤ 281474976710656) (a : Option Addr) (len cap : Nat) (z : Nat → Int) (w : World) (hr : Reads w a len z) :
    Calls Tryz.prog 109 #[val k n s (.slice a len cap)] w fun e w' => e = .returned (.int .i64 (errV k s len z)) ∧ Below w.heap.size w w' := by
  unfold val
  have hr1 : ∀ o, Reads (w.alloc o) a len z := fun o => hr.kept ((Below.refl _ _).alloc (Nat.le_refl _) _)
  have hr2 := Lib.hid hr1
  clear hr1
  by_cases h1 : k = 1
  · subst h1
    go_enter Tryz.func109, Tryz.ntmps109
    go_wp2_with fail
    go_ret
    exact ⟨rfl, (Below.refl _ _).alloc (Nat.le_refl _) _⟩
  have h1' : (k == 1) = false := by simpa using h1
  by_cases h2 : k = 2
  · subst h2
    go_enter Tryz.func109, Tryz.ntmps109
    go_wp2_with (go_at_call 127; refine (checkText_any s hm _).mono ?_; rintro e w' ⟨rfl, rfl⟩)
    go_ret
    exact ⟨rfl, (Below.refl _ _).alloc (Nat.le_refl _) _⟩
  have h2' : (k == 2) = false := by simpa using h2
  by_cases h3 : k = 3
  · subst h3
    go_enter Tryz.func109, Tryz.ntmps109
    go_wp2_with (go_at_call 128; refine (checkList_any a len cap z _ (hr2.out _)).mono ?_; rintro e w' ⟨rfl, nn, rfl⟩)
    go_ret
    exact ⟨rfl, ((Below.refl _ _).alloc (Nat.le_refl _) _).trans ⟨rfl, rfl, rfl, Nat.le_refl _, fun _ _ => rfl⟩⟩
  have h3' : (k == 3) = false := by simpa using h3
  have R := Lib.hid (show errV k s len z = 7 by unfold errV; rw [if_neg h1, if_neg h2, if_neg h3])
  clear h1 h2 h3
  go_enter Tryz.func109, Tryz.ntmps109
  go_wp2_with fail
  go_ret
  exact ⟨ret_i64 R.out.symm, (Below.refl _ _).alloc (Nat.le_refl _) _⟩

theorem four {W : World} {B : Nat} {x0 x1 x2 x3 : Value} {t : TypeId} (h : W.heap[B]? = some (.cells #[x0, x1, x2, x3] t (0, 0))) :
    (W.cell? ⟨B, 0, none⟩ = some x0 ∧ W.cell? ⟨B, 1, none⟩ = some x1 ∧ W.cell? ⟨B, 2, none⟩ = some x2 ∧ W.cell? ⟨B, 3, none⟩ = some x3) ∧
    (W.frozen? ⟨B, 0, none⟩ = false ∧ W.frozen? ⟨B, 1, none⟩ = false ∧ W.frozen? ⟨B, 2, none⟩ = false ∧ W.frozen? ⟨B, 3, none⟩ = false) := by
  refine ⟨⟨?_, ?_, ?_, ?_⟩, ?_, ?_, ?_, ?_⟩ <;> simp [World.cell?, World.frozen?, h]

end Go.Proofs.YtpdobbdbmgeoiaaGreat
