/-
  No statement: the walk of cantonlaw1.MapPlaces: it returns true and turns nothing that was there.
-/
import Derived.Test.YtbfnoflemmneoaaKnown
import Derived.Test.YtbfnoflemmneoaaUseSB
import Derived.Test.YtbfnoflemmneoaaArgs
namespace Go.Proofs.Ytbfnoflemmneoaa
open Go.RowKit

/-- Loop 1: the first k texts lie in the map, each with true. -/
def Pl1 (W wr : World) (p : Nat) (k : Nat) : Prop :=
  ∃ ks, Sep W wr [ObSB p ks (ks.map fun _ => true)] ∧ Rising lsS ks ∧ ks.length ≤ k

set_option maxHeartbeats 2000000 in
set_option maxRecDepth 100000 in
theorem places_walk (a0 : Option Addr) (len cap : Nat) (Sx : Nat → ByteArray) (W : World) (hl : IsStrs W a0 len Sx) :
    Calls Try.prog 5 #[.slice a0 len cap] W fun e w' => e = .returned (.bool true) ∧ Kept (fun _ => False) W w' := by
  obtain ⟨hm, hsz, hcells⟩ := hl
  unfold maxLen at hm hsz
  by_cases h60 : 60 < len
  · go_enter Try.func5, Try.ntmps5
    go_wp2_with (go_at_call 7; refine (known_any _).mono ?_; rintro e w1 ⟨rfl, hk⟩)
    go_ret
    exact ⟨rfl, hk⟩
  have HC := Lib.hid hcells
  have HZ := Lib.hid hsz
  clear hcells hsz
  go_enter Try.func5, Try.ntmps5
  go_wp2_with (go_at_call 7; refine (known_any _).mono ?_; rintro e w1 ⟨rfl, hk⟩)
  refine (sNewSB (Sep.start W |>.kept hk)).mono ?_
  rintro e w2 ⟨p, rfl, S⟩
  have S2 := Lib.hid S
  clear S hk
  go_wp2_with fail
  go_loopw [4] (fun i wr => ∃ k : Nat, k ≤ len ∧ i = .int .i64 k ∧ Hid (Pl1 W wr p k)) (fun i _ => len - (intOf i).toNat)
  case atStart => exact ⟨0, Nat.zero_le _, rfl, [], S2.out, List.Pairwise.nil, Nat.le_refl _⟩
  case round =>
    obtain ⟨k, hk, rfl, T⟩ := hrel
    clear S2
    obtain ⟨ks, S, hr, hn⟩ := T.out
    have HS := Lib.hid (p := Rising lsS ks ∧ ks.length ≤ k) ⟨hr, hn⟩
    have S3 := Lib.hid S
    clear hr hn T S
    by_cases hlt : k < len
    · obtain ⟨b, off, rfl, hc⟩ := HC.out.resolve_left (by omega)
      have ck := S3.out.old (hc k hlt)
      have hys := HZ.out k hlt
      generalize Sx k = y at ck hys
      clear hc
      by_cases hy100 : 100 < y.size
      · go_wp2
        go_ret
        exact ⟨rfl, S3.out.1⟩
      go_wp2_with fail
      go_at_call 25
      refine (sPutSB y true S3.out (by have := HS.out.2; omega) HS.out.1).mono ?_
      rintro e w3 ⟨rfl, S⟩
      rw [putV_map strictS (fun _ => true) HS.out.1 y] at S
      have S4 := Lib.hid S
      clear S ck
      go_wp2
      go_roundw
      case rel =>
        refine ⟨k + 1, by omega, by go_num, Lib.hid ⟨_, S4.out, rising_putK strictS HS.out.1 y, ?_⟩⟩
        have := length_putK_le (less := lsS) ks y
        have := HS.out.2
        omega
      case measure => simp [intOf]; omega
    · obtain rfl : k = len := by omega
      have hn60 : ks.length ≤ 60 := by have := HS.out.2; omega
      obtain ⟨n, hnn⟩ : ∃ n, ks.length = n := ⟨_, rfl⟩
      have hk1 : ks.length ≤ 1000000 := by omega
      rw [hnn] at hn60
      have HN := Lib.hid hnn
      have K := sKeysSB S3.out (List.Mem.head _) hk1
      rw [hnn] at K
      go_wp2_with fail
      go_at_call 26
      refine K.mono ?_
      clear K hnn
      rintro e w4 ⟨g, c, rfl, S⟩
      have S4 := Lib.hid S
      have hrow := S.row (List.Mem.head _)
      clear S S3
      go_wp2_with fail
      go_loopw [6] (fun i wr => ∃ k2 : Nat, k2 ≤ n ∧ i = .int .i64 k2 ∧ Hid (Sep W wr [RowOb 9 (.slice (some ⟨g, 0, none⟩) n c) n (ks.map Value.string), ObSB p ks (ks.map fun _ => true)])) (fun i _ => n - (intOf i).toNat)
      case atStart => exact ⟨0, Nat.zero_le _, rfl, S4⟩
      case round =>
        obtain ⟨k2, hk2, rfl, S5⟩ := hrel
        clear S4 hrow
        by_cases hlt : k2 < n
        · have hx : ks[k2]? = some (ks[k2]'(by rw [HN.out]; exact hlt)) := List.getElem?_eq_getElem _
          generalize ks[k2]'(by rw [HN.out]; exact hlt) = x at hx
          have hxm : x ∈ ks := List.mem_of_getElem? hx
          have hxp : pos lsS ks x = k2 := pos_of_at strictS HS.out.1 hx
          have A := sAtSB (k := x) (v := true) S5.out (List.Mem.tail _ (List.Mem.head _)) hk1 hx (by rw [List.getElem?_map, hx]; rfl)
          have FL := fun (w : World) (S : Sep W w [RowOb 9 (.slice (some ⟨g, 0, none⟩) n c) n (ks.map Value.string), ObSB p ks (ks.map fun _ => true)]) => sFloorSB (x := x) S (List.Mem.tail _ (List.Mem.head _)) hk1 HS.out.1
          have CE := fun (w : World) (S : Sep W w [RowOb 9 (.slice (some ⟨g, 0, none⟩) n c) n (ks.map Value.string), ObSB p ks (ks.map fun _ => true)]) => sCeilSB (x := x) S (List.Mem.tail _ (List.Mem.head _)) hk1 HS.out.1
          have e1 : belowK lsS ks x = some x := by unfold belowK; rw [if_pos ((has_iff ks x).2 hxm)]
          rw [e1] at FL
          rw [hxp, hx] at CE
          have HA := Lib.hid A
          have HF := Lib.hid FL
          have HE := Lib.hid CE
          have HR := Lib.hid (p := ∀ w', Sep W w' [RowOb 9 (.slice (some ⟨g, 0, none⟩) n c) n (ks.map Value.string), ObSB p ks (ks.map fun _ => true)] → w'.cell? ⟨g, k2, none⟩ = some (.string x)) (fun w' S => S.cell (List.Mem.head _) (by rw [List.getElem?_map, hx]; rfl))
          have c5 := HR.out _ S5.out
          clear A FL CE e1 hxm hxp hx
          go_wp2_with fail
          go_at_call 27
          refine HA.out.mono ?_
          rintro e w5 ⟨rfl, S⟩
          have S6 := Lib.hid S
          have c6 := HR.out _ S
          clear S S5 c5
          go_wp2_with fail
          go_at_call 28
          refine (HF.out _ S6.out).mono ?_
          rintro e w6 ⟨rfl, S⟩
          have S7 := Lib.hid S
          have c7 := HR.out _ S
          clear S S6 c6
          go_wp2_with fail
          go_at_call 29
          refine (HE.out _ S7.out).mono ?_
          rintro e w7 ⟨rfl, S⟩
          have S8 := Lib.hid S
          have c8 := HR.out _ S
          clear S S7 c7
          go_wp2
          go_roundw
          case rel => exact ⟨k2 + 1, by omega, by go_num, S8⟩
          case measure => simp [intOf]; omega
        · obtain rfl : k2 = n := by omega
          have A := sAtOutSB (i := (k2 : Int)) S5.out (List.Mem.tail _ (List.Mem.head _)) hk1 (Or.inr (by have := HN.out; omega))
          go_wp2_with fail
          go_at_call 27
          refine A.mono ?_
          clear A
          rintro e w5 ⟨rfl, S⟩
          have S6 := Lib.hid S
          clear S S5
          have A := sAtOutSB (i := -1) S6.out (List.Mem.tail _ (List.Mem.head _)) hk1 (Or.inl (by omega))
          go_wp2_with fail
          go_at_call 27
          refine A.mono ?_
          clear A
          rintro e w6 ⟨rfl, S⟩
          have S7 := Lib.hid S
          clear S S6
          go_wp2
          go_ret
          exact ⟨rfl, S7.out.1⟩

end Go.Proofs.Ytbfnoflemmneoaa
