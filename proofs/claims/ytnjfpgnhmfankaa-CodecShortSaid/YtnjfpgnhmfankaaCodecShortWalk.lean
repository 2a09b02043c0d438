/-
  No statement: the walk of the law CodecShort.
-/
import Derived.Test.YtnjfpgnhmfankaaCKnownW
import Derived.Test.YtnjfpgnhmfankaaCTurn
import Derived.Test.YtnjfpgnhmfankaaRPut
namespace Go.Proofs.Ytnjfpgnhmfankaa
open Go.RowKit

theorem str_list (s : ByteArray) : (⟨s.data.toList.toArray⟩ : ByteArray) = s := by cases s; simp

theorem bsize (s : ByteArray) : s.data.toList.length = s.size := by rw [Array.length_toList]; rfl

theorem newText (w : World) (s : ByteArray) (hs : s.size ≤ 1000000) : Calls Try.prog 9 #[.pointer (some ⟨w.heap.size, 0, none⟩), .slice (some ⟨w.heap.size + 1, 0, none⟩) 1 1] ((w.alloc (.cells #[.slice none 0 0] 27)).alloc (.cells #[.string s] 9)) fun e w' =>
    e = .returned (.tuple #[]) ∧ EncN w w' w.heap.size (encT s.data.toList) := by
  have hl := bsize s
  have h := (EncN.new w).texts [s.data.toList] (by simp only [List.mem_singleton, forall_eq]; omega) (by simp) (by simp)
  have e : ([] : List UInt8) ++ encts [s.data.toList] = encT s.data.toList := by simp [encts]
  rw [e, World.size_alloc] at h
  simp only [List.map_cons, List.map_nil, str_list] at h
  exact h

theorem dText_cut (s : List UInt8) (hs : s.length ≤ 1000000) {j : Nat} (hj : j < (encT s).length) : dText ((encT s).take j, 0) = ([], [], 3) := by
  have h0 : -9223372036854775808 ≤ ((s.length : Nat) : Int) := by omega
  have h1 : ((s.length : Nat) : Int) ≤ 9223372036854775807 := by omega
  unfold encT at hj ⊢
  by_cases hc : j < (encI (s.length : Nat)).length
  · rw [List.take_append_of_le_length (by omega)]
    have e : dNum 0 9223372036854775807 ((encI (s.length : Nat)).take j, 0) = (0, [], 3) := by
      unfold dNum
      rw [show (((encI (s.length : Nat)).take j, 0) : DS).1 = (encI (s.length : Nat)).take j from rfl, fst_cut h0 h1 hc]
      rfl
    unfold dText
    rw [e]
    rfl
  · obtain ⟨i, rfl⟩ : ∃ i, j = (encI (s.length : Nat)).length + i := ⟨j - (encI (s.length : Nat)).length, by omega⟩
    rw [List.take_length_add_append]
    rw [List.length_append] at hj
    unfold dText
    rw [dNum_enc h0 h1 (by omega) h1]
    simp only
    rw [if_pos (by rw [List.length_take]; omega)]
    rfl

theorem dInt_more {n : Int} (h0 : -9223372036854775808 ≤ n) (h1 : n ≤ 9223372036854775807) {c : UInt8} (hc : 128 ≤ c.toNat) : dInt ((encI n).dropLast ++ [c, 0], 0) = (0, [], 2) := by
  unfold dInt dNum
  rw [show (((encI n).dropLast ++ [c, 0], 0) : DS).1 = (encI n).dropLast ++ [c, 0] from rfl, fst_more h0 h1 hc]
  rfl

theorem encI_pos (n : Int) : 1 ≤ (encI n).length := Lib.uvarint_pos _

theorem set_last : ∀ (l : List UInt8) (y : UInt8), 1 ≤ l.length → l.set (l.length - 1) y = l.dropLast ++ [y]
  | [], _, h => by simp at h
  | [a], y, _ => rfl
  | a :: b :: r, y, _ => by
    have := set_last (b :: r) y (by simp)
    rw [List.dropLast_cons_of_ne_nil (by simp), List.cons_append, ← this]
    simp

set_option maxRecDepth 100000 in
set_option maxHeartbeats 4000000 in
theorem codecShort_walk (s : ByteArray) (cut n : Int) (hs : s.size ≤ maxLen) (hcut : -9223372036854775808 ≤ cut ∧ cut ≤ 9223372036854775807) (hn : -9223372036854775808 ≤ n ∧ n ≤ 9223372036854775807) (w : World) :
    Calls Try.prog 7 #[.string s, .int .i64 cut, .int .i64 n] w fun e w' => e = .returned (.bool true) ∧ Below w.heap.size w w' := by
  obtain ⟨i0, hi, hz0, hz1, hz2⟩ := info_parts infoB
  have und := undB
  have hs' : s.size ≤ 9223372036854775807 := hs
  clear hs
  obtain ⟨hc0, hc1⟩ := hcut
  go_enter Try.func7, Try.ntmps7
  go_wp2_with fail
  refine (known_any w).mono ?_
  rintro e w1 ⟨rfl, hb1⟩
  have B1 := Lib.hid hb1
  clear hb1
  by_cases hl : 300 < s.size
  · go_wp2_with fail
    go_ret
    exact ⟨rfl, B1.out⟩
  by_cases hneg : cut < 0
  · go_wp2_with fail
    go_ret
    exact ⟨rfl, B1.out⟩
  go_wp2_with fail
  refine (newText w1 s (by omega)).mono ?_
  rintro e w2 ⟨rfl, hE⟩
  have E2 := Lib.hid hE
  clear hE
  have hsl := bsize s
  have DC := Lib.hid (fun (j : Nat) hj => dText_cut s.data.toList (by omega) (j := j) hj)
  have hTl : 1 ≤ (encT s.data.toList).length ∧ (encT s.data.toList).length ≤ 1000 := by
    have h1 := encI_pos (s.data.toList.length : Nat)
    have h2 := encI_len (n := (s.data.toList.length : Nat)) (by omega) (by omega)
    unfold encT
    rw [List.length_append]; omega
  obtain ⟨T, hT⟩ : ∃ T, encT s.data.toList = T := ⟨_, rfl⟩
  rw [hT] at E2 DC hTl
  obtain ⟨hT1, hT2⟩ := hTl
  clear hT hsl
  go_wp2_with fail
  refine (E2.out.bytes (by omega)).mono ?_
  rintro e w3 ⟨a3, c3, rfl, ho, hb⟩
  have O3 := Lib.hid ho
  have B3 := Lib.hid (B1.out.trans ((E2.out.2.trans (hb.mono E2.out.2.size)).mono B1.out.size))
  have hcap : T.length ≤ c3 := ho.br.1
  have hcapm : c3 ≤ 9223372036854775807 := by have := ho.br.2.1; unfold maxLen at this; omega
  obtain ⟨j, hj, hjl⟩ : ∃ j : Nat, cut % (T.length : Int) = (j : Int) ∧ j < T.length := by
    refine ⟨(cut % (T.length : Int)).toNat, ?_, ?_⟩
    · have := Int.emod_nonneg cut (show (T.length : Int) ≠ 0 by omega); omega
    · have := Int.emod_lt_of_pos cut (show 0 < (T.length : Int) by omega)
      have := Int.emod_nonneg cut (show (T.length : Int) ≠ 0 by omega)
      omega
  clear ho hb E2
  obtain ⟨g3, rfl⟩ : ∃ g, a3 = some ⟨g, 0, none⟩ := by
    rcases O3.out.2 with ⟨h1, h2⟩ | ⟨g, cap, _, h1, _⟩
    · omega
    · simp only [Value.slice.injEq] at h1; exact ⟨g, h1.1⟩
  have R3 := Lib.hid (O3.out.br.take j)
  have hjt : (T.take j).length = j := by rw [List.length_take]; omega
  have OF := Lib.hid (of_any (some ⟨g3, 0, none⟩) c3 (T.take j) (by omega) w3 R3.out)
  rw [hjt] at OF
  clear hjt
  go_wp2_with fail
  refine OF.out.mono ?_
  rintro e w4 hP
  obtain ⟨q, rfl, hD⟩ := DecN.of hP
  have D4 := Lib.hid hD
  clear hP hD OF
  go_wp2_with fail
  refine D4.out.text.mono ?_
  rw [DC.out j hjl]
  rintro e w5 ⟨rfl, hD, -⟩
  have D5 := Lib.hid hD
  clear hD D4
  go_wp2_with fail
  refine (decErr_any q _ _ w5 D5.out.1).mono ?_
  rintro e w6 ⟨rfl, rfl⟩
  have B6 := Lib.hid (B3.out.trans (D5.out.2.mono B3.out.size))
  clear D5 hj
  go_wp2_with fail
  refine (rPutInt_any n hn.1 hn.2 w6).mono ?_
  rintro e w7 ⟨a7, c7, rfl, ho, hb⟩
  have B7 := Lib.hid (B6.out.trans (hb.mono B6.out.size))
  have O7 := Lib.hid ho
  have hXl := encI_pos n
  have hXm := encI_len hn.1 hn.2
  have DM := Lib.hid (fun (c : UInt8) hc => dInt_more hn.1 hn.2 (c := c) hc)
  have SL := Lib.hid (fun y => set_last (encI n) y hXl)
  obtain ⟨X, hX⟩ : ∃ X, encI n = X := ⟨_, rfl⟩
  rw [hX] at O7 hXl hXm DM SL ⊢
  obtain ⟨g7, rfl⟩ : ∃ g, a7 = some ⟨g, 0, none⟩ := by
    rcases O7.out.2 with ⟨h1, h2⟩ | ⟨g, cap, _, h1, _⟩
    · omega
    · simp only [Value.slice.injEq] at h1; exact ⟨g, h1.1⟩
  clear hX ho hb
  obtain ⟨c0, f0, hg7⟩ := O7.out.at (j := X.length - 1) (by omega)
  have HG7 := Lib.hid hg7
  obtain ⟨x, hx⟩ : ∃ x, X.getD (X.length - 1) 0 = x := ⟨_, rfl⟩
  rw [hx] at c0
  have hxl := byte_lt x
  obtain ⟨y, hy, hyn⟩ : ∃ y : UInt8, bits .or .u8 ((x.toNat : Nat) : Int) 128 = (y.toNat : Nat) ∧ 128 ≤ y.toNat := by
    refine ⟨(x.toNat % 128 + 128).toUInt8, ?_, by rw [Lib.toUInt8_toNat (by omega)]; omega⟩
    rw [Lib.u8_or128_any _ (by omega) (by omega), Lib.toUInt8_toNat (by omega)]
    omega
  have hN : ((X.length : Int) - 1).toNat = X.length - 1 := by omega
  have O8 := Lib.hid (O7.out.set (X.length - 1) y)
  have B8 := Lib.hid (B7.out.setCell (p := ⟨g7, X.length - 1, none⟩) (show w.heap.size ≤ g7 by have := B6.out.size; omega) (.int .u8 (y.toNat : Nat)))
  rw [SL.out y] at O8
  have DN := Lib.hid (DM.out y hyn)
  have OR := Lib.hid (O8.out.row (m := X.length) (by rw [List.length_append, List.length_dropLast]; simp; omega))
  have hw7 : w6.heap.size ≤ w7.heap.size := by have := (O7.out.lt g7 rfl).2; omega
  have NC := Lib.hid (p := ((w7.setCell ⟨g7, X.length - 1, none⟩ (.int .u8 (y.toNat : Nat))).alloc (.cells #[.int .u8 0] 5)).cell? ⟨w7.heap.size, 0, none⟩ = some (.int .u8 0)) (by
    have := heap_alloc_new (w7.setCell ⟨g7, X.length - 1, none⟩ (.int .u8 (y.toNat : Nat))) (.cells #[.int .u8 0] 5)
    rw [World.size_setCell] at this
    rw [cell_of_row _ _ _ _ _ (0, 0) this]; rfl)
  clear hx hg7 hyn
  go_wp2_with (at_builtin; refine wpList_append_from rfl _ _ 25 rfl und hi hz0 hz1 hz2 rfl _ _ X.length 1 _ [.int .u8 0] rfl rfl (OR.out.alloc _) (from_one NC.out) (bC_one [0]) (by unfold maxLen; omega) (by omega) (by rw [World.size_alloc, World.size_setCell]; omega) ?_)
  intro v' w8 ho hg hnn
  clear hnn
  obtain ⟨va', vc', rfl⟩ := own_row_slice ho
  have ho : w8.ownsRow w6.heap.size 5 1 (.slice va' (X.length + 1) vc') (X.length + 1) (bC (X.dropLast ++ [y]) ++ bC [0]) := ho
  rw [← bC_app, List.append_assoc] at ho
  have hml := own_row_len ho
  have B9 := Lib.hid ((B8.out.alloc B8.out.size (.cells #[.int .u8 0] 5)).grown hg (by have := B8.out.size; simp at this ⊢; omega) (fun q hq => by have := (OR.out.lt q hq).1; have := B6.out.size; omega))
  have OF := Lib.hid (show Calls Try.prog 14 #[.slice va' (X.length + 1) vc'] w8 (OfP w8 (X.dropLast ++ [y, 0])) from by
    rw [hml] at ho ⊢
    exact of_any va' vc' _ (by rw [← hml]; omega) w8 (OwnB.br (B := w6.heap.size) ho))
  clear ho hg hml hy hN
  go_wp2_with fail
  refine OF.out.mono ?_
  rintro e w9 hP
  obtain ⟨r, rfl, hD⟩ := DecN.of hP
  have D9 := Lib.hid hD
  clear hP hD OF
  go_wp2_with fail
  refine D9.out.int.mono ?_
  rw [DN.out]
  rintro e w10 ⟨rfl, hD, -⟩
  have D10 := Lib.hid hD
  clear hD D9
  go_wp2_with fail
  refine (decErr_any r _ _ w10 D10.out.1).mono ?_
  rintro e w11 ⟨rfl, rfl⟩
  go_wp2_with fail
  refine (decLeft_any r _ _ w11 D10.out.1).mono ?_
  rintro e w12 ⟨rfl, rfl⟩
  have P := Lib.hid (B9.out.trans (D10.out.2.mono B9.out.size))
  go_wp2_with fail
  go_ret
  exact ⟨rfl, P.out⟩

end Go.Proofs.Ytnjfpgnhmfankaa
