/-
  No statement: the contracts of listText and Text of package value.
-/
import Derived.Test.YtgcjfalgngiebaaGreatDoorVRead
import Derived.Test.YtgcjfalgngiebaaGreatDoorVCheck
import Derived.Lib.ItoaLen
import Derived.Laws.BytesString
import Derived.RangeFuncBox
import Derived.Maps.AppendAt
namespace Go.Proofs.YtgcjfalgngiebaaGreatDoor
open Go.RowKit

/-- The first k numbers of a list, told one behind the other. -/
def listPre (z : Nat → Int) : Nat → List UInt8
  | 0 => [91]
  | k + 1 => (listPre z k ++ if k = 0 then [] else [32]) ++ Lib.itoa (z k)

/-- What Text answers of a list. -/
def listT (z : Nat → Int) (n : Nat) : List UInt8 := listPre z n ++ [93]

theorem listPre_len (z : Nat → Int) (hz : ∀ j, In64 (z j)) (k : Nat) : (listPre z k).length ≤ 1 + 22 * k := by
  induction k with
  | zero => simp [listPre]
  | succ k ih =>
    have := Lib.itoa_length_le (z k) (hz k).1 (hz k).2
    rw [listPre, List.length_append, List.length_append]
    split <;> simp <;> omega

theorem infoB : (Tryz.prog.info? 5).map (fun i => (i.zero, i.size, i.bytes)) = some (some (.int .u8 0), 1, 1) := by kernel_rfl

theorem convert_owned {W : World} {B g n cap : Nat} {l : List UInt8} (h : W.ownsRow B 5 1 (.slice (some ⟨g, 0, none⟩) n cap) n (Lib.byteCells l)) (hl : l.length = n) :
    (convert 85 9 (.slice (some ⟨g, 0, none⟩) n cap)).run Tryz.prog W = .ok (.string ⟨l.toArray⟩) W := by
  subst hl
  refine run_convert_bytes_back W 85 9 5 ⟨g, 0, none⟩ cap l Tryz.underlying85 Tryz.underlying5 Tryz.underlying9 (fun j hj => ?_)
  rcases h.2 with ⟨h1, _⟩ | ⟨g', cap', cur, h1, _, hg, hn, hm, hs, ht⟩
  · simp at h1
  · simp only [Value.slice.injEq, Option.some.injEq, Addr.mk.injEq] at h1
    obtain ⟨⟨rfl, -⟩, -⟩ := h1
    rw [Nat.mul_one] at ht
    have hj2 : (cur.toList.take l.length)[j]? = some (.int .u8 (l[j].toNat)) := by
      rw [ht, Lib.byteCells, List.getElem?_map, List.getElem?_eq_getElem hj]; rfl
    rw [List.getElem?_take, if_pos hj] at hj2
    rw [Addr.add_lit, Nat.zero_add, cell_of_row W g j cur _ (0, 0) hg]
    simpa using hj2

theorem row_slice {W : World} {base : Nat} {e : TypeId} {size : Nat} {v : Value} {k : Nat} {xs : List Value} (h : W.ownsRow base e size v k xs) : ∃ a cap, v = .slice a k cap := by
  rcases h.2 with ⟨rfl, rfl⟩ | ⟨g, cap, _, rfl, _⟩
  · exact ⟨_, _, rfl⟩
  · exact ⟨_, _, rfl⟩

theorem LaidT.tab {B : Nat} {w : World} {nm : String} (hg : Tryz.prog.globalNamed nm = some 1) (h : LaidT w) (hB : 1 < B) : Lib.TabBelow Tryz.prog B w nm .u64 Lib.pow10Tab := fun w' hb => by
  obtain ⟨t, f, h0⟩ := h.below hb hB
  exact var_of hg h0

theorem append_any (B n : Nat) (i : Int) (hi : In64 i) (sv : Value) (xs : List UInt8) (w : World) (hown : w.ownsRow B 5 1 sv n (Lib.byteCells xs)) (hBw : B ≤ w.heap.size) (hlim : n + 21 ≤ 140737488355328) (hw : LaidT w) (h8 : 1 < B) :
    Calls Tryz.prog 65 #[sv, .int .i64 i, .int .i64 10] w fun e w' => ∃ v', e = .returned v' ∧ w'.ownsRow B 5 1 v' (n + (Lib.itoa i).length) (Lib.byteCells (xs ++ Lib.itoa i)) ∧ Below B w w' := by
  refine (Tryz.strconv_AppendInt_10 B n i hi.1 hi.2 sv _ w hown hBw hlim (hw.tab (by kernel_rfl) h8)).mono ?_
  rintro e w' ⟨v', rfl, h1, h2, _⟩
  exact ⟨v', rfl, by rw [Lib.byteCells_append]; exact h1, h2⟩

set_option maxRecDepth 100000 in
set_option maxHeartbeats 4000000 in
theorem listText_any (a : Option Addr) (len cap : Nat) (z : Nat → Int) (hz : ∀ j, In64 (z j)) (hl : len ≤ 1000) (w : World) (hr : Reads w a len z) (hw : LaidT w) (h8 : 1 < w.heap.size) :
    Calls Tryz.prog 67 #[.slice a len cap] w fun e w' => e = .returned (.string ⟨(listT z len).toArray⟩) ∧ Below w.heap.size w w' := by
  obtain ⟨B, hB⟩ : ∃ B, w.heap.size = B := ⟨_, rfl⟩
  rw [hB] at h8 ⊢
  obtain ⟨i0, hi, hz0, hz1, hz2⟩ := info_parts infoB
  obtain ⟨hmx, hr⟩ := hr
  clear hmx
  have H := Lib.hid hr
  have Z := Lib.hid hz
  have LW := Lib.hid hw
  have own0 : (w.alloc (.cells #[.int .u8 91] 5)).ownsRow B 5 1 (.slice (some ⟨B, 0, none⟩) 1 1) (listPre z 0).length (Lib.byteCells (listPre z 0)) := by
    refine ⟨by simp [listPre, Lib.byteCells], .inr ⟨B, 1, #[.int .u8 91], rfl, Nat.le_refl _, ?_, Nat.le_refl _, by unfold maxLen; omega, rfl, rfl⟩⟩
    rw [← hB]; exact World.alloc_heap_new w _
  have O := Lib.hid own0
  have hbl : Below B w (w.alloc (.cells #[.int .u8 91] 5)) := (Below.refl _ _).alloc (by omega) _
  have BL := Lib.hid hbl
  clear hr hz hw own0 hbl
  go_enter Tryz.func67, Tryz.ntmps67
  go_wp2
  go_loopw [3, 9] (fun v i wr => ∃ k : Nat, k ≤ len ∧ i = .int .i64 k ∧ Hid (wr.ownsRow B 5 1 v (listPre z k).length (Lib.byteCells (listPre z k))) ∧ Hid (Below B w wr)) (fun _ i _ => len - (intOf i).toNat)
  case atStart => exact ⟨0, Nat.zero_le _, rfl, O, BL⟩
  case round =>
    obtain ⟨k, hk, rfl, ho, hb⟩ := hrel
    have hsz : B ≤ wr.heap.size := by have := hb.out.size; omega
    have LR := Lib.hid (LW.out.below hb.out h8)
    have hp := Lib.hid (listPre_len z Z.out k)
    obtain ⟨p, hpp⟩ : ∃ p, listPre z k = p := ⟨_, rfl⟩
    have hpn := Lib.hid hpp
    rw [hpp] at ho hp
    clear hpp
    by_cases hlt : k < len
    · rcases H.out with h0 | ⟨b, off, rfl, hc⟩
      · omega
      · have hc0 := hc k hlt
        have hbB : b < B := by have := World.block_lt_of_cell? w _ hc0; simp at this; omega
        have g1 : wr.cell? ⟨b, off + k, none⟩ = some (.int .i64 (z k)) := (hb.out.cell (p := ⟨b, off + k, none⟩) hbB).trans hc0
        obtain ⟨x, hx⟩ : ∃ x, z k = x := ⟨_, rfl⟩
        have hx64 : In64 x := by rw [← hx]; exact Z.out k
        have X := Lib.hid hx64
        rw [hx] at g1
        have hx1 := Lib.hid hx
        obtain ⟨a1, cap1, rfl⟩ := row_slice ho.out
        clear hc hc0 hx hx64
        by_cases k0 : k = 0
        · have e1 := Lib.hid (show listPre z (k + 1) = p ++ Lib.itoa x by rw [listPre, if_pos k0, List.append_nil, hx1.out, hpn.out])
          have kz : decide (0 < k) = false := by simp; omega
          clear k0
          go_wp2_with fail
          refine (append_any B _ x X.out _ p _ ho.out hsz (by have := hp.out; omega) LR.out (by omega)).mono ?_
          rintro e w3 ⟨v', rfl, o3, b3⟩
          have o4 := Lib.hid o3
          have b4 := Lib.hid b3
          clear o3 b3
          go_wp2_with fail
          go_roundw
          case rel => exact ⟨k + 1, by omega, by go_num, Lib.hid (by rw [e1.out, List.length_append]; exact o4.out), Lib.hid (hb.out.trans b4.out)⟩
          case measure => simp [intOf]; omega
        · have hkp : 0 < k := by omega
          have e1 := Lib.hid (show listPre z (k + 1) = (p ++ [32]) ++ Lib.itoa x by rw [listPre, if_neg k0, hx1.out, hpn.out])
          have hml := Lib.hid (show p.length + 1 ≤ maxLen by have := hp.out; unfold maxLen; omega)
          clear k0
          go_wp2_with (at_builtin; refine wpList_append_own _ rfl _ _ 85 rfl B 5 i0 (.int .u8 0) 1 1 Tryz.underlying85 hi hz0 hz1 hz2 rfl (by decide) _ _ _ rfl (ho.out.alloc _) ⟨wr.heap.size, 0, none⟩ 1 1 [.int .u8 32] rfl rfl (cell_one_new _ _ _) (by simp [Value.oneCell']) hml.out (by have := hp.out; omega) (by simp; omega) ?_; intro v2 w2 hown2 hgrow2 _; have O2 := Lib.hid hown2; have G2 := Lib.hid hgrow2; clear hown2 hgrow2)
          have o2 : w2.ownsRow B 5 1 v2 (p ++ [32]).length (Lib.byteCells (p ++ [32])) := by
            rw [List.length_append, Lib.byteCells_append]; exact O2.out
          have b2 : Below B w w2 := (hb.out.alloc hsz _).grown G2.out (by simp; omega) (fun j e => by
            rcases ho.out.2 with ⟨h1, _⟩ | ⟨g, cap, cur, h1, hg, _⟩
            · rw [h1] at e; cases e
            · rw [h1] at e; cases e; exact hg)
          have O3 := Lib.hid o2
          have B2 := Lib.hid b2
          have L2 := Lib.hid (LW.out.below b2 h8)
          have hs2 : B ≤ w2.heap.size := by have := b2.size; omega
          clear o2 b2
          refine (append_any B _ x X.out _ (p ++ [32]) _ O3.out hs2 (by have := hp.out; simp; omega) L2.out (by omega)).mono ?_
          rintro e w3 ⟨v', rfl, o3, b3⟩
          have o4 := Lib.hid o3
          have b4 := Lib.hid b3
          clear o3 b3
          go_wp2_with fail
          go_roundw
          case rel => exact ⟨k + 1, by omega, by go_num, Lib.hid (by rw [e1.out, List.length_append]; exact o4.out), Lib.hid (B2.out.trans b4.out)⟩
          case measure => simp [intOf]; omega
    · obtain rfl : k = len := by omega
      obtain ⟨a1, cap1, rfl⟩ := row_slice ho.out
      have hml := Lib.hid (show p.length + 1 ≤ maxLen by have := hp.out; unfold maxLen; omega)
      have R := Lib.hid (show listT z k = p ++ [93] by unfold listT; rw [hpn.out])
      go_wp2_with (at_builtin; refine wpList_append_own _ rfl _ _ 85 rfl B 5 i0 (.int .u8 0) 1 1 Tryz.underlying85 hi hz0 hz1 hz2 rfl (by decide) _ _ _ rfl (ho.out.alloc _) ⟨wr.heap.size, 0, none⟩ 1 1 [.int .u8 93] rfl rfl (cell_one_new _ _ _) (by simp [Value.oneCell']) hml.out (by have := hp.out; omega) (by simp; omega) ?_; intro v2 w2 hown2 hgrow2 _; obtain ⟨g2, cap2, rfl⟩ := ownsRow_succ hown2; have hcv := convert_owned (l := p ++ [93]) (by rw [Lib.byteCells_append]; exact hown2) (by simp); have G2 := Lib.hid hgrow2; clear hown2 hgrow2)
      go_ret
      refine ⟨by rw [R.out]; rfl, ?_⟩
      exact (hb.out.alloc hsz _).grown G2.out (by simp; omega) (fun j e => by
            rcases ho.out.2 with ⟨h1, _⟩ | ⟨g, cap, cur, h1, hg, _⟩
            · rw [h1] at e; cases e
            · rw [h1] at e; cases e; exact hg)

/-- What Text answers. -/
def textV (k n : Int) (s : ByteArray) (len : Nat) (z : Nat → Int) : List UInt8 :=
  if k = 1 then Lib.itoa n else if k = 2 then [34] ++ s.data.toList ++ [34] else if k = 3 then listT z len else []

theorem ret_str {a b : ByteArray} (h : a.data.toList = b.data.toList) : Ending.returned (.string a) = .returned (.string b) := by
  rw [text_eq h]

set_option maxRecDepth 100000 in
set_option maxHeartbeats 2000000 in
theorem text_any (k n : Int) (hn : In64 n) (s : ByteArray) (hm : s.size ≤ 281474976710656) (a : Option Addr) (len cap : Nat) (z : Nat → Int) (hz : ∀ j, In64 (z j)) (hl : len ≤ 1000) (w : World) (hr : Reads w a len z) (hw : LaidT w) (h8 : 1 < w.heap.size) :
    Calls Tryz.prog 45 #[val k n s (.slice a len cap)] w fun e w' => e = .returned (.string ⟨(textV k n s len z).toArray⟩) ∧ Below w.heap.size w w' := by
  unfold val
  have bl : ∀ o, Below w.heap.size w (w.alloc o) := fun o => (Below.refl _ _).alloc (Nat.le_refl _) _
  by_cases e1 : k = 1
  · have R := Lib.hid (show textV k n s len z = Lib.itoa n by unfold textV; rw [if_pos e1])
    have C := Lib.hid (fun o => format_any n hn (w.alloc o) (hw.below (bl o) h8))
    have BL := Lib.hid bl
    clear bl hr hw hz hn
    subst e1
    go_enter Tryz.func45, Tryz.ntmps45
    go_wp2_with (go_at_call 66; refine (C.out _).mono ?_; rintro e w1 ⟨rfl, hb⟩; have hb1 := Lib.hid hb; clear hb)
    go_ret
    exact ⟨by rw [R.out]; rfl, (BL.out _).trans (hb1.out.mono (by simp))⟩
  have q1 : (k == 1) = false := by simpa using e1
  by_cases e2 : k = 2
  · have R := Lib.hid (show textV k n s len z = [34] ++ s.data.toList ++ [34] by unfold textV; rw [if_neg e1, if_pos e2])
    have BL := Lib.hid bl
    clear bl hr hw hz hn e1 q1
    subst e2
    go_enter Tryz.func45, Tryz.ntmps45
    go_wp2_with fail
    go_ret
    refine ⟨ret_str ?_, BL.out _⟩
    rw [R.out]
    simp
  have q2 : (k == 2) = false := by simpa using e2
  by_cases e3 : k = 3
  · have R := Lib.hid (show textV k n s len z = listT z len by unfold textV; rw [if_neg e1, if_neg e2, if_pos e3])
    have C := Lib.hid (fun o => listText_any a len cap z hz hl (w.alloc o) (hr.kept (bl o)) (hw.below (bl o) h8) (by simp; omega))
    have BL := Lib.hid bl
    clear bl hr hw hz hn e1 e2 q1 q2
    subst e3
    go_enter Tryz.func45, Tryz.ntmps45
    go_wp2_with (go_at_call 67; refine (C.out _).mono ?_; rintro e w1 ⟨rfl, hb⟩; have hb1 := Lib.hid hb; clear hb)
    go_ret
    exact ⟨by rw [R.out]; rfl, (BL.out _).trans (hb1.out.mono (by simp))⟩
  have q3 : (k == 3) = false := by simpa using e3
  have R := Lib.hid (show textV k n s len z = [] by unfold textV; rw [if_neg e1, if_neg e2, if_neg e3])
  have BL := Lib.hid bl
  clear bl hr hw hz hn e1 e2 e3
  go_enter Tryz.func45, Tryz.ntmps45
  go_wp2_with fail
  go_ret
  exact ⟨by rw [R.out]; rfl, BL.out _⟩

end Go.Proofs.YtgcjfalgngiebaaGreatDoor
