/-
  No statement: list, Drop, Set, Get of package row.
-/
import Derived.Test.YtgcjfalgngiebaaGreatDoorWByName
import Derived.Test.YtgcjfalgngiebaaGreatDoorXOfA
import Derived.Test.YtgcjfalgngiebaaGreatDoorShelf
import Derived.Deep.LoopGhost
namespace Go.Proofs.YtgcjfalgngiebaaGreatDoor
open Go.RowKit

def dA : AD := ⟨⟨#[]⟩, 0, 0, ⟨#[]⟩, 0, fun _ => 0⟩
def dE : AD × VC := (dA, ⟨0, 0, ⟨#[]⟩, none, 0, 0⟩)
/-- The attributes of a list, by place. -/
def atD (D : List AD) (j : Nat) : AD := D.getD j dA

/-- A row of attributes made anew. -/
def ListPost (w : World) (D : List AD) (e : Ending) (w' : World) : Prop :=
  (∃ a c, e = .returned (.slice a D.length c) ∧ ReadsA w' a D.length (atD D)) ∧ Below w.heap.size w w'

/-- The five cells of an attribute that shares its value's list, as a list. -/
def fiveE (e : AD × VC) : List Value := [.string e.1.m, .int .i64 e.2.k, .int .i64 e.2.n, .string e.2.s, .slice e.2.y e.2.len e.2.c]
/-- The cells of the first k attributes. -/
def cellsE (E : List (AD × VC)) (k : Nat) : List Value := cellsA (fun j => let e := E.getD j dE; ⟨e.1.m, e.2.k, e.2.n, e.2.s, e.2.len, e.1.z⟩) (fun j => (E.getD j dE).2.y) (fun j => (E.getD j dE).2.c) k
theorem cellsE_succ {E : List (AD × VC)} {k : Nat} {e : AD × VC} (h : E[k]? = some e) : cellsE E (k + 1) = cellsE E k ++ fiveE e := by
  have : E.getD k dE = e := by simp [List.getD, h]
  unfold cellsE
  rw [cellsA, this]
  rfl
theorem fiveE_one (e : AD × VC) : ∀ u ∈ fiveE e, u.oneCell' = true := by
  intro u hu
  simp only [fiveE, List.mem_cons, List.not_mem_nil, or_false] at hu
  rcases hu with rfl | rfl | rfl | rfl | rfl <;> rfl
theorem new_fiveE (w : World) (e : AD × VC) : ∀ j u, (fiveE e)[j]? = some u → (w.alloc (.cells #[.string e.1.m, .int .i64 e.2.k, .int .i64 e.2.n, .string e.2.s, .slice e.2.y e.2.len e.2.c] 57)).cell? ((⟨w.heap.size, 0, none⟩ : Addr).add j) = some u := fun j u hj => by
  rw [Addr.add_lit, Nat.zero_add, cell_of_row _ _ _ _ _ (0, 0) (heap_alloc_new w _)]
  simpa [fiveE] using hj

theorem readsA_ext {w : World} {a : Option Addr} {n : Nat} {A A' : Nat → AD} (h : ReadsA w a n A) (he : ∀ j, j < n → A j = A' j) : ReadsA w a n A' := by
  refine ⟨h.1, h.2.imp id ?_⟩
  rintro ⟨b, off, rfl, hc⟩
  exact ⟨b, off, rfl, fun j hj => by rw [← he j hj]; exact hc j hj⟩

theorem listEnd {w : World} {F : Nat → Prop} {E : List (AD × VC)} {base : Nat} {t : TypeId} {va : Option Addr} {vl vc : Nat} (h : w.ownsRow base t 5 (.slice va vl vc) E.length (cellsE E E.length)) (hr : ∀ e ∈ E, RO w F e) :
    ∃ a c, Ending.returned (.slice va vl vc) = .returned (.slice a (E.map (·.1)).length c) ∧ ReadsA w a (E.map (·.1)).length (atD (E.map (·.1))) := by
  have hat : ∀ j, j < E.length → (⟨(E.getD j dE).1.m, (E.getD j dE).2.k, (E.getD j dE).2.n, (E.getD j dE).2.s, (E.getD j dE).2.len, (E.getD j dE).1.z⟩ : AD) = atD (E.map (·.1)) j := fun j hj => by
    have hm : E.getD j dE ∈ E := by simp [List.getD, List.getElem?_eq_getElem hj]
    obtain ⟨h1, h2, h3, h4, _⟩ := hr _ hm
    have e0 : atD (E.map (·.1)) j = (E.getD j dE).1 := by simp [atD, List.getD, List.getElem?_eq_getElem hj]
    rw [e0, h1, h2, h3, h4]
  obtain ⟨a, c, hv, hA⟩ := readsA_own h (fun j hj => by
    have hm : E.getD j dE ∈ E := by simp [List.getD, List.getElem?_eq_getElem hj]
    obtain ⟨_, _, _, h4, h5, _⟩ := hr _ hm
    show Reads w _ (E.getD j dE).2.len _
    rw [h4]; exact h5)
  refine ⟨a, c, by rw [hv, List.length_map], ?_⟩
  rw [List.length_map]
  exact readsA_ext hA hat

theorem listInfo : (Tryz.prog.info? 57).map (fun i => (i.zero, i.size, i.bytes)) = some (some (.agg #[.string ⟨#[]⟩, .int .i64 0, .int .i64 0, .string ⟨#[]⟩, .slice none 0 0]), 5, 72) := by kernel_rfl

set_option maxRecDepth 100000 in
set_option maxHeartbeats 4000000 in
theorem list_any (p : Nat) (F : Nat → Prop) (E : List (AD × VC)) (hn : E.length ≤ 1000) (w : World) (h : MapE w p F E) :
    Calls Tryz.prog 27 #[.pointer (some ⟨p, 0, none⟩)] w (ListPost w (E.map (·.1))) := by
  obtain ⟨i0, hi, hz0, hz1, hz2⟩ := info_parts listInfo
  have und : Tryz.prog.underlying 24 = some (.slice 57) := Tryz.underlying24
  have hl : (nmE E).length = E.length := by simp [nmE]
  have LN := Lib.hid (p := ∀ w', Kept (fun _ => False) w w' → Calls Tryz.prog 26 #[.pointer (some ⟨p, 0, none⟩)] w' fun e w'' => e = .returned (.int .i64 (E.length : Nat)) ∧ w' = w'') (fun w' k => by have := lenSV w' p F (nmE E) (E.map (·.2)) (h.kept k).2.1; rwa [hl] at this)
  have H := Lib.hid h
  clear h hl
  go_enter Tryz.func27, Tryz.ntmps27
  go_wp2_with fail
  refine (LN.out _ (Kept.refl _ _)).mono ?_
  rintro e w1 ⟨rfl, rfl⟩
  go_wp2_with (at_make; refine wpList_make_own _ rfl _ _ 24 rfl w.heap.size 57 i0 _ 5 und hi hz0 hz1 .i64 .i64 _ E.length rfl rfl rfl (by rw [hz2]; omega) (by unfold maxLen; omega) (Nat.le_refl _) ?_)
  intro w2 ho hg
  have O2 := Lib.hid ho
  have B2 := Lib.hid (p := Below w.heap.size w w2) ((Below.refl _ _).grown hg (Nat.le_refl _) (fun k h => by cases h))
  clear ho hg
  go_wp2_with fail
  refine (LN.out _ (keptB B2.out)).mono ?_
  rintro e w1 ⟨rfl, rfl⟩
  go_wp2_with fail
  go_loopw [3, 13] (fun v i wr => ∃ (k : Nat) (va : Option Addr) (vl vc : Nat), v = .slice va vl vc ∧ i = .int .i64 k ∧ k ≤ E.length ∧ Hid (wr.ownsRow w.heap.size 57 5 (.slice va vl vc) k (cellsE E k)) ∧ Hid (Below w.heap.size w wr)) (fun _ i _ => E.length - (intOf i).toNat)
  case atStart => exact ⟨0, _, _, _, rfl, rfl, Nat.zero_le _, O2, B2⟩
  case round =>
    obtain ⟨k, va, vl, vc, rfl, rfl, hk, hO, hB⟩ := hrel
    by_cases hlt : k < E.length
    · obtain ⟨x, hx⟩ : ∃ x, E[k]? = some x := ⟨_, List.getElem?_eq_getElem hlt⟩
      have hnx : cellsE E (k + 1) = cellsE E k ++ fiveE x := cellsE_succ hx
      have NX := Lib.hid hnx
      have AT := Lib.hid (fun (w' : World) (hb : Below w.heap.size w w') => atInSV w' p F (nmE E) (E.map (·.2)) k x.1.m x.2 (by simp [nmE, hx]) (by simp [hx]) (by simp [nmE]; omega) (H.out.kept (keptB hb)).2.1)
      clear hnx
      have hdr : Below wr.heap.size wr wr.drew := ⟨rfl, rfl, rfl, Nat.le_refl _, fun _ _ => rfl⟩
      go_wp2_with fail
      refine (AT.out wr hB.out).mono ?_
      rintro e w3 ⟨rfl, hb⟩
      have B3 := Lib.hid (hB.out.trans (hb.mono hB.out.size))
      have O3 := Lib.hid (owns_below hO.out hb)
      clear hb
      have hz3 := B3.out.size
      obtain ⟨w4, hw4⟩ : ∃ w4, w3.alloc (.cells #[.int .i64 x.2.k, .int .i64 x.2.n, .string x.2.s, .slice x.2.y x.2.len x.2.c] 28) = w4 := ⟨_, rfl⟩
      have O4 := Lib.hid (hw4 ▸ O3.out.alloc _)
      have B4 := Lib.hid (hw4 ▸ B3.out.alloc hz3 _)
      have hz4 : w4.heap.size = w3.heap.size + 1 := by subst hw4; simp
      have W4 := Lib.hid hw4
      have NEW := Lib.hid (new_fiveE w4 x)
      clear hw4
      go_wp2_with (at_builtin; rw [W4.out]; (refine wpList_append_own _ rfl _ _ 24 rfl w.heap.size 57 i0 _ 5 72 und hi hz0 hz1 hz2 rfl (by decide) _ _ _ rfl (O4.out.alloc _) ⟨w4.heap.size, 0, none⟩ 1 1 (fiveE x) (by rw [hz4]; rfl) rfl NEW.out (fiveE_one x) (by unfold maxLen; omega) (by omega) (by simp; omega) ?_); intro v5 w5 hown5 hgrow5 _; have O5 := Lib.hid hown5; have G5 := Lib.hid hgrow5; clear hown5 hgrow5)
      obtain ⟨va', vl', vc', rfl⟩ := own_slice O5.out
      have O6 := Lib.hid (p := w5.ownsRow w.heap.size 57 5 (.slice va' vl' vc') (k + 1) (cellsE E (k + 1))) (by rw [NX.out]; exact O5.out)
      have B5 := Lib.hid ((B4.out.alloc (by omega) (.cells #[.string x.1.m, .int .i64 x.2.k, .int .i64 x.2.n, .string x.2.s, .slice x.2.y x.2.len x.2.c] 57)).grown G5.out (by have := B4.out.size; simp; omega) (fun q hq => (O4.out.lt q hq).1))
      go_roundw
      case rel => exact ⟨k + 1, va', vl', vc', rfl, by go_num, by omega, O6, B5⟩
      case measure => simp [intOf]; omega
    · obtain rfl : k = E.length := by omega
      have hl : vl = E.length := by
        rcases hO.out.2 with ⟨h, h'⟩ | ⟨g, cap, _, h, _⟩
        · simp only [Value.slice.injEq] at h; omega
        · simp only [Value.slice.injEq] at h; omega
      subst hl
      have P := Lib.hid (show ListPost w (E.map (·.1)) (.returned (.slice va E.length vc)) wr from ⟨listEnd hO.out (fun e he => ((H.out.2.2 e he).kept (keptB hB.out) (fun _ h _ => h.elim) (fun _ h _ => h))), hB.out⟩)
      go_wp2_with fail
      go_ret
      exact P.out

end Go.Proofs.YtgcjfalgngiebaaGreatDoor

namespace Go.Proofs.YtgcjfalgngiebaaGreatDoor
open Go.RowKit

/-- Attributes as a list: put, dropped. -/
def nmD (D : List AD) : List ByteArray := D.map (·.m)
def putD (D : List AD) (x : AD) : List AD := if has (nmD D) x.m = true then D.set (pos lsS (nmD D) x.m) x else D.take (pos lsS (nmD D) x.m) ++ x :: D.drop (pos lsS (nmD D) x.m)
def dropD (D : List AD) (x : ByteArray) : List AD := if has (nmD D) x = true then D.eraseIdx (pos lsS (nmD D) x) else D

theorem nmE_eq (E : List (AD × VC)) : nmE E = nmD (E.map (·.1)) := nmE_of rfl

theorem map_putE (E : List (AD × VC)) (e : AD × VC) : (putE E e).map (·.1) = putD (E.map (·.1)) e.1 := by
  unfold putE putD
  rw [← nmE_eq]
  split
  · rw [List.map_set]
  · rw [List.map_append, List.map_cons, List.map_take, List.map_drop]

theorem map_dropE (E : List (AD × VC)) (x : ByteArray) : (dropE E x).map (·.1) = dropD (E.map (·.1)) x := by
  unfold dropE dropD
  rw [← nmE_eq]
  split
  · rw [List.eraseIdx_eq_take_drop_succ, List.eraseIdx_eq_take_drop_succ, List.map_append, List.map_take, List.map_drop]
  · rfl

theorem dropD_len (D : List AD) (x : ByteArray) : (dropD D x).length ≤ D.length := by
  unfold dropD; split
  · exact List.length_eraseIdx_le _ _
  · exact Nat.le_refl _

/-- What Drop answers. -/
def DropPost (w : World) (D : List AD) (x : ByteArray) (e : Ending) (w' : World) : Prop :=
  (∃ a c, e = .returned (.tuple #[.slice a (dropD D x).length c, .bool (has (nmD D) x)]) ∧ ReadsA w' a (dropD D x).length (atD (dropD D x))) ∧ Below w.heap.size w w'

set_option maxRecDepth 100000 in
set_option maxHeartbeats 4000000 in
theorem dropL_any (a : Option Addr) (n c : Nat) (A : Nat → AD) (x : ByteArray) (hn : n ≤ 1000) (hl : ∀ j, j < n → (A j).len ≤ 1000000) (hR : RiseA A n) (w : World) (h : ReadsA w a n A) :
    Calls Tryz.prog 11 #[.slice a n c, .string x] w (DropPost w (twsA A n) x) := by
  have BY := Lib.hid (byName_any a n c A hn hl hR w h)
  have hlen : (twsA A n).length = n := by simp [twsA]
  have HL := Lib.hid hlen
  clear h hl hR hlen
  go_enter Tryz.func11, Tryz.ntmps11
  go_wp2_with fail
  refine BY.out.mono ?_
  rintro e w1 ⟨⟨p, F, E, rfl, hM, hE, hF⟩, hB⟩
  have hel : E.length = n := by have h1 := congrArg List.length hE; rw [List.length_map, HL.out] at h1; exact h1
  have DR := Lib.hid (dropE_any w1 p F E x (by omega) hM)
  have ME := Lib.hid (And.intro hE (And.intro hF hB))
  clear hM hE hF hB
  go_wp2_with fail
  refine DR.out.mono ?_
  rintro r w2 ⟨rfl, F2, hm2, hg2, hk2⟩
  have hk := map_dropE E x
  rw [ME.out.1] at hk
  have hlk : (dropE E x).length ≤ 1000 := by have h1 := dropD_len (twsA A n) x; rw [← hk, List.length_map, HL.out] at h1; omega
  have LI := Lib.hid (list_any p F2 (dropE E x) hlk w2 hm2)
  have HK := Lib.hid hk
  have B2 := Lib.hid (p := Below w.heap.size w w2) (ME.out.2.2.trans (hk2.below ME.out.2.1 ME.out.2.2.size))
  have HH : has (nmE E) x = has (nmD (twsA A n)) x := by rw [nmE_eq, ME.out.1]
  have HHx := Lib.hid HH
  clear hm2 hg2 hk2 hk hlk HH
  go_wp2_with fail
  refine LI.out.mono ?_
  rintro e w3 ⟨⟨a3, c3, rfl, hr3⟩, hb3⟩
  have P := Lib.hid (show DropPost w (twsA A n) x (.returned (.tuple #[.slice a3 (dropE E x).length c3, .bool (has (nmE E) x)])) w3 from ⟨⟨a3, c3, by rw [← HK.out, List.length_map, HHx.out], by rw [← HK.out]; exact hr3⟩, B2.out.trans (hb3.mono B2.out.size)⟩)
  clear hr3 hb3
  go_wp2_with fail
  go_ret2
  exact P.out

end Go.Proofs.YtgcjfalgngiebaaGreatDoor

namespace Go.Proofs.YtgcjfalgngiebaaGreatDoor
open Go.RowKit

/-- What Set refuses; 0: nothing. -/
def errSet (D : List AD) (x : AD) : Int := if goodB x.m.data.toList = false then 5 else if errV x.k x.s x.len x.z = 0 then (if has (nmD D) x.m = false ∧ 32 ≤ D.length then 4 else 0) else errV x.k x.s x.len x.z

/-- What Set answers. -/
def SetPost (w : World) (D : List AD) (x : AD) (e : Ending) (w' : World) : Prop :=
  (if errSet D x = 0 then (∃ a c, e = .returned (.tuple #[.slice a (putD D (twA x)).length c, .int .i64 0]) ∧ ReadsA w' a (putD D (twA x)).length (atD (putD D (twA x))))
    else e = .returned (.tuple #[.slice none 0 0, .int .i64 (errSet D x)])) ∧ Below w.heap.size w w'

theorem putD_len (D : List AD) (x : AD) : (putD D x).length = if has (nmD D) x.m = true then D.length else D.length + 1 := by
  unfold putD
  split
  · simp
  · simp only [List.length_append, List.length_take, List.length_cons, List.length_drop]; omega

set_option maxRecDepth 100000 in
set_option maxHeartbeats 4000000 in
theorem setL_any (a : Option Addr) (n c : Nat) (A : Nat → AD) (x : AD) (y : Option Addr) (cy : Nat) (hn : n ≤ 999) (hl : ∀ j, j < n → (A j).len ≤ 1000000) (hR : RiseA A n) (hm : x.m.size ≤ 281474976710656) (hs : x.s.size ≤ 281474976710656) (hx : x.len ≤ 1000000) (w : World) (h : ReadsA w a n A) (hy : Reads w y x.len x.z) :
    Calls Tryz.prog 7 #[.slice a n c, .string x.m, .agg #[.int .i64 x.k, .int .i64 x.n, .string x.s, .slice y x.len cy]] w (SetPost w (twsA A n) x) := by
  have CH := Lib.hid (fun (w' : World) (hb : Below w.heap.size w w') => check_any x.k x.n x.s hs y x.len cy x.z w' (hy.kept hb))
  unfold val at CH
  have NA := Lib.hid (fun w' => wName_any x.m hm w')
  have BL : ∀ o, Below w.heap.size w (w.alloc o) := fun o => (Below.refl _ _).alloc (Nat.le_refl _) _
  have BLx := Lib.hid BL
  clear BL
  by_cases h1 : goodB x.m.data.toList = false
  · have P := Lib.hid (p := ∀ w', Below w.heap.size w w' → SetPost w (twsA A n) x (.returned (.tuple #[.slice none 0 0, .int .i64 5])) w') (fun w' hb => by
      have he : errSet (twsA A n) x = 5 := by unfold errSet; rw [if_pos h1]
      exact ⟨by rw [if_neg (by rw [he]; decide), he], hb⟩)
    go_enter Tryz.func7, Tryz.ntmps7
    go_wp2_with fail
    refine (NA.out _).mono ?_
    rintro e w2 ⟨rfl, rfl⟩
    go_wp2_with fail
    go_ret2
    exact P.out _ (BLx.out _)
  have h1' : goodB x.m.data.toList = true := by simpa using h1
  rw [h1'] at NA
  have SE : errSet (twsA A n) x = if errV x.k x.s x.len x.z = 0 then (if has (nmD (twsA A n)) x.m = false ∧ 32 ≤ (twsA A n).length then 4 else 0) else errV x.k x.s x.len x.z := by
    unfold errSet; rw [if_neg h1]
  have hlen : (twsA A n).length = n := by simp [twsA]
  rw [hlen] at SE
  have RI := Lib.hid h
  have RL := Lib.hid hl
  have RR := Lib.hid hR
  have HY := Lib.hid hy
  have HLn := Lib.hid hlen
  clear h hl hR hy hlen
  go_enter Tryz.func7, Tryz.ntmps7
  go_wp2_with fail
  generalize hW : World.alloc w _ = W
  have hWb : Below w.heap.size w W := by rw [← hW]; exact BLx.out _
  have hW4 : W.heap[w.heap.size]? = some (.cells #[.int .i64 x.k, .int .i64 x.n, .string x.s, .slice y x.len cy] 28 (0, 0)) := by rw [← hW]; exact heap_alloc_new w _
  clear hW
  obtain ⟨⟨c0, c1, c2, c3⟩, -⟩ := four hW4
  have HW := Lib.hid (And.intro hWb hW4)
  have hsW := hWb.size
  have hlW := lt_of_block hW4
  clear hWb hW4
  refine (NA.out _).mono ?_
  rintro e w2 ⟨rfl, rfl⟩
  by_cases h2 : errV x.k x.s x.len x.z = 0
  · rw [h2] at CH
    rw [if_pos h2] at SE
    have SEx := Lib.hid SE
    clear SE
    go_wp2_with fail
    refine (CH.out _ HW.out.1).mono ?_
    rintro e w3 ⟨rfl, hb3⟩
    have hl3 : w.heap.size < w3.heap.size := by have := hb3.size; omega
    have B3 := Lib.hid (p := Below w.heap.size w w3) (HW.out.1.trans (hb3.mono hsW))
    have V3 := Lib.hid ((hb3.block w.heap.size hlW).trans HW.out.2)
    have BY := Lib.hid (byName_any a n c A (by omega) RL.out RR.out w3 (RI.out.kept B3.out))
    clear hb3 c0 c1 c2 c3
    go_wp2_with fail
    refine BY.out.mono ?_
    rintro e w4 ⟨⟨p, F, E, rfl, hM, hE, hF⟩, hb4⟩
    have hel : E.length = n := by have h1 := congrArg List.length hE; rw [List.length_map, HLn.out] at h1; exact h1
    have V4 := Lib.hid ((hb4.block w.heap.size hl3).trans V3.out)
    have B4 := Lib.hid (p := Below w.heap.size w w4) (B3.out.trans (hb4.mono B3.out.size))
    have hl4 : w.heap.size < w4.heap.size := by have := hb4.size; omega
    have hz4 := hb4.size
    have hz3 := B3.out.size
    have ME := Lib.hid (And.intro hM (And.intro hE hF))
    obtain ⟨⟨c0, c1, c2, c3⟩, -⟩ := four V4.out
    clear hM hE hF hb4
    go_wp2_with fail
    have TW := Lib.hid (twin_any x.k x.n x.s y x.len cy x.z hx w4 (HY.out.kept B4.out))
    clear c0 c1 c2 c3
    refine TW.out.mono ?_
    rintro e w5 ⟨⟨a5, c5, rfl, hn5, hr5⟩, hb5⟩
    have B5 := Lib.hid (p := Below w.heap.size w w5) (B4.out.trans (hb5.mono (by omega)))
    have M5 := Lib.hid (ME.out.1.kept (keptB hb5))
    have RO5 : Hid (RO w5 F (twA x, ⟨x.k, twN x.k x.n, twS x.k x.s, a5, twL x.k x.len, c5⟩)) := Lib.hid ⟨rfl, rfl, rfl, rfl, hr5 w5 (Kept.refl _ _), .inr (fun q hq hFq => by have h1 := hn5 q hq; have h2 := ME.out.1.2.1.lt _ hFq; omega)⟩
    have hz5 := hb5.size
    clear hn5 hr5 hb5
    go_wp2_with fail
    refine (putT_any w5 p F E x a5 c5 (by omega) M5.out RO5.out).mono ?_
    rintro r w6 ⟨rfl, F6, hm6, hg6, hk6⟩
    have hpe := map_putE E (twA x, ⟨x.k, twN x.k x.n, twS x.k x.s, a5, twL x.k x.len, c5⟩)
    rw [ME.out.2.1] at hpe
    have hF5 : ∀ k, F k → w.heap.size ≤ k := fun k hk => by have := ME.out.2.2 k hk; omega
    have B6 := Lib.hid (p := Below w.heap.size w w6) (B5.out.trans (hk6.below hF5 B5.out.size))
    have HH : has (nmE E) x.m = has (nmD (twsA A n)) x.m := by rw [nmE_eq, ME.out.2.1]
    have hpl := putD_len (twsA A n) (twA x)
    rw [show (twA x).m = x.m from rfl, HLn.out, ← hpe, List.length_map] at hpl
    rw [HH]
    clear HH hF5 hg6 hk6
    generalize putE E (twA x, ⟨x.k, twN x.k x.n, twS x.k x.s, a5, twL x.k x.len, c5⟩) = E6 at hm6 hpe hpl
    have LI := Lib.hid (fun hq => list_any p F6 E6 hq w6 hm6)
    have LE := Lib.hid (lenSV w6 p F6 (nmE E6) (E6.map (·.2)) hm6.2.1)
    rw [show (nmE E6).length = E6.length by simp [nmE]] at LE
    have PE := Lib.hid hpe
    clear hm6 hpe M5 RO5
    have last : ∀ (hne : E6.length ≤ 1000) (hok : errSet (twsA A n) x = 0), Hid (∀ e w7, ListPost w6 (E6.map (·.1)) e w7 → ∃ a7 c7, e = .returned (.slice a7 E6.length c7) ∧ SetPost w (twsA A n) x (.returned (.tuple #[.slice a7 E6.length c7, .int .i64 0])) w7) := fun hne hok => Lib.hid (by
      rintro e w7 ⟨⟨a7, c7, rfl, hr7⟩, hb7⟩
      refine ⟨a7, c7, by rw [List.length_map], ?_, B6.out.trans (hb7.mono B6.out.size)⟩
      rw [if_pos hok, ← PE.out]
      exact ⟨a7, c7, by rw [List.length_map], hr7⟩)
    by_cases h3 : has (nmD (twsA A n)) x.m = true
    · rw [if_pos h3] at hpl
      have LA := last (by omega) (by rw [SEx.out, if_neg (by rw [h3]; simp)])
      rw [h3]
      clear last
      go_wp2_with fail
      refine (LI.out (by omega)).mono ?_
      intro e w7 h7
      obtain ⟨a7, c7, rfl, hp7⟩ := LA.out e w7 h7
      rw [hpl] at hp7
      have P := Lib.hid hp7
      clear h7 hp7
      go_wp2_with fail
      go_ret2
      exact P.out
    · have h3' : has (nmD (twsA A n)) x.m = false := by simpa using h3
      rw [if_neg h3] at hpl
      rw [h3']
      by_cases h4 : 32 ≤ n
      · have P := Lib.hid (show SetPost w (twsA A n) x (.returned (.tuple #[.slice none 0 0, .int .i64 4])) w6 from by
          have he : errSet (twsA A n) x = 4 := by rw [SEx.out]; exact if_pos ⟨h3', h4⟩
          exact ⟨by rw [if_neg (by rw [he]; decide), he], B6.out⟩)
        clear last
        go_wp2_with fail
        refine LE.out.mono ?_
        rintro e w7 ⟨rfl, rfl⟩
        go_wp2_with fail
        go_ret2
        exact P.out
      · have LA := last (by omega) (by rw [SEx.out, if_neg (fun h => h4 h.2)])
        clear last
        go_wp2_with fail
        refine LE.out.mono ?_
        rintro e w7 ⟨rfl, rfl⟩
        go_wp2_with fail
        refine (LI.out (by omega)).mono ?_
        intro e w7 h7
        obtain ⟨a7, c7, rfl, hp7⟩ := LA.out e w7 h7
        rw [hpl] at hp7
        have P := Lib.hid hp7
        clear h7 hp7
        go_wp2_with fail
        go_ret2
        exact P.out
  · rw [if_neg h2] at SE
    have SEx := Lib.hid SE
    clear SE
    go_wp2_with fail
    refine (CH.out _ HW.out.1).mono ?_
    rintro e w3 ⟨rfl, hb3⟩
    have P := Lib.hid (show SetPost w (twsA A n) x (.returned (.tuple #[.slice none 0 0, .int .i64 (errV x.k x.s x.len x.z)])) w3 from ⟨by rw [SEx.out, if_neg h2], HW.out.1.trans (hb3.mono hsW)⟩)
    clear hb3
    go_wp2_with fail
    go_ret2
    exact P.out

end Go.Proofs.YtgcjfalgngiebaaGreatDoor

namespace Go.Proofs.YtgcjfalgngiebaaGreatDoor
open Go.RowKit

theorem cbLt : ∀ x y : List UInt8, decide (Lib.compareBytes x y < 0) = Op.bytesLess x y
  | [], [] => rfl
  | [], _ :: _ => rfl
  | _ :: _, [] => rfl
  | a :: r, b :: t => by
    have ih := cbLt r t
    unfold Lib.compareBytes Op.bytesLess
    by_cases h : a < b
    · simp [h]
    · by_cases h' : b < a
      · have : (a == b) = false := by rw [beq_eq_false_iff_ne]; rintro rfl; exact h h'
        simp [h, h', this]
      · have : a = b := UInt8.le_antisymm (UInt8.not_lt.1 h') (UInt8.not_lt.1 h)
        subst this
        simp [h, ih]

theorem cbEq : ∀ x y : List UInt8, decide (Lib.compareBytes x y = 0) = decide (x = y)
  | [], [] => rfl
  | [], _ :: _ => rfl
  | _ :: _, [] => rfl
  | a :: r, b :: t => by
    have ih := cbEq r t
    unfold Lib.compareBytes
    by_cases h : a < b
    · have : a ≠ b := by rintro rfl; exact absurd h (UInt8.lt_irrefl a)
      simp [h, this]
    · by_cases h' : b < a
      · have : a ≠ b := by rintro rfl; exact h h'
        simp [h, h', this]
      · have : a = b := UInt8.le_antisymm (UInt8.not_lt.1 h') (UInt8.not_lt.1 h)
        subst this
        simpa [h] using ih

set_option maxHeartbeats 1000000 in
theorem compareName_any (x : AD) (y : Option Addr) (c : Nat) (s : ByteArray) (w : World) :
    Calls Tryz.prog 32 #[.agg #[.string x.m, .int .i64 x.k, .int .i64 x.n, .string x.s, .slice y x.len c], .string s] w fun e w' => e = .returned (.int .i64 (Lib.compareBytes x.m.data.toList s.data.toList)) ∧ Below w.heap.size w w' := by
  have bl : ∀ o, Below w.heap.size w (w.alloc o) := fun o => (Below.refl _ _).alloc (Nat.le_refl _) _
  have BL := Lib.hid bl
  clear bl
  go_enter Tryz.func32, Tryz.ntmps32
  go_wp2_with fail
  refine (Tryz.strings_Compare _ _ _).mono ?_
  rintro e w' ⟨rfl, rfl⟩
  have P := Lib.hid (BL.out (.cells #[.string x.m, .int .i64 x.k, .int .i64 x.n, .string x.s, .slice y x.len c] 57))
  go_wp2_with fail
  go_ret
  exact ⟨rfl, P.out⟩

theorem rising_nm {A : Nat → AD} {n : Nat} (hR : RiseA A n) : Rising lsS (nmD (twsA A n)) := by
  have : nmD (twsA A n) = (List.range n).map (fun j => (A j).m) := by simp [nmD, twsA, twA]
  rw [this]
  unfold Rising
  rw [List.pairwise_map]
  exact List.Pairwise.imp_of_mem (fun {i j} hi hj h => hR i j h (List.mem_range.1 hj)) List.pairwise_lt_range

theorem nm_at (A : Nat → AD) {n t : Nat} (ht : t < n) : (nmD (twsA A n))[t]? = some (A t).m := by
  have : nmD (twsA A n) = (List.range n).map (fun j => (A j).m) := by simp [nmD, twsA, twA]
  rw [this, List.getElem?_map, List.getElem?_range ht]; rfl

set_option maxRecDepth 100000 in
set_option maxHeartbeats 4000000 in
theorem searchF_none (a : Option Addr) (c : Nat) (f : Value) (x : ByteArray) (w : World) :
    Calls Tryz.prog 31 #[.slice a 0 c, .string x, f] w fun e w' => e = .returned (.tuple #[.int .i64 (0 : Nat), .bool false]) ∧ w' = w := by
  go_enter Tryz.func31, Tryz.ntmps31
  go_wp2
  go_loop [9, 10] (fun s7 s8 => s7 = .int .i64 0 ∧ s8 = .int .i64 0) (fun _ _ => 0)
  case atStart => exact ⟨rfl, rfl⟩
  case round =>
    obtain ⟨rfl, rfl⟩ := hrel
    go_wp2
    go_ret2
    exact ⟨rfl, rfl⟩

set_option maxRecDepth 100000 in
set_option maxHeartbeats 4000000 in
theorem searchF_some (b off : Nat) (n c : Nat) (A : Nat → AD) (x : ByteArray) (hn : n ≤ 1000) (hR : RiseA A n) (w : World) (h : ∀ j, j < n → ∃ y c, Cells5 w b (off + j * 5) (A j) y c) :
    Calls Tryz.prog 31 #[.slice (some ⟨b, off, none⟩) n c, .string x, .func (.func 32) #[] #[]] w fun e w' =>
      e = .returned (.tuple #[.int .i64 (pos lsS (nmD (twsA A n)) x : Nat), .bool (has (nmD (twsA A n)) x)]) ∧ Below w.heap.size w w' := by
  have hr := rising_nm hR
  have hl : (nmD (twsA A n)).length = n := by simp [nmD, twsA]
  have hat : ∀ t, t < n → (nmD (twsA A n))[t]? = some (A t).m := fun t ht => nm_at A ht
  generalize nmD (twsA A n) = ks at hr hl hat
  have hS := search_pos strictS hr x
  rw [hl] at hS
  obtain ⟨I, hI⟩ : ∃ I, pos lsS ks x = I := ⟨_, rfl⟩
  obtain ⟨B, hB⟩ : ∃ B, B = has ks x := ⟨_, rfl⟩
  have hIn : I ≤ n := by rw [← hI, ← hl]; exact pos_le _ _
  rw [hI] at hS
  rw [hI, ← hB]
  have HE := Lib.hid (p := I < n → decide ((A I).m = x) = B) (fun hy => by rw [hB, found_iff strictS hr hI (hat I hy)])
  have HN := Lib.hid (p := n ≤ I → false = B) (fun h => by rw [hB]; exact (found_none strictS hr hI (by omega)).symm)
  have HG := Lib.hid (p := ∀ t, t < n → ks.getD t x = (A t).m) (fun t ht => by rw [List.getD_eq_getElem?_getD, hat t ht]; rfl)
  have HS := Lib.hid hS
  have HC := Lib.hid h
  clear hS hI hB hr hl hat h hR
  go_enter Tryz.func31, Tryz.ntmps31
  go_wp2_with fail
  go_loopg [9, 10] n (fun g s7 s8 wr => ∃ lo hi : Nat, s7 = .int .i64 lo ∧ s8 = .int .i64 hi ∧ lo ≤ hi ∧ hi ≤ n ∧ hi - lo ≤ g ∧ Hid (Below w.heap.size w wr) ∧ Hid (Lib.bsGo (fun t => lsS (ks.getD t x) x) g lo hi = I))
  case atStart => exact ⟨0, n, rfl, rfl, Nat.zero_le _, Nat.le_refl _, by omega, Lib.hid (Below.refl _ _), HS⟩
  case round =>
    obtain ⟨lo, hi, rfl, rfl, hlh, hin, hg, hBl, hb⟩ := hrel
    by_cases hlt : lo < hi
    · obtain ⟨y, cy, h50⟩ := HC.out ((lo + hi) / 2) (by omega)
      have h5 := h50.kept hBl.out
      obtain ⟨g', rfl⟩ : ∃ g', gk = g' + 1 := ⟨gk - 1, by omega⟩
      have hb1 := hb.out
      have hgt := HG.out ((lo + hi) / 2) (by omega)
      clear hb h50
      simp only [Lib.bsGo, hlt, if_true] at hb1
      obtain ⟨z, hz⟩ : ∃ z, A ((lo + hi) / 2) = z := ⟨_, rfl⟩
      rw [hz] at h5 hgt
      simp only [hgt] at hb1
      have hcb := cbLt z.m.data.toList x.data.toList
      rw [← Lib.toList_data, ← Lib.toList_data, show Op.bytesLess z.m.toList x.toList = lsS z.m x from rfl, Lib.toList_data, Lib.toList_data] at hcb
      have CN := Lib.hid (fun w' => compareName_any z y cy x w')
      obtain ⟨d0, d1, d2, d3, d4⟩ := h5
      have hsz := hBl.out.size
      clear hz hgt
      cases hyx : lsS z.m x <;> simp only [hyx, if_true, Bool.false_eq_true, if_false] at hb1 hcb
      · have HB := Lib.hid hb1
        clear hb1 hyx
        go_wp2_with fail
        refine (CN.out _).mono ?_
        rintro e w2 ⟨rfl, hb2⟩
        have B2 := Lib.hid (hBl.out.trans (hb2.mono hsz))
        clear hb2
        go_wp2_with fail
        go_roundg ((lo + hi) / 2 - lo)
        case measure => omega
        case rel => exact ⟨lo, (lo + hi) / 2, rfl, by rw [show ((lo : Int) + (hi : Int)) / 2 = (((lo + hi) / 2 : Nat) : Int) by omega], by omega, by omega, Nat.le_refl _, B2, Lib.hid (by rw [← HB.out]; exact Lib.bsGo_fuel _ _ _ _ _ (Nat.le_refl _) (by omega))⟩
      · have HB := Lib.hid hb1
        clear hb1 hyx
        go_wp2_with fail
        refine (CN.out _).mono ?_
        rintro e w2 ⟨rfl, hb2⟩
        have B2 := Lib.hid (hBl.out.trans (hb2.mono hsz))
        clear hb2
        go_wp2_with fail
        go_roundg (hi - ((lo + hi) / 2 + 1))
        case measure => omega
        case rel => exact ⟨(lo + hi) / 2 + 1, hi, by rw [show ((lo : Int) + (hi : Int)) / 2 + 1 = (((lo + hi) / 2 + 1 : Nat) : Int) by omega], rfl, by omega, hin, Nat.le_refl _, B2, Lib.hid (by rw [← HB.out]; exact Lib.bsGo_fuel _ _ _ _ _ (Nat.le_refl _) (by omega))⟩
    · obtain rfl : hi = lo := by omega
      obtain rfl : hi = I := by
        rw [← hb.out]
        cases gk <;> simp [Lib.bsGo]
      clear hb HS
      by_cases hn : hi < n
      · obtain ⟨y, cy, h50⟩ := HC.out hi hn
        have h5 := h50.kept hBl.out
        have hBx := HE.out hn
        obtain ⟨z, hz⟩ : ∃ z, A hi = z := ⟨_, rfl⟩
        rw [hz] at h5 hBx
        have hcb := cbEq z.m.data.toList x.data.toList
        rw [show decide (z.m.data.toList = x.data.toList) = decide (z.m = x) from by
          by_cases hq : z.m = x
          · simp [hq]
          · rw [decide_eq_false hq]; exact decide_eq_false (fun h => hq (bytes_eq (by rw [Lib.toList_data, Lib.toList_data]; exact h))), hBx, show decide (Lib.compareBytes z.m.data.toList x.data.toList = 0) = (Lib.compareBytes z.m.data.toList x.data.toList == 0) from rfl] at hcb
        have CN := Lib.hid (fun w' => compareName_any z y cy x w')
        obtain ⟨d0, d1, d2, d3, d4⟩ := h5
        have hsz := hBl.out.size
        clear HE HN HC HG hz hBx h50
        go_wp2_with fail
        refine (CN.out _).mono ?_
        rintro e w2 ⟨rfl, hb2⟩
        have B2 := Lib.hid (hBl.out.trans (hb2.mono hsz))
        clear hb2
        go_wp2_with fail
        go_ret2
        exact ⟨rfl, B2.out⟩
      · have HB := HN.out (by omega)
        subst HB
        clear HE HN HC HG
        go_wp2_with fail
        go_ret2
        exact ⟨rfl, hBl.out⟩

/-- slices.BinarySearchFunc of attributes whose names rise. -/
theorem searchF_any (a : Option Addr) (n c : Nat) (A : Nat → AD) (x : ByteArray) (hn : n ≤ 1000) (hR : RiseA A n) (w : World) (h : ReadsA w a n A) :
    Calls Tryz.prog 31 #[.slice a n c, .string x, .func (.func 32) #[] #[]] w fun e w' =>
      e = .returned (.tuple #[.int .i64 (pos lsS (nmD (twsA A n)) x : Nat), .bool (has (nmD (twsA A n)) x)]) ∧ Below w.heap.size w w' := by
  rcases h.2 with rfl | ⟨b, off, rfl, hc⟩
  · exact (searchF_none a c _ x w).mono fun e w' ⟨he, hw⟩ => ⟨he, by rw [hw]; exact Below.refl _ _⟩
  · exact searchF_some b off n c A x hn hR w (fun j hj => by obtain ⟨y, c, h, _⟩ := hc j hj; exact ⟨y, c, h⟩)

/-- What Get answers of what is there. -/
def GetPost (w : World) (A : Nat → AD) (n : Nat) (x : ByteArray) (e : Ending) (w' : World) : Prop :=
  (if has (nmD (twsA A n)) x = true then ∃ v a c, pos lsS (nmD (twsA A n)) x < n ∧ A (pos lsS (nmD (twsA A n)) x) = v ∧ e = .returned (.tuple #[.agg #[.int .i64 v.k, .int .i64 (twN v.k v.n), .string (twS v.k v.s), .slice a (twL v.k v.len) c], .bool true]) ∧ Reads w' a (twL v.k v.len) v.z
    else e = .returned (.tuple #[.agg #[.int .i64 0, .int .i64 0, .string ⟨#[]⟩, .slice none 0 0], .bool false])) ∧ Below w.heap.size w w'

set_option maxRecDepth 100000 in
set_option maxHeartbeats 4000000 in
theorem getL_any (a : Option Addr) (n c : Nat) (A : Nat → AD) (x : ByteArray) (hn : n ≤ 1000) (hl : ∀ j, j < n → (A j).len ≤ 1000000) (hR : RiseA A n) (w : World) (h : ReadsA w a n A) :
    Calls Tryz.prog 13 #[.slice a n c, .string x] w (GetPost w A n x) := by
  have BL : ∀ o, Below w.heap.size w (w.alloc o) := fun o => (Below.refl _ _).alloc (Nat.le_refl _) _
  have SF := Lib.hid (fun o => searchF_any a n c A x hn hR (w.alloc o) (h.kept (BL o)))
  obtain ⟨W, hW⟩ : ∃ W, w.alloc (.cells #[.int .i64 0, .int .i64 0, .string ⟨#[]⟩, .slice none 0 0] 28) = W := ⟨_, rfl⟩
  have hWb : Below w.heap.size w W := by rw [← hW]; exact BL _
  have hWs : W.heap.size = w.heap.size + 1 := by rw [← hW]; simp
  have hW4 : W.heap[w.heap.size]? = some (.cells #[.int .i64 0, .int .i64 0, .string ⟨#[]⟩, .slice none 0 0] 28 (0, 0)) := by rw [← hW]; exact heap_alloc_new w _
  have HW := Lib.hid hW
  have HX := Lib.hid (And.intro hWb hW4)
  have RA := Lib.hid h
  have HLn := Lib.hid hl
  have hrn := rising_nm hR
  have hnl : (nmD (twsA A n)).length = n := by simp [nmD, twsA]
  have HRN := Lib.hid (And.intro hrn hnl)
  clear hWb hW4 hW h hl hR BL hrn hnl
  by_cases hh : has (nmD (twsA A n)) x = true
  · have hp : pos lsS (nmD (twsA A n)) x < n := by
      have := (mem_iff_pos strictS HRN.out.1).1 ((has_iff _ _).1 hh)
      have := (List.getElem?_eq_some_iff.1 this).1
      rwa [HRN.out.2] at this
    rw [hh] at SF
    have HH := Lib.hid hh
    obtain ⟨I, hI⟩ : ∃ I, pos lsS (nmD (twsA A n)) x = I := ⟨_, rfl⟩
    obtain ⟨v, hv⟩ : ∃ v, A I = v := ⟨_, rfl⟩
    rw [hI] at SF hp
    have GP := Lib.hid (p := ∀ a' c' w', Reads w' a' (twL v.k v.len) v.z → Below w.heap.size w w' → GetPost w A n x (.returned (.tuple #[.agg #[.int .i64 v.k, .int .i64 (twN v.k v.n), .string (twS v.k v.s), .slice a' (twL v.k v.len) c'], .bool true])) w') (fun a' c' w' hr hb => ⟨by
      rw [if_pos HH.out, hI]
      exact ⟨v, a', c', hp, hv, rfl, hr⟩, hb⟩)
    obtain ⟨b, off, rfl, hc⟩ := RA.out.2.resolve_left (by omega)
    obtain ⟨y, cy, h5, hry⟩ := hc I hp
    have hlv := HLn.out I hp
    rw [hv] at h5 hry hlv
    have H5 := Lib.hid (And.intro h5 hry)
    clear hc hv h5 hry hI hh
    go_enter Tryz.func13, Tryz.ntmps13
    go_wp2_with fail
    refine (SF.out _).mono ?_
    rw [HW.out]
    rintro e w2 ⟨rfl, hb2⟩
    have B2 := Lib.hid (HX.out.1.trans (hb2.mono HX.out.1.size))
    have V2 := Lib.hid ((hb2.block w.heap.size (by omega)).trans HX.out.2)
    have hz2 := hb2.size
    obtain ⟨d0, d1, d2, d3, d4⟩ := H5.out.1.kept B2.out
    have TW := Lib.hid (twin_any v.k v.n v.s y v.len cy v.z hlv w2 (H5.out.2.kept B2.out))
    clear hb2
    go_wp2_with fail
    refine TW.out.mono ?_
    rintro e w3 ⟨⟨a3, c3, rfl, hn3, hr3⟩, hb3⟩
    have B3 := Lib.hid (B2.out.trans (hb3.mono (by omega)))
    have V3 := (hb3.block w.heap.size (by omega)).trans V2.out
    obtain ⟨⟨c0, c1, c2, c3'⟩, ⟨f0, f1, f2, f3⟩⟩ := four V3
    have R3 := Lib.hid (And.intro (hr3 w3 (Kept.refl _ _)) hn3)
    clear hb3 V3 hr3 hn3 d0 d1 d2 d3 d4
    go_wp2_with fail
    have hb4 := Lib.hid (four_below4 B3.out (Nat.le_refl _) (.int .i64 v.k) (.int .i64 (twN v.k v.n)) (.string (twS v.k v.s)) (.slice a3 (twL v.k v.len) c3))
    have hk4 := Lib.hid (R3.out.1.keptS (four_kept w3 w.heap.size (.int .i64 v.k) (.int .i64 (twN v.k v.n)) (.string (twS v.k v.s)) (.slice a3 (twL v.k v.len) c3)) (fun q hq h => by have := R3.out.2 q hq; omega))
    exact bodyPost_ret (v := .tuple #[.agg #[.int .i64 v.k, .int .i64 (twN v.k v.n), .string (twS v.k v.s), .slice a3 (twL v.k v.len) c3], .bool true]) (by simp [results, Tryz.results13, go_sem, *]) rfl (GP.out _ _ _ hk4.out hb4.out)
  · have hh' : has (nmD (twsA A n)) x = false := by simpa using hh
    rw [hh'] at SF
    have HH := Lib.hid hh
    clear hh hh'
    go_enter Tryz.func13, Tryz.ntmps13
    go_wp2_with fail
    refine (SF.out _).mono ?_
    rw [HW.out]
    rintro e w2 ⟨rfl, hb2⟩
    have B2 := Lib.hid (HX.out.1.trans (hb2.mono HX.out.1.size))
    have V2 := (hb2.block w.heap.size (by omega)).trans HX.out.2
    obtain ⟨⟨c0, c1, c2, c3⟩, ⟨f0, f1, f2, f3⟩⟩ := four V2
    clear hb2 V2
    go_wp2_with fail
    have hb4 := Lib.hid (four_below4 B2.out (Nat.le_refl _) (.int .i64 0) (.int .i64 0) (.string ⟨#[]⟩) (.slice none 0 0))
    exact bodyPost_ret (v := .tuple #[.agg #[.int .i64 0, .int .i64 0, .string ⟨#[]⟩, .slice none 0 0], .bool false]) (by simp [results, Tryz.results13, go_sem, *]) rfl ⟨by rw [if_neg HH.out], hb4.out⟩

end Go.Proofs.YtgcjfalgngiebaaGreatDoor
