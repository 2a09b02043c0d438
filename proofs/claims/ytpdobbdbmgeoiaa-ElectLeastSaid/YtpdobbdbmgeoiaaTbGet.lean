/-
  No statement: Get of package row: a search over attributes, and a value in new memory.
-/
import Derived.Test.YtpdobbdbmgeoiaaTbTwin
import Derived.Test.YtpdobbdbmgeoiaaShelf
import Derived.Test.YtpdobbdbmgeoiaaKeys
import Derived.Deep.LoopGhost
set_option linter.unusedVariables false
set_option linter.unusedSimpArgs false
namespace Go.Proofs.Ytpdobbdbmgeoiaa
open Go.RowKit

/-- The data of an attribute that is made anew. -/
def twA (x : AD) : AD := ⟨x.m, x.k, twN x.k x.n, twS x.k x.s, twL x.k x.len, x.z⟩
def nmD (D : List AD) : List ByteArray := D.map (·.m)
/-- The first k attributes, as twins. -/
def twsA (A : Nat → AD) (k : Nat) : List AD := (List.range k).map fun j => twA (A j)

theorem twsA_succ (A : Nat → AD) (k : Nat) : twsA A (k + 1) = twsA A k ++ [twA (A k)] := by simp [twsA, List.range_succ]

/-- Names rise. -/
def RiseA (A : Nat → AD) (n : Nat) : Prop := ∀ i j, i < j → j < n → lsS (A i).m (A j).m = true

theorem cbLt : ∀ x y : List UInt8, decide (Lib.compareBytes x y < 0) = Op.bytesLess x y
  | [], [] => rfl
  | [], _ :: _ => rfl
  | _ :: _, [] => rfl
  | a :: r, b :: t => by
    have ih := cbLt r t
    unfold Lib.compareBytes Op.bytesLess
    by_cases h : a < b
    · simp [h]
    · by_cases h' : b < a
      · have : (a == b) = false := by rw [beq_eq_false_iff_ne]; rintro rfl; exact h h'
        simp [h, h', this]
      · have : a = b := UInt8.le_antisymm (UInt8.not_lt.1 h') (UInt8.not_lt.1 h)
        subst this
        simp [h, ih]

theorem cbEq : ∀ x y : List UInt8, decide (Lib.compareBytes x y = 0) = decide (x = y)
  | [], [] => rfl
  | [], _ :: _ => rfl
  | _ :: _, [] => rfl
  | a :: r, b :: t => by
    have ih := cbEq r t
    unfold Lib.compareBytes
    by_cases h : a < b
    · have : a ≠ b := by rintro rfl; exact absurd h (UInt8.lt_irrefl a)
      simp [h, this]
    · by_cases h' : b < a
      · have : a ≠ b := by rintro rfl; exact h h'
        simp [h, h', this]
      · have : a = b := UInt8.le_antisymm (UInt8.not_lt.1 h') (UInt8.not_lt.1 h)
        subst this
        simpa [h] using ih

set_option maxHeartbeats 1000000 in
theorem compareName_any (x : AD) (y : Option Addr) (c : Nat) (s : ByteArray) (w : World) :
    Calls Try.prog 49 #[.agg #[.string x.m, .int .i64 x.k, .int .i64 x.n, .string x.s, .slice y x.len c], .string s] w fun e w' => e = .returned (.int .i64 (Lib.compareBytes x.m.data.toList s.data.toList)) ∧ Below w.heap.size w w' := by
  have bl : ∀ o, Below w.heap.size w (w.alloc o) := fun o => (Below.refl _ _).alloc (Nat.le_refl _) _
  have BL := Lib.hid bl
  clear bl
  go_enter Try.func49, Try.ntmps49
  go_wp2_with fail
  refine (Try.strings_Compare _ _ _).mono ?_
  rintro e w' ⟨rfl, rfl⟩
  have P := Lib.hid (BL.out (.cells #[.string x.m, .int .i64 x.k, .int .i64 x.n, .string x.s, .slice y x.len c] 70))
  go_wp2_with fail
  go_ret
  exact ⟨rfl, P.out⟩

theorem rising_nm {A : Nat → AD} {n : Nat} (hR : RiseA A n) : Rising lsS (nmD (twsA A n)) := by
  have : nmD (twsA A n) = (List.range n).map (fun j => (A j).m) := by simp [nmD, twsA, twA]
  rw [this]
  unfold Rising
  rw [List.pairwise_map]
  exact List.Pairwise.imp_of_mem (fun {i j} hi hj h => hR i j h (List.mem_range.1 hj)) List.pairwise_lt_range

theorem nm_at (A : Nat → AD) {n t : Nat} (ht : t < n) : (nmD (twsA A n))[t]? = some (A t).m := by
  have : nmD (twsA A n) = (List.range n).map (fun j => (A j).m) := by simp [nmD, twsA, twA]
  rw [this, List.getElem?_map, List.getElem?_range ht]; rfl

set_option maxRecDepth 100000 in
set_option maxHeartbeats 4000000 in
theorem searchF_none (a : Option Addr) (c : Nat) (f : Value) (x : ByteArray) (w : World) :
    Calls Try.prog 48 #[.slice a 0 c, .string x, f] w fun e w' => e = .returned (.tuple #[.int .i64 (0 : Nat), .bool false]) ∧ w' = w := by
  go_enter Try.func48, Try.ntmps48
  go_wp2
  go_loop [9, 10] (fun s7 s8 => s7 = .int .i64 0 ∧ s8 = .int .i64 0) (fun _ _ => 0)
  case atStart => exact ⟨rfl, rfl⟩
  case round =>
    obtain ⟨rfl, rfl⟩ := hrel
    go_wp2
    go_ret2
    exact ⟨rfl, rfl⟩

set_option maxRecDepth 100000 in
set_option maxHeartbeats 4000000 in
theorem searchF_some (b off : Nat) (n c : Nat) (A : Nat → AD) (x : ByteArray) (hn : n ≤ 1000) (hR : RiseA A n) (w : World) (h : ∀ j, j < n → ∃ y c, Cells5 w b (off + j * 5) (A j) y c) :
    Calls Try.prog 48 #[.slice (some ⟨b, off, none⟩) n c, .string x, .func (.func 49) #[] #[]] w fun e w' =>
      e = .returned (.tuple #[.int .i64 (pos lsS (nmD (twsA A n)) x : Nat), .bool (has (nmD (twsA A n)) x)]) ∧ Below w.heap.size w w' := by
  have hr := rising_nm hR
  have hl : (nmD (twsA A n)).length = n := by simp [nmD, twsA]
  have hat : ∀ t, t < n → (nmD (twsA A n))[t]? = some (A t).m := fun t ht => nm_at A ht
  generalize nmD (twsA A n) = ks at hr hl hat
  have hS := search_pos strictS hr x
  rw [hl] at hS
  obtain ⟨I, hI⟩ : ∃ I, pos lsS ks x = I := ⟨_, rfl⟩
  obtain ⟨B, hB⟩ : ∃ B, B = has ks x := ⟨_, rfl⟩
  have hIn : I ≤ n := by rw [← hI, ← hl]; exact pos_le _ _
  rw [hI] at hS
  rw [hI, ← hB]
  have HE := Lib.hid (p := I < n → decide ((A I).m = x) = B) (fun hy => by rw [hB, found_iff strictS hr hI (hat I hy)])
  have HN := Lib.hid (p := n ≤ I → false = B) (fun h => by rw [hB]; exact (found_none strictS hr hI (by omega)).symm)
  have HG := Lib.hid (p := ∀ t, t < n → ks.getD t x = (A t).m) (fun t ht => by rw [List.getD_eq_getElem?_getD, hat t ht]; rfl)
  have HS := Lib.hid hS
  have HC := Lib.hid h
  clear hS hI hB hr hl hat h hR
  go_enter Try.func48, Try.ntmps48
  go_wp2_with fail
  go_loopg [9, 10] n (fun g s7 s8 wr => ∃ lo hi : Nat, s7 = .int .i64 lo ∧ s8 = .int .i64 hi ∧ lo ≤ hi ∧ hi ≤ n ∧ hi - lo ≤ g ∧ Hid (Below w.heap.size w wr) ∧ Hid (Lib.bsGo (fun t => lsS (ks.getD t x) x) g lo hi = I))
  case atStart => exact ⟨0, n, rfl, rfl, Nat.zero_le _, Nat.le_refl _, by omega, Lib.hid (Below.refl _ _), HS⟩
  case round =>
    obtain ⟨lo, hi, rfl, rfl, hlh, hin, hg, hBl, hb⟩ := hrel
    by_cases hlt : lo < hi
    · obtain ⟨y, cy, h50⟩ := HC.out ((lo + hi) / 2) (by omega)
      have h5 := h50.kept hBl.out
      obtain ⟨g', rfl⟩ : ∃ g', gk = g' + 1 := ⟨gk - 1, by omega⟩
      have hb1 := hb.out
      have hgt := HG.out ((lo + hi) / 2) (by omega)
      clear hb h50
      simp only [Lib.bsGo, hlt, if_true] at hb1
      obtain ⟨z, hz⟩ : ∃ z, A ((lo + hi) / 2) = z := ⟨_, rfl⟩
      rw [hz] at h5 hgt
      simp only [hgt] at hb1
      have hcb := cbLt z.m.data.toList x.data.toList
      rw [← Lib.toList_data, ← Lib.toList_data, show Op.bytesLess z.m.toList x.toList = lsS z.m x from rfl, Lib.toList_data, Lib.toList_data] at hcb
      have CN := Lib.hid (fun w' => compareName_any z y cy x w')
      obtain ⟨d0, d1, d2, d3, d4⟩ := h5
      have hsz := hBl.out.size
      clear hz hgt
      cases hyx : lsS z.m x <;> simp only [hyx, if_true, Bool.false_eq_true, if_false] at hb1 hcb
      · have HB := Lib.hid hb1
        clear hb1 hyx
        go_wp2_with fail
        refine (CN.out _).mono ?_
        rintro e w2 ⟨rfl, hb2⟩
        have B2 := Lib.hid (hBl.out.trans (hb2.mono hsz))
        clear hb2
        go_wp2_with fail
        go_roundg ((lo + hi) / 2 - lo)
        case measure => omega
        case rel => exact ⟨lo, (lo + hi) / 2, rfl, by rw [show ((lo : Int) + (hi : Int)) / 2 = (((lo + hi) / 2 : Nat) : Int) by omega], by omega, by omega, Nat.le_refl _, B2, Lib.hid (by rw [← HB.out]; exact Lib.bsGo_fuel _ _ _ _ _ (Nat.le_refl _) (by omega))⟩
      · have HB := Lib.hid hb1
        clear hb1 hyx
        go_wp2_with fail
        refine (CN.out _).mono ?_
        rintro e w2 ⟨rfl, hb2⟩
        have B2 := Lib.hid (hBl.out.trans (hb2.mono hsz))
        clear hb2
        go_wp2_with fail
        go_roundg (hi - ((lo + hi) / 2 + 1))
        case measure => omega
        case rel => exact ⟨(lo + hi) / 2 + 1, hi, by rw [show ((lo : Int) + (hi : Int)) / 2 + 1 = (((lo + hi) / 2 + 1 : Nat) : Int) by omega], rfl, by omega, hin, Nat.le_refl _, B2, Lib.hid (by rw [← HB.out]; exact Lib.bsGo_fuel _ _ _ _ _ (Nat.le_refl _) (by omega))⟩
    · obtain rfl : hi = lo := by omega
      obtain rfl : hi = I := by
        rw [← hb.out]
        cases gk <;> simp [Lib.bsGo]
      clear hb HS
      by_cases hn : hi < n
      · obtain ⟨y, cy, h50⟩ := HC.out hi hn
        have h5 := h50.kept hBl.out
        have hBx := HE.out hn
        obtain ⟨z, hz⟩ : ∃ z, A hi = z := ⟨_, rfl⟩
        rw [hz] at h5 hBx
        have hcb := cbEq z.m.data.toList x.data.toList
        rw [show decide (z.m.data.toList = x.data.toList) = decide (z.m = x) from by
          by_cases hq : z.m = x
          · simp [hq]
          · rw [decide_eq_false hq]; exact decide_eq_false (fun h => hq (bytes_eq (by rw [Lib.toList_data, Lib.toList_data]; exact h))), hBx, show decide (Lib.compareBytes z.m.data.toList x.data.toList = 0) = (Lib.compareBytes z.m.data.toList x.data.toList == 0) from rfl] at hcb
        have CN := Lib.hid (fun w' => compareName_any z y cy x w')
        obtain ⟨d0, d1, d2, d3, d4⟩ := h5
        have hsz := hBl.out.size
        clear HE HN HC HG hz hBx h50
        go_wp2_with fail
        refine (CN.out _).mono ?_
        rintro e w2 ⟨rfl, hb2⟩
        have B2 := Lib.hid (hBl.out.trans (hb2.mono hsz))
        clear hb2
        go_wp2_with fail
        go_ret2
        exact ⟨rfl, B2.out⟩
      · have HB := HN.out (by omega)
        subst HB
        clear HE HN HC HG
        go_wp2_with fail
        go_ret2
        exact ⟨rfl, hBl.out⟩

/-- slices.BinarySearchFunc of attributes whose names rise. -/
theorem searchF_any (a : Option Addr) (n c : Nat) (A : Nat → AD) (x : ByteArray) (hn : n ≤ 1000) (hR : RiseA A n) (w : World) (h : ReadsA w a n A) :
    Calls Try.prog 48 #[.slice a n c, .string x, .func (.func 49) #[] #[]] w fun e w' =>
      e = .returned (.tuple #[.int .i64 (pos lsS (nmD (twsA A n)) x : Nat), .bool (has (nmD (twsA A n)) x)]) ∧ Below w.heap.size w w' := by
  rcases h.2 with rfl | ⟨b, off, rfl, hc⟩
  · exact (searchF_none a c _ x w).mono fun e w' ⟨he, hw⟩ => ⟨he, by rw [hw]; exact Below.refl _ _⟩
  · exact searchF_some b off n c A x hn hR w (fun j hj => by obtain ⟨y, c, h, _⟩ := hc j hj; exact ⟨y, c, h⟩)

/-- What Get answers of what is there. -/
def GetPost (w : World) (A : Nat → AD) (n : Nat) (x : ByteArray) (e : Ending) (w' : World) : Prop :=
  (if has (nmD (twsA A n)) x = true then ∃ v a c, pos lsS (nmD (twsA A n)) x < n ∧ A (pos lsS (nmD (twsA A n)) x) = v ∧ e = .returned (.tuple #[.agg #[.int .i64 v.k, .int .i64 (twN v.k v.n), .string (twS v.k v.s), .slice a (twL v.k v.len) c], .bool true]) ∧ Reads w' a (twL v.k v.len) v.z ∧ (∀ q, a = some q → w.heap.size ≤ q.block)
    else e = .returned (.tuple #[.agg #[.int .i64 0, .int .i64 0, .string ⟨#[]⟩, .slice none 0 0], .bool false])) ∧ Below w.heap.size w w'

set_option maxRecDepth 100000 in
set_option maxHeartbeats 4000000 in
theorem getL_any (a : Option Addr) (n c : Nat) (A : Nat → AD) (x : ByteArray) (hn : n ≤ 1000) (hl : ∀ j, j < n → (A j).len ≤ 1000000) (hR : RiseA A n) (w : World) (h : ReadsA w a n A) :
    Calls Try.prog 34 #[.slice a n c, .string x] w (GetPost w A n x) := by
  have BL : ∀ o, Below w.heap.size w (w.alloc o) := fun o => (Below.refl _ _).alloc (Nat.le_refl _) _
  have SF := Lib.hid (fun o => searchF_any a n c A x hn hR (w.alloc o) (h.kept (BL o)))
  obtain ⟨W, hW⟩ : ∃ W, w.alloc (.cells #[.int .i64 0, .int .i64 0, .string ⟨#[]⟩, .slice none 0 0] 68) = W := ⟨_, rfl⟩
  have hWb : Below w.heap.size w W := by rw [← hW]; exact BL _
  have hWs : W.heap.size = w.heap.size + 1 := by rw [← hW]; simp
  have hW4 : W.heap[w.heap.size]? = some (.cells #[.int .i64 0, .int .i64 0, .string ⟨#[]⟩, .slice none 0 0] 68 (0, 0)) := by rw [← hW]; exact heap_alloc_new w _
  have HW := Lib.hid hW
  have HX := Lib.hid (And.intro hWb hW4)
  have RA := Lib.hid h
  have HLn := Lib.hid hl
  have hrn := rising_nm hR
  have hnl : (nmD (twsA A n)).length = n := by simp [nmD, twsA]
  have HRN := Lib.hid (And.intro hrn hnl)
  clear hWb hW4 hW h hl hR BL hrn hnl
  by_cases hh : has (nmD (twsA A n)) x = true
  · have hp : pos lsS (nmD (twsA A n)) x < n := by
      have := (mem_iff_pos strictS HRN.out.1).1 ((has_iff _ _).1 hh)
      have := (List.getElem?_eq_some_iff.1 this).1
      rwa [HRN.out.2] at this
    rw [hh] at SF
    have HH := Lib.hid hh
    obtain ⟨I, hI⟩ : ∃ I, pos lsS (nmD (twsA A n)) x = I := ⟨_, rfl⟩
    obtain ⟨v, hv⟩ : ∃ v, A I = v := ⟨_, rfl⟩
    rw [hI] at SF hp
    have GP := Lib.hid (p := ∀ a' c' w', Reads w' a' (twL v.k v.len) v.z → (∀ q, a' = some q → w.heap.size ≤ q.block) → Below w.heap.size w w' → GetPost w A n x (.returned (.tuple #[.agg #[.int .i64 v.k, .int .i64 (twN v.k v.n), .string (twS v.k v.s), .slice a' (twL v.k v.len) c'], .bool true])) w') (fun a' c' w' hr hq hb => ⟨by
      rw [if_pos HH.out, hI]
      exact ⟨v, a', c', hp, hv, rfl, hr, hq⟩, hb⟩)
    obtain ⟨b, off, rfl, hc⟩ := RA.out.2.resolve_left (by omega)
    obtain ⟨y, cy, h5, hry⟩ := hc I hp
    have hlv := HLn.out I hp
    rw [hv] at h5 hry hlv
    have H5 := Lib.hid (And.intro h5 hry)
    clear hc hv h5 hry hI hh
    go_enter Try.func34, Try.ntmps34
    go_wp2_with fail
    refine (SF.out _).mono ?_
    rw [HW.out]
    rintro e w2 ⟨rfl, hb2⟩
    have B2 := Lib.hid (HX.out.1.trans (hb2.mono HX.out.1.size))
    have V2 := Lib.hid ((hb2.block w.heap.size (by omega)).trans HX.out.2)
    have hz2 := hb2.size
    obtain ⟨d0, d1, d2, d3, d4⟩ := H5.out.1.kept B2.out
    have TW := Lib.hid (twin_any v.k v.n v.s y v.len cy v.z hlv w2 (H5.out.2.kept B2.out))
    clear hb2
    go_wp2_with fail
    refine TW.out.mono ?_
    rintro e w3 ⟨⟨a3, c3, rfl, hn3, hr3⟩, hb3⟩
    have B3 := Lib.hid (B2.out.trans (hb3.mono (by omega)))
    have V3 := (hb3.block w.heap.size (by omega)).trans V2.out
    obtain ⟨⟨c0, c1, c2, c3'⟩, ⟨f0, f1, f2, f3⟩⟩ := four V3
    have R3 := Lib.hid (And.intro (hr3 w3 (Kept.refl _ _)) hn3)
    clear hb3 V3 hr3 hn3 d0 d1 d2 d3 d4
    go_wp2_with fail
    have hb4 := Lib.hid (four_below4 B3.out (Nat.le_refl _) (.int .i64 v.k) (.int .i64 (twN v.k v.n)) (.string (twS v.k v.s)) (.slice a3 (twL v.k v.len) c3))
    have hk4 := Lib.hid (R3.out.1.keptS (four_kept w3 w.heap.size (.int .i64 v.k) (.int .i64 (twN v.k v.n)) (.string (twS v.k v.s)) (.slice a3 (twL v.k v.len) c3)) (fun q hq h => by have := R3.out.2 q hq; omega))
    exact bodyPost_ret (v := .tuple #[.agg #[.int .i64 v.k, .int .i64 (twN v.k v.n), .string (twS v.k v.s), .slice a3 (twL v.k v.len) c3], .bool true]) (by simp [results, Try.results34, go_sem, *]) rfl (GP.out _ _ _ hk4.out (fun q hq => by have := R3.out.2 q hq; have := B2.out.size; omega) hb4.out)
  · have hh' : has (nmD (twsA A n)) x = false := by simpa using hh
    rw [hh'] at SF
    have HH := Lib.hid hh
    clear hh hh'
    go_enter Try.func34, Try.ntmps34
    go_wp2_with fail
    refine (SF.out _).mono ?_
    rw [HW.out]
    rintro e w2 ⟨rfl, hb2⟩
    have B2 := Lib.hid (HX.out.1.trans (hb2.mono HX.out.1.size))
    have V2 := (hb2.block w.heap.size (by omega)).trans HX.out.2
    obtain ⟨⟨c0, c1, c2, c3⟩, ⟨f0, f1, f2, f3⟩⟩ := four V2
    clear hb2 V2
    go_wp2_with fail
    have hb4 := Lib.hid (four_below4 B2.out (Nat.le_refl _) (.int .i64 0) (.int .i64 0) (.string ⟨#[]⟩) (.slice none 0 0))
    exact bodyPost_ret (v := .tuple #[.agg #[.int .i64 0, .int .i64 0, .string ⟨#[]⟩, .slice none 0 0], .bool false]) (by simp [results, Try.results34, go_sem, *]) rfl ⟨by rw [if_neg HH.out], hb4.out⟩

end Go.Proofs.Ytpdobbdbmgeoiaa
