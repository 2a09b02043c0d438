/-
  No statement: what these walks need, of earlier texts: XOfA, WDropL, WGet.
-/
import Derived.Test.YtcmcnmmhkpolcaaHW4
import Derived.Test.YtcmcnmmhkpolcaaProg
import Derived.Deep.LoopGhost
import Derived.Shelf.Spec.SlicesInsertGrow
import Derived.WalkKit
import Derived.WalkSpells
import Derived.IntWalk
import Derived.Lib.Hide
import Derived.LoopTactic
import Derived.Deep.QuietTactic
import Derived.BigQuiet
import Derived.StillTailTactics
import Derived.Deep.RegionHeld3
import Derived.Deep.RegionLaw
import Derived.Lib.SliceRun
import Derived.Lib.SlicesDelete
import Derived.WalkLawsBesides
import Derived.Deep.Cut
import Derived.Test.YtcmcnmmhkpolcaaShelf
import Derived.Lib.Builder
import Derived.Lib.AppendStr
import Derived.RangeFuncRecord
import Derived.Lib.AppendIntMem
import Derived.Lib.AtoiErrMem
import Derived.Lib.ParseIntB
import Derived.Lib.ParseIntBTie
import Derived.Lib.ItoaLen
import Derived.Laws.BytesString
import Derived.RangeFuncBox
import Derived.Maps.AppendAt
import Derived.Laws.IdiomStrings
import Derived.Deep.Slices
import Derived.Deep.Fields
import Derived.ChangeSame
namespace Go.Proofs.Ytcmcnmmhkpolcaa.Wr
section
open Go.RowKit

/-- The five cells of an attribute, as a list. -/
def fiveL (x : AD) (y : Option Addr) (c : Nat) : List Value := [.string x.m, .int .i64 x.k, .int .i64 x.n, .string x.s, .slice y x.len c]

/-- The cells of the first k attributes. -/
def cellsA (A : Nat → AD) (Y : Nat → Option Addr) (C : Nat → Nat) : Nat → List Value
  | 0 => []
  | k + 1 => cellsA A Y C k ++ fiveL (A k) (Y k) (C k)

theorem cellsA_len (A : Nat → AD) (Y : Nat → Option Addr) (C : Nat → Nat) : ∀ k, (cellsA A Y C k).length = k * 5
  | 0 => rfl
  | k + 1 => by rw [cellsA, List.length_append, cellsA_len A Y C k]; show k * 5 + 5 = _; omega

theorem cellsA_at (A : Nat → AD) (Y : Nat → Option Addr) (C : Nat → Nat) {i : Nat} (hi : i < 5) : ∀ {k j : Nat}, j < k → (cellsA A Y C k)[j * 5 + i]? = (fiveL (A j) (Y j) (C j))[i]?
  | 0, j, h => by omega
  | k + 1, j, h => by
    have hl := cellsA_len A Y C k
    rw [cellsA]
    by_cases hj : j < k
    · rw [List.getElem?_append_left (by omega)]
      exact cellsA_at A Y C hi hj
    · obtain rfl : j = k := by omega
      rw [List.getElem?_append_right (by omega), hl, show j * 5 + i - j * 5 = i by omega]

theorem fiveL_one (x : AD) (y : Option Addr) (c : Nat) : ∀ u ∈ fiveL x y c, u.oneCell' = true := by
  intro u hu
  simp only [fiveL, List.mem_cons, List.not_mem_nil, or_false] at hu
  rcases hu with rfl | rfl | rfl | rfl | rfl <;> rfl

/-- What is owned so reads as those attributes. -/
theorem readsA_own {w : World} {base : Nat} {e : TypeId} {v : Value} {n : Nat} {A : Nat → AD} {Y : Nat → Option Addr} {C : Nat → Nat} (h : w.ownsRow base e 5 v n (cellsA A Y C n)) (hr : ∀ j, j < n → Reads w (Y j) (A j).len (A j).z) :
    ∃ a c, v = .slice a n c ∧ ReadsA w a n A := by
  rcases h.2 with ⟨rfl, rfl⟩ | ⟨g, cap, cur, rfl, _, hg, hnc, hcm, _, ht⟩
  · exact ⟨none, 0, rfl, Nat.zero_le _, .inl rfl⟩
  · refine ⟨_, _, rfl, Nat.le_trans hnc hcm, .inr ⟨g, 0, rfl, fun j hj => ⟨Y j, C j, ?_, hr j hj⟩⟩⟩
    have cell : ∀ i u, i < 5 → (fiveL (A j) (Y j) (C j))[i]? = some u → w.cell? ⟨g, 0 + j * 5 + i, none⟩ = some u := fun i u hi hu => by
      rw [Nat.zero_add]
      obtain ⟨g', hg', hc⟩ := owns_at h (by rw [cellsA_at A Y C hi hj]; exact hu)
      simp only [Addr.mk.injEq] at hg'
      obtain ⟨rfl, _⟩ := hg'
      exact hc
    exact ⟨cell 0 _ (by omega) rfl, cell 1 _ (by omega) rfl, cell 2 _ (by omega) rfl, cell 3 _ (by omega) rfl, cell 4 _ (by omega) rfl⟩

/-- Attributes made anew. -/
def OfPost (w0 w : World) (n : Nat) (A : Nat → AD) (e : Ending) (w' : World) : Prop := (∃ a c, e = .returned (.slice a n c) ∧ ∀ w3, Kept (fun k => w0.heap.size ≤ k ∧ k < w.heap.size) w' w3 → ReadsA w3 a n A) ∧ Below w.heap.size w w'

theorem new_five (w : World) (x : AD) (y : Option Addr) (c : Nat) : ∀ j u, (fiveL x y c)[j]? = some u → (w.alloc (.cells #[.string x.m, .int .i64 x.k, .int .i64 x.n, .string x.s, .slice y x.len c] 69)).cell? ((⟨w.heap.size, 0, none⟩ : Addr).add j) = some u := fun j u hj => by
  rw [Addr.add_lit, Nat.zero_add, cell_of_row _ _ _ _ _ (0, 0) (heap_alloc_new w _)]
  simpa [fiveL] using hj

theorem own_slice {w : World} {base : Nat} {e : TypeId} {size : Nat} {v : Value} {n : Nat} {xs : List Value} (h : w.ownsRow base e size v n xs) : ∃ a l c, v = .slice a l c := by
  rcases h.2 with ⟨h, _⟩ | ⟨g, cap, _, h, _⟩
  · exact ⟨_, _, _, h⟩
  · exact ⟨_, _, _, h⟩

theorem ofInfo : (Try.prog.info? 69).map (fun i => (i.zero, i.size, i.bytes)) = some (some (.agg #[.string ⟨#[]⟩, .int .i64 0, .int .i64 0, .string ⟨#[]⟩, .slice none 0 0]), 5, 72) := by kernel_rfl

set_option maxRecDepth 100000 in
set_option maxHeartbeats 4000000 in
theorem ofAttrs_any (a : Option Addr) (n c : Nat) (A : Nat → AD) (hn : n ≤ 1000) (w0 w : World) (h : ReadsA w0 a n A) (h0w : Below w0.heap.size w0 w) :
    Calls Try.prog 13 #[.slice a n c] w (OfPost w0 w n A) := by
  obtain ⟨i0, hi, hz0, hz1, hz2⟩ := info_parts ofInfo
  have und : Try.prog.underlying 37 = some (.slice 69) := Try.underlying37
  have hm := h.1
  unfold maxLen at hm
  by_cases h0 : n = 0
  · subst h0
    have P := Lib.hid (show OfPost w0 w 0 A (.returned (.slice none 0 0)) w from ⟨⟨none, 0, rfl, fun _ _ => ⟨Nat.zero_le _, .inl rfl⟩⟩, Below.refl _ _⟩)
    clear h h0w
    go_enter Try.func13, Try.ntmps13
    go_wp2_with fail
    go_loop [3, 4] (fun v i => v = .slice none 0 0 ∧ i = .int .i64 0) (fun _ _ => 0)
    case atStart => exact ⟨rfl, rfl⟩
    case round =>
      obtain ⟨rfl, rfl⟩ := hrel
      go_wp2_with fail
      go_ret
      exact P.out
  obtain ⟨-, h1⟩ := h
  obtain ⟨b, off, rfl, hc⟩ := h1.resolve_left h0
  obtain ⟨Y, hY⟩ := Go.Deep.choose_lt hc
  obtain ⟨C, hC⟩ := Go.Deep.choose_lt hY
  have HC := Lib.hid hC
  have H0 := Lib.hid h0w
  have hz0w := h0w.size
  clear hc hY hC h0 h0w
  go_enter Try.func13, Try.ntmps13
  go_wp2_with fail
  go_loopw [3, 4] (fun v i wr => ∃ (k : Nat) (va : Option Addr) (vl vc : Nat), v = .slice va vl vc ∧ i = .int .i64 k ∧ k ≤ n ∧ Hid (wr.ownsRow w.heap.size 69 5 (.slice va vl vc) k (cellsA A Y C k)) ∧ Hid (Below w.heap.size w wr)) (fun _ i _ => n - (intOf i).toNat)
  case atStart => exact ⟨0, none, 0, 0, rfl, rfl, Nat.zero_le _, Lib.hid (World.ownsRow_nil _ _ _ _), Lib.hid (Below.refl _ _)⟩
  case round =>
    obtain ⟨k, va, vl, vc, rfl, rfl, hk, hO, hB⟩ := hrel
    by_cases hlt : k < n
    · obtain ⟨g0, r0⟩ := HC.out k hlt
      obtain ⟨x, hx⟩ : ∃ x, A k = x := ⟨_, rfl⟩
      obtain ⟨y, hy⟩ : ∃ y, Y k = y := ⟨_, rfl⟩
      obtain ⟨ce, he⟩ : ∃ e, C k = e := ⟨_, rfl⟩
      have hnx : cellsA A Y C (k + 1) = cellsA A Y C k ++ fiveL x y ce := by rw [cellsA, hx, hy, he]
      rw [hx, hy, he] at g0
      have NX := Lib.hid hnx
      have G := Lib.hid (p := ∀ w', Below w.heap.size w w' → Cells5 w' b (off + k * 5) x y ce) (fun w' hb => g0.kept (H0.out.trans (hb.mono hz0w)))
      have hz := hB.out.size
      have hdr : Below wr.heap.size wr wr.drew := ⟨rfl, rfl, rfl, Nat.le_refl _, fun _ _ => rfl⟩
      have HDR := Lib.hid hdr
      have NEW := Lib.hid (fun w => new_five w x y ce)
      have OF := Lib.hid (fun w => of_any x.k x.n x.s y x.len ce w)
      unfold val at OF
      obtain ⟨p0, p1, p2, p3, p4⟩ := G.out _ hB.out
      clear g0 r0 hx hy he hnx hdr
      go_wp2_with fail
      go_region_held3 (fun w' => w'.cell? ⟨b, off + k * 5, none⟩ = some (.string x.m) ∧ w'.cell? ⟨b, off + k * 5 + 1, none⟩ = some (.int .i64 x.k) ∧ w'.cell? ⟨b, off + k * 5 + 2, none⟩ = some (.int .i64 x.n) ∧ w'.cell? ⟨b, off + k * 5 + 3, none⟩ = some (.string x.s) ∧ w'.cell? ⟨b, off + k * 5 + 4, none⟩ = some (.slice y x.len ce)) (first | assumption | (refine ⟨?_, ?_, ?_, ?_, ?_⟩ <;> (first | assumption | (go_keep; done)))) (first
        | (go_at_call 31
           with_reducible refine (OF.out _).mono ?_
           rintro e w2 ⟨rfl, hb⟩
           have B2 := Lib.hid (hB.out.trans ((HDR.out.trans hb).mono hz))
           have O2 := Lib.hid (owns_below hO.out (HDR.out.trans hb))
           have cc := G.out _ B2.out
           clear hb)
        | (refine step_append_one rfl (.tmp 11) (.tmp 24) 37 rfl (base := w.heap.size) und hi hz0 hz1 hz2 rfl (by decide) (.slice va vl vc) k (cellsA A Y C k) (fiveL x y ce) ⟨w2.heap.size, 0, none⟩ 1 (by first | (simp [Act.eval]; done) | fail) (by first | (simp [Act.eval]; done) | fail) (O2.out.alloc _) rfl (NEW.out w2) (fiveL_one x y ce) (by unfold maxLen; omega) (by omega) (by have := B2.out.size; simp; omega) ?_
           intro v3 w3 ho hg
           have O3 := Lib.hid ho
           have B3 := Lib.hid ((B2.out.alloc B2.out.size (.cells #[.string x.m, .int .i64 x.k, .int .i64 x.n, .string x.s, .slice y x.len ce] 69)).grown hg (by have := B2.out.size; simp; omega) (fun q hq => (O2.out.lt q hq).1))
           have cc := G.out _ B3.out
           clear ho hg)
        | fail)
      obtain ⟨va', vl', vc', rfl⟩ := own_slice O3.out
      have O4 := Lib.hid (p := w3.ownsRow w.heap.size 69 5 (.slice va' vl' vc') (k + 1) (cellsA A Y C (k + 1))) (by rw [NX.out]; exact O3.out)
      clear O3 O2 B2 p0 p1 p2 p3 p4
      go_wp2_with fail
      go_roundw
      case rel => exact ⟨k + 1, va', vl', vc', rfl, by go_num, by omega, O4, B3⟩
      case measure => simp [intOf]; omega
    · obtain rfl : k = n := by omega
      have hl : vl = k := by
        rcases hO.out.2 with ⟨h, h'⟩ | ⟨g, cap, _, h, _⟩
        · simp only [Value.slice.injEq] at h; omega
        · simp only [Value.slice.injEq] at h; omega
      subst hl
      have P := Lib.hid (show OfPost w0 w vl A (.returned (.slice va vl vc)) wr from ⟨⟨_, _, rfl, fun w3 k3 => by
        have b3 : Below w0.heap.size w0 w3 := (H0.out.trans (hB.out.mono hz0w)).trans (k3.below (fun k h => h.1) (by have := hB.out.size; omega))
        obtain ⟨a', c', hv, hr⟩ := readsA_own (k3.owns hO.out (fun q hq h => by have := (hO.out.lt q hq).1; omega)) (fun j hj => (HC.out j hj).2.kept b3)
        simp only [Value.slice.injEq] at hv
        obtain ⟨rfl, _, rfl⟩ := hv
        exact hr⟩, hB.out⟩)
      go_wp2_with fail
      go_ret
      exact P.out

end

section
open Go.RowKit

/-- Attributes as a list: put, dropped. -/
def nmD (D : List AD) : List ByteArray := D.map (·.m)

end

section
open Go.RowKit

theorem cbLt : ∀ x y : List UInt8, decide (Lib.compareBytes x y < 0) = Op.bytesLess x y
  | [], [] => rfl
  | [], _ :: _ => rfl
  | _ :: _, [] => rfl
  | a :: r, b :: t => by
    have ih := cbLt r t
    unfold Lib.compareBytes Op.bytesLess
    by_cases h : a < b
    · simp [h]
    · by_cases h' : b < a
      · have : (a == b) = false := by rw [beq_eq_false_iff_ne]; rintro rfl; exact h h'
        simp [h, h', this]
      · have : a = b := UInt8.le_antisymm (UInt8.not_lt.1 h') (UInt8.not_lt.1 h)
        subst this
        simp [h, ih]

theorem cbEq : ∀ x y : List UInt8, decide (Lib.compareBytes x y = 0) = decide (x = y)
  | [], [] => rfl
  | [], _ :: _ => rfl
  | _ :: _, [] => rfl
  | a :: r, b :: t => by
    have ih := cbEq r t
    unfold Lib.compareBytes
    by_cases h : a < b
    · have : a ≠ b := by rintro rfl; exact absurd h (UInt8.lt_irrefl a)
      simp [h, this]
    · by_cases h' : b < a
      · have : a ≠ b := by rintro rfl; exact h h'
        simp [h, h', this]
      · have : a = b := UInt8.le_antisymm (UInt8.not_lt.1 h') (UInt8.not_lt.1 h)
        subst this
        simpa [h] using ih

set_option maxHeartbeats 1000000 in
theorem compareName_any (x : AD) (y : Option Addr) (c : Nat) (s : ByteArray) (w : World) :
    Calls Try.prog 77 #[.agg #[.string x.m, .int .i64 x.k, .int .i64 x.n, .string x.s, .slice y x.len c], .string s] w fun e w' => e = .returned (.int .i64 (Lib.compareBytes x.m.data.toList s.data.toList)) ∧ Below w.heap.size w w' := by
  have bl : ∀ o, Below w.heap.size w (w.alloc o) := fun o => (Below.refl _ _).alloc (Nat.le_refl _) _
  have BL := Lib.hid bl
  clear bl
  go_enter Try.func77, Try.ntmps77
  go_wp2_with fail
  refine (Try.strings_Compare _ _ _).mono ?_
  rintro e w' ⟨rfl, rfl⟩
  have P := Lib.hid (BL.out (.cells #[.string x.m, .int .i64 x.k, .int .i64 x.n, .string x.s, .slice y x.len c] 51))
  go_wp2_with fail
  go_ret
  exact ⟨rfl, P.out⟩

theorem rising_nm {A : Nat → AD} {n : Nat} (hR : RiseA A n) : Rising lsS (nmD (twsA A n)) := by
  have : nmD (twsA A n) = (List.range n).map (fun j => (A j).m) := by simp [nmD, twsA, twA]
  rw [this]
  unfold Rising
  rw [List.pairwise_map]
  exact List.Pairwise.imp_of_mem (fun {i j} hi hj h => hR i j h (List.mem_range.1 hj)) List.pairwise_lt_range

theorem nm_at (A : Nat → AD) {n t : Nat} (ht : t < n) : (nmD (twsA A n))[t]? = some (A t).m := by
  have : nmD (twsA A n) = (List.range n).map (fun j => (A j).m) := by simp [nmD, twsA, twA]
  rw [this, List.getElem?_map, List.getElem?_range ht]; rfl

set_option maxRecDepth 100000 in
set_option maxHeartbeats 4000000 in
theorem searchF_none (a : Option Addr) (c : Nat) (f : Value) (x : ByteArray) (w : World) :
    Calls Try.prog 76 #[.slice a 0 c, .string x, f] w fun e w' => e = .returned (.tuple #[.int .i64 (0 : Nat), .bool false]) ∧ w' = w := by
  go_enter Try.func76, Try.ntmps76
  go_wp2
  go_loop [9, 10] (fun s7 s8 => s7 = .int .i64 0 ∧ s8 = .int .i64 0) (fun _ _ => 0)
  case atStart => exact ⟨rfl, rfl⟩
  case round =>
    obtain ⟨rfl, rfl⟩ := hrel
    go_wp2
    go_ret2
    exact ⟨rfl, rfl⟩

set_option maxRecDepth 100000 in
set_option maxHeartbeats 4000000 in
theorem searchF_some (b off : Nat) (n c : Nat) (A : Nat → AD) (x : ByteArray) (hn : n ≤ 1000) (hR : RiseA A n) (w : World) (h : ∀ j, j < n → ∃ y c, Cells5 w b (off + j * 5) (A j) y c) :
    Calls Try.prog 76 #[.slice (some ⟨b, off, none⟩) n c, .string x, .func (.func 77) #[] #[]] w fun e w' =>
      e = .returned (.tuple #[.int .i64 (pos lsS (nmD (twsA A n)) x : Nat), .bool (has (nmD (twsA A n)) x)]) ∧ Below w.heap.size w w' := by
  have hr := rising_nm hR
  have hl : (nmD (twsA A n)).length = n := by simp [nmD, twsA]
  have hat : ∀ t, t < n → (nmD (twsA A n))[t]? = some (A t).m := fun t ht => nm_at A ht
  generalize nmD (twsA A n) = ks at hr hl hat
  have hS := search_pos strictS hr x
  rw [hl] at hS
  obtain ⟨I, hI⟩ : ∃ I, pos lsS ks x = I := ⟨_, rfl⟩
  obtain ⟨B, hB⟩ : ∃ B, B = has ks x := ⟨_, rfl⟩
  have hIn : I ≤ n := by rw [← hI, ← hl]; exact pos_le _ _
  rw [hI] at hS
  rw [hI, ← hB]
  have HE := Lib.hid (p := I < n → decide ((A I).m = x) = B) (fun hy => by rw [hB, found_iff strictS hr hI (hat I hy)])
  have HN := Lib.hid (p := n ≤ I → false = B) (fun h => by rw [hB]; exact (found_none strictS hr hI (by omega)).symm)
  have HG := Lib.hid (p := ∀ t, t < n → ks.getD t x = (A t).m) (fun t ht => by rw [List.getD_eq_getElem?_getD, hat t ht]; rfl)
  have HS := Lib.hid hS
  have HC := Lib.hid h
  clear hS hI hB hr hl hat h hR
  go_enter Try.func76, Try.ntmps76
  go_wp2_with fail
  go_loopg [9, 10] n (fun g s7 s8 wr => ∃ lo hi : Nat, s7 = .int .i64 lo ∧ s8 = .int .i64 hi ∧ lo ≤ hi ∧ hi ≤ n ∧ hi - lo ≤ g ∧ Hid (Below w.heap.size w wr) ∧ Hid (Lib.bsGo (fun t => lsS (ks.getD t x) x) g lo hi = I))
  case atStart => exact ⟨0, n, rfl, rfl, Nat.zero_le _, Nat.le_refl _, by omega, Lib.hid (Below.refl _ _), HS⟩
  case round =>
    obtain ⟨lo, hi, rfl, rfl, hlh, hin, hg, hBl, hb⟩ := hrel
    by_cases hlt : lo < hi
    · obtain ⟨y, cy, h50⟩ := HC.out ((lo + hi) / 2) (by omega)
      have h5 := h50.kept hBl.out
      obtain ⟨g', rfl⟩ : ∃ g', gk = g' + 1 := ⟨gk - 1, by omega⟩
      have hb1 := hb.out
      have hgt := HG.out ((lo + hi) / 2) (by omega)
      clear hb h50
      simp only [Lib.bsGo, hlt, if_true] at hb1
      obtain ⟨z, hz⟩ : ∃ z, A ((lo + hi) / 2) = z := ⟨_, rfl⟩
      rw [hz] at h5 hgt
      simp only [hgt] at hb1
      have hcb := cbLt z.m.data.toList x.data.toList
      rw [← Lib.toList_data, ← Lib.toList_data, show Op.bytesLess z.m.toList x.toList = lsS z.m x from rfl, Lib.toList_data, Lib.toList_data] at hcb
      have CN := Lib.hid (fun w' => compareName_any z y cy x w')
      obtain ⟨d0, d1, d2, d3, d4⟩ := h5
      have hsz := hBl.out.size
      clear hz hgt
      cases hyx : lsS z.m x <;> simp only [hyx, if_true, Bool.false_eq_true, if_false] at hb1 hcb
      · have HB := Lib.hid hb1
        clear hb1 hyx
        go_wp2_with fail
        refine (CN.out _).mono ?_
        rintro e w2 ⟨rfl, hb2⟩
        have B2 := Lib.hid (hBl.out.trans (hb2.mono hsz))
        clear hb2
        go_wp2_with fail
        go_roundg ((lo + hi) / 2 - lo)
        case measure => omega
        case rel => exact ⟨lo, (lo + hi) / 2, rfl, by rw [show ((lo : Int) + (hi : Int)) / 2 = (((lo + hi) / 2 : Nat) : Int) by omega], by omega, by omega, Nat.le_refl _, B2, Lib.hid (by rw [← HB.out]; exact Lib.bsGo_fuel _ _ _ _ _ (Nat.le_refl _) (by omega))⟩
      · have HB := Lib.hid hb1
        clear hb1 hyx
        go_wp2_with fail
        refine (CN.out _).mono ?_
        rintro e w2 ⟨rfl, hb2⟩
        have B2 := Lib.hid (hBl.out.trans (hb2.mono hsz))
        clear hb2
        go_wp2_with fail
        go_roundg (hi - ((lo + hi) / 2 + 1))
        case measure => omega
        case rel => exact ⟨(lo + hi) / 2 + 1, hi, by rw [show ((lo : Int) + (hi : Int)) / 2 + 1 = (((lo + hi) / 2 + 1 : Nat) : Int) by omega], rfl, by omega, hin, Nat.le_refl _, B2, Lib.hid (by rw [← HB.out]; exact Lib.bsGo_fuel _ _ _ _ _ (Nat.le_refl _) (by omega))⟩
    · obtain rfl : hi = lo := by omega
      obtain rfl : hi = I := by
        rw [← hb.out]
        cases gk <;> simp [Lib.bsGo]
      clear hb HS
      by_cases hn : hi < n
      · obtain ⟨y, cy, h50⟩ := HC.out hi hn
        have h5 := h50.kept hBl.out
        have hBx := HE.out hn
        obtain ⟨z, hz⟩ : ∃ z, A hi = z := ⟨_, rfl⟩
        rw [hz] at h5 hBx
        have hcb := cbEq z.m.data.toList x.data.toList
        rw [show decide (z.m.data.toList = x.data.toList) = decide (z.m = x) from by
          by_cases hq : z.m = x
          · simp [hq]
          · rw [decide_eq_false hq]; exact decide_eq_false (fun h => hq (bytes_eq (by rw [Lib.toList_data, Lib.toList_data]; exact h))), hBx, show decide (Lib.compareBytes z.m.data.toList x.data.toList = 0) = (Lib.compareBytes z.m.data.toList x.data.toList == 0) from rfl] at hcb
        have CN := Lib.hid (fun w' => compareName_any z y cy x w')
        obtain ⟨d0, d1, d2, d3, d4⟩ := h5
        have hsz := hBl.out.size
        clear HE HN HC HG hz hBx h50
        go_wp2_with fail
        refine (CN.out _).mono ?_
        rintro e w2 ⟨rfl, hb2⟩
        have B2 := Lib.hid (hBl.out.trans (hb2.mono hsz))
        clear hb2
        go_wp2_with fail
        go_ret2
        exact ⟨rfl, B2.out⟩
      · have HB := HN.out (by omega)
        subst HB
        clear HE HN HC HG
        go_wp2_with fail
        go_ret2
        exact ⟨rfl, hBl.out⟩

/-- slices.BinarySearchFunc of attributes whose names rise. -/
theorem searchF_any (a : Option Addr) (n c : Nat) (A : Nat → AD) (x : ByteArray) (hn : n ≤ 1000) (hR : RiseA A n) (w : World) (h : ReadsA w a n A) :
    Calls Try.prog 76 #[.slice a n c, .string x, .func (.func 77) #[] #[]] w fun e w' =>
      e = .returned (.tuple #[.int .i64 (pos lsS (nmD (twsA A n)) x : Nat), .bool (has (nmD (twsA A n)) x)]) ∧ Below w.heap.size w w' := by
  rcases h.2 with rfl | ⟨b, off, rfl, hc⟩
  · exact (searchF_none a c _ x w).mono fun e w' ⟨he, hw⟩ => ⟨he, by rw [hw]; exact Below.refl _ _⟩
  · exact searchF_some b off n c A x hn hR w (fun j hj => by obtain ⟨y, c, h, _⟩ := hc j hj; exact ⟨y, c, h⟩)

/-- What Get answers of what is there. -/
def GetPost (w : World) (A : Nat → AD) (n : Nat) (x : ByteArray) (e : Ending) (w' : World) : Prop :=
  (if has (nmD (twsA A n)) x = true then ∃ v a c, pos lsS (nmD (twsA A n)) x < n ∧ A (pos lsS (nmD (twsA A n)) x) = v ∧ e = .returned (.tuple #[.agg #[.int .i64 v.k, .int .i64 (twN v.k v.n), .string (twS v.k v.s), .slice a (twL v.k v.len) c], .bool true]) ∧ Reads w' a (twL v.k v.len) v.z
    else e = .returned (.tuple #[.agg #[.int .i64 0, .int .i64 0, .string ⟨#[]⟩, .slice none 0 0], .bool false])) ∧ Below w.heap.size w w'

set_option maxRecDepth 100000 in
set_option maxHeartbeats 4000000 in
theorem getL_any (a : Option Addr) (n c : Nat) (A : Nat → AD) (x : ByteArray) (hn : n ≤ 1000) (hl : ∀ j, j < n → (A j).len ≤ 1000000) (hR : RiseA A n) (w : World) (h : ReadsA w a n A) :
    Calls Try.prog 55 #[.slice a n c, .string x] w (GetPost w A n x) := by
  have BL : ∀ o, Below w.heap.size w (w.alloc o) := fun o => (Below.refl _ _).alloc (Nat.le_refl _) _
  have SF := Lib.hid (fun o => searchF_any a n c A x hn hR (w.alloc o) (h.kept (BL o)))
  obtain ⟨W, hW⟩ : ∃ W, w.alloc (.cells #[.int .i64 0, .int .i64 0, .string ⟨#[]⟩, .slice none 0 0] 49) = W := ⟨_, rfl⟩
  have hWb : Below w.heap.size w W := by rw [← hW]; exact BL _
  have hWs : W.heap.size = w.heap.size + 1 := by rw [← hW]; simp
  have hW4 : W.heap[w.heap.size]? = some (.cells #[.int .i64 0, .int .i64 0, .string ⟨#[]⟩, .slice none 0 0] 49 (0, 0)) := by rw [← hW]; exact heap_alloc_new w _
  have HW := Lib.hid hW
  have HX := Lib.hid (And.intro hWb hW4)
  have RA := Lib.hid h
  have HLn := Lib.hid hl
  have hrn := rising_nm hR
  have hnl : (nmD (twsA A n)).length = n := by simp [nmD, twsA]
  have HRN := Lib.hid (And.intro hrn hnl)
  clear hWb hW4 hW h hl hR BL hrn hnl
  by_cases hh : has (nmD (twsA A n)) x = true
  · have hp : pos lsS (nmD (twsA A n)) x < n := by
      have := (mem_iff_pos strictS HRN.out.1).1 ((has_iff _ _).1 hh)
      have := (List.getElem?_eq_some_iff.1 this).1
      rwa [HRN.out.2] at this
    rw [hh] at SF
    have HH := Lib.hid hh
    obtain ⟨I, hI⟩ : ∃ I, pos lsS (nmD (twsA A n)) x = I := ⟨_, rfl⟩
    obtain ⟨v, hv⟩ : ∃ v, A I = v := ⟨_, rfl⟩
    rw [hI] at SF hp
    have GP := Lib.hid (p := ∀ a' c' w', Reads w' a' (twL v.k v.len) v.z → Below w.heap.size w w' → GetPost w A n x (.returned (.tuple #[.agg #[.int .i64 v.k, .int .i64 (twN v.k v.n), .string (twS v.k v.s), .slice a' (twL v.k v.len) c'], .bool true])) w') (fun a' c' w' hr hb => ⟨by
      rw [if_pos HH.out, hI]
      exact ⟨v, a', c', hp, hv, rfl, hr⟩, hb⟩)
    obtain ⟨b, off, rfl, hc⟩ := RA.out.2.resolve_left (by omega)
    obtain ⟨y, cy, h5, hry⟩ := hc I hp
    have hlv := HLn.out I hp
    rw [hv] at h5 hry hlv
    have H5 := Lib.hid (And.intro h5 hry)
    clear hc hv h5 hry hI hh
    go_enter Try.func55, Try.ntmps55
    go_wp2_with fail
    refine (SF.out _).mono ?_
    rw [HW.out]
    rintro e w2 ⟨rfl, hb2⟩
    have B2 := Lib.hid (HX.out.1.trans (hb2.mono HX.out.1.size))
    have V2 := Lib.hid ((hb2.block w.heap.size (by omega)).trans HX.out.2)
    have hz2 := hb2.size
    obtain ⟨d0, d1, d2, d3, d4⟩ := H5.out.1.kept B2.out
    have TW := Lib.hid (twin_any v.k v.n v.s y v.len cy v.z hlv w2 (H5.out.2.kept B2.out))
    clear hb2
    go_wp2_with fail
    refine TW.out.mono ?_
    rintro e w3 ⟨⟨a3, c3, rfl, hn3, hr3⟩, hb3⟩
    have B3 := Lib.hid (B2.out.trans (hb3.mono (by omega)))
    have V3 := (hb3.block w.heap.size (by omega)).trans V2.out
    obtain ⟨⟨c0, c1, c2, c3'⟩, ⟨f0, f1, f2, f3⟩⟩ := four V3
    have R3 := Lib.hid (And.intro (hr3 w3 (Kept.refl _ _)) hn3)
    clear hb3 V3 hr3 hn3 d0 d1 d2 d3 d4
    go_wp2_with fail
    have hb4 := Lib.hid (four_below4 B3.out (Nat.le_refl _) (.int .i64 v.k) (.int .i64 (twN v.k v.n)) (.string (twS v.k v.s)) (.slice a3 (twL v.k v.len) c3))
    have hk4 := Lib.hid (R3.out.1.keptS (four_kept w3 w.heap.size (.int .i64 v.k) (.int .i64 (twN v.k v.n)) (.string (twS v.k v.s)) (.slice a3 (twL v.k v.len) c3)) (fun q hq h => by have := R3.out.2 q hq; omega))
    exact bodyPost_ret (v := .tuple #[.agg #[.int .i64 v.k, .int .i64 (twN v.k v.n), .string (twS v.k v.s), .slice a3 (twL v.k v.len) c3], .bool true]) (by simp [results, Try.results55, go_sem, *]) rfl (GP.out _ _ _ hk4.out hb4.out)
  · have hh' : has (nmD (twsA A n)) x = false := by simpa using hh
    rw [hh'] at SF
    have HH := Lib.hid hh
    clear hh hh'
    go_enter Try.func55, Try.ntmps55
    go_wp2_with fail
    refine (SF.out _).mono ?_
    rw [HW.out]
    rintro e w2 ⟨rfl, hb2⟩
    have B2 := Lib.hid (HX.out.1.trans (hb2.mono HX.out.1.size))
    have V2 := (hb2.block w.heap.size (by omega)).trans HX.out.2
    obtain ⟨⟨c0, c1, c2, c3⟩, ⟨f0, f1, f2, f3⟩⟩ := four V2
    clear hb2 V2
    go_wp2_with fail
    have hb4 := Lib.hid (four_below4 B2.out (Nat.le_refl _) (.int .i64 0) (.int .i64 0) (.string ⟨#[]⟩) (.slice none 0 0))
    exact bodyPost_ret (v := .tuple #[.agg #[.int .i64 0, .int .i64 0, .string ⟨#[]⟩, .slice none 0 0], .bool false]) (by simp [results, Try.results55, go_sem, *]) rfl ⟨by rw [if_neg HH.out], hb4.out⟩

end

end Go.Proofs.Ytcmcnmmhkpolcaa.Wr
