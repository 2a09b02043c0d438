/-
  No statement: the law's own OfAttrs and Of: attributes and rows made anew, of the same data.
-/
import Derived.Test.YtgcjfalgngiebaaGreatDoorXOf
import Derived.Deep.Slices
namespace Go.Proofs.YtgcjfalgngiebaaGreatDoor
open Go.RowKit

/-- The five cells of an attribute, as a list. -/
def fiveL (x : AD) (y : Option Addr) (c : Nat) : List Value := [.string x.m, .int .i64 x.k, .int .i64 x.n, .string x.s, .slice y x.len c]

/-- The cells of the first k attributes. -/
def cellsA (A : Nat → AD) (Y : Nat → Option Addr) (C : Nat → Nat) : Nat → List Value
  | 0 => []
  | k + 1 => cellsA A Y C k ++ fiveL (A k) (Y k) (C k)

theorem cellsA_len (A : Nat → AD) (Y : Nat → Option Addr) (C : Nat → Nat) : ∀ k, (cellsA A Y C k).length = k * 5
  | 0 => rfl
  | k + 1 => by rw [cellsA, List.length_append, cellsA_len A Y C k]; show k * 5 + 5 = _; omega

theorem cellsA_at (A : Nat → AD) (Y : Nat → Option Addr) (C : Nat → Nat) {i : Nat} (hi : i < 5) : ∀ {k j : Nat}, j < k → (cellsA A Y C k)[j * 5 + i]? = (fiveL (A j) (Y j) (C j))[i]?
  | 0, j, h => by omega
  | k + 1, j, h => by
    have hl := cellsA_len A Y C k
    rw [cellsA]
    by_cases hj : j < k
    · rw [List.getElem?_append_left (by omega)]
      exact cellsA_at A Y C hi hj
    · obtain rfl : j = k := by omega
      rw [List.getElem?_append_right (by omega), hl, show j * 5 + i - j * 5 = i by omega]

theorem fiveL_one (x : AD) (y : Option Addr) (c : Nat) : ∀ u ∈ fiveL x y c, u.oneCell' = true := by
  intro u hu
  simp only [fiveL, List.mem_cons, List.not_mem_nil, or_false] at hu
  rcases hu with rfl | rfl | rfl | rfl | rfl <;> rfl

/-- What is owned so reads as those attributes. -/
theorem readsA_own {w : World} {base : Nat} {e : TypeId} {v : Value} {n : Nat} {A : Nat → AD} {Y : Nat → Option Addr} {C : Nat → Nat} (h : w.ownsRow base e 5 v n (cellsA A Y C n)) (hr : ∀ j, j < n → Reads w (Y j) (A j).len (A j).z) :
    ∃ a c, v = .slice a n c ∧ ReadsA w a n A := by
  rcases h.2 with ⟨rfl, rfl⟩ | ⟨g, cap, cur, rfl, _, hg, hnc, hcm, _, ht⟩
  · exact ⟨none, 0, rfl, Nat.zero_le _, .inl rfl⟩
  · refine ⟨_, _, rfl, Nat.le_trans hnc hcm, .inr ⟨g, 0, rfl, fun j hj => ⟨Y j, C j, ?_, hr j hj⟩⟩⟩
    have cell : ∀ i u, i < 5 → (fiveL (A j) (Y j) (C j))[i]? = some u → w.cell? ⟨g, 0 + j * 5 + i, none⟩ = some u := fun i u hi hu => by
      rw [Nat.zero_add]
      obtain ⟨g', hg', hc⟩ := owns_at h (by rw [cellsA_at A Y C hi hj]; exact hu)
      simp only [Addr.mk.injEq] at hg'
      obtain ⟨rfl, _⟩ := hg'
      exact hc
    exact ⟨cell 0 _ (by omega) rfl, cell 1 _ (by omega) rfl, cell 2 _ (by omega) rfl, cell 3 _ (by omega) rfl, cell 4 _ (by omega) rfl⟩

/-- Attributes made anew. -/
def OfPost (w0 w : World) (n : Nat) (A : Nat → AD) (e : Ending) (w' : World) : Prop := (∃ a c, e = .returned (.slice a n c) ∧ ∀ w3, Kept (fun k => w0.heap.size ≤ k ∧ k < w.heap.size) w' w3 → ReadsA w3 a n A) ∧ Below w.heap.size w w'

theorem new_five (w : World) (x : AD) (y : Option Addr) (c : Nat) : ∀ j u, (fiveL x y c)[j]? = some u → (w.alloc (.cells #[.string x.m, .int .i64 x.k, .int .i64 x.n, .string x.s, .slice y x.len c] 63)).cell? ((⟨w.heap.size, 0, none⟩ : Addr).add j) = some u := fun j u hj => by
  rw [Addr.add_lit, Nat.zero_add, cell_of_row _ _ _ _ _ (0, 0) (heap_alloc_new w _)]
  simpa [fiveL] using hj

theorem own_slice {w : World} {base : Nat} {e : TypeId} {size : Nat} {v : Value} {n : Nat} {xs : List Value} (h : w.ownsRow base e size v n xs) : ∃ a l c, v = .slice a l c := by
  rcases h.2 with ⟨h, _⟩ | ⟨g, cap, _, h, _⟩
  · exact ⟨_, _, _, h⟩
  · exact ⟨_, _, _, h⟩

theorem ofInfo : (Tryz.prog.info? 63).map (fun i => (i.zero, i.size, i.bytes)) = some (some (.agg #[.string ⟨#[]⟩, .int .i64 0, .int .i64 0, .string ⟨#[]⟩, .slice none 0 0]), 5, 72) := by kernel_rfl

set_option maxRecDepth 100000 in
set_option maxHeartbeats 4000000 in
theorem ofAttrs_any (a : Option Addr) (n c : Nat) (A : Nat → AD) (hn : n ≤ 1000) (w0 w : World) (h : ReadsA w0 a n A) (h0w : Below w0.heap.size w0 w) :
    Calls Tryz.prog 6 #[.slice a n c] w (OfPost w0 w n A) := by
  obtain ⟨i0, hi, hz0, hz1, hz2⟩ := info_parts ofInfo
  have und : Tryz.prog.underlying 25 = some (.slice 63) := Tryz.underlying25
  have hm := h.1
  unfold maxLen at hm
  by_cases h0 : n = 0
  · subst h0
    have P := Lib.hid (show OfPost w0 w 0 A (.returned (.slice none 0 0)) w from ⟨⟨none, 0, rfl, fun _ _ => ⟨Nat.zero_le _, .inl rfl⟩⟩, Below.refl _ _⟩)
    clear h h0w
    go_enter Tryz.func6, Tryz.ntmps6
    go_wp2_with fail
    go_loop [3, 4] (fun v i => v = .slice none 0 0 ∧ i = .int .i64 0) (fun _ _ => 0)
    case atStart => exact ⟨rfl, rfl⟩
    case round =>
      obtain ⟨rfl, rfl⟩ := hrel
      go_wp2_with fail
      go_ret
      exact P.out
  obtain ⟨-, h1⟩ := h
  obtain ⟨b, off, rfl, hc⟩ := h1.resolve_left h0
  obtain ⟨Y, hY⟩ := Go.Deep.choose_lt hc
  obtain ⟨C, hC⟩ := Go.Deep.choose_lt hY
  have HC := Lib.hid hC
  have H0 := Lib.hid h0w
  have hz0w := h0w.size
  clear hc hY hC h0 h0w
  go_enter Tryz.func6, Tryz.ntmps6
  go_wp2_with fail
  go_loopw [3, 4] (fun v i wr => ∃ (k : Nat) (va : Option Addr) (vl vc : Nat), v = .slice va vl vc ∧ i = .int .i64 k ∧ k ≤ n ∧ Hid (wr.ownsRow w.heap.size 63 5 (.slice va vl vc) k (cellsA A Y C k)) ∧ Hid (Below w.heap.size w wr)) (fun _ i _ => n - (intOf i).toNat)
  case atStart => exact ⟨0, none, 0, 0, rfl, rfl, Nat.zero_le _, Lib.hid (World.ownsRow_nil _ _ _ _), Lib.hid (Below.refl _ _)⟩
  case round =>
    obtain ⟨k, va, vl, vc, rfl, rfl, hk, hO, hB⟩ := hrel
    by_cases hlt : k < n
    · obtain ⟨g0, r0⟩ := HC.out k hlt
      obtain ⟨x, hx⟩ : ∃ x, A k = x := ⟨_, rfl⟩
      obtain ⟨y, hy⟩ : ∃ y, Y k = y := ⟨_, rfl⟩
      obtain ⟨ce, he⟩ : ∃ e, C k = e := ⟨_, rfl⟩
      have hnx : cellsA A Y C (k + 1) = cellsA A Y C k ++ fiveL x y ce := by rw [cellsA, hx, hy, he]
      rw [hx, hy, he] at g0
      have NX := Lib.hid hnx
      have G := Lib.hid (p := ∀ w', Below w.heap.size w w' → Cells5 w' b (off + k * 5) x y ce) (fun w' hb => g0.kept (H0.out.trans (hb.mono hz0w)))
      have hz := hB.out.size
      have hdr : Below wr.heap.size wr wr.drew := ⟨rfl, rfl, rfl, Nat.le_refl _, fun _ _ => rfl⟩
      have HDR := Lib.hid hdr
      have NEW := Lib.hid (fun w => new_five w x y ce)
      have OF := Lib.hid (fun w => of_any x.k x.n x.s y x.len ce w)
      unfold val at OF
      obtain ⟨p0, p1, p2, p3, p4⟩ := G.out _ hB.out
      clear g0 r0 hx hy he hnx hdr
      go_wp2_with fail
      go_region_held3 (fun w' => w'.cell? ⟨b, off + k * 5, none⟩ = some (.string x.m) ∧ w'.cell? ⟨b, off + k * 5 + 1, none⟩ = some (.int .i64 x.k) ∧ w'.cell? ⟨b, off + k * 5 + 2, none⟩ = some (.int .i64 x.n) ∧ w'.cell? ⟨b, off + k * 5 + 3, none⟩ = some (.string x.s) ∧ w'.cell? ⟨b, off + k * 5 + 4, none⟩ = some (.slice y x.len ce)) (first | assumption | (refine ⟨?_, ?_, ?_, ?_, ?_⟩ <;> (first | assumption | (go_keep; done)))) (first
        | (go_at_call 9
           with_reducible refine (OF.out _).mono ?_
           rintro e w2 ⟨rfl, hb⟩
           have B2 := Lib.hid (hB.out.trans ((HDR.out.trans hb).mono hz))
           have O2 := Lib.hid (owns_below hO.out (HDR.out.trans hb))
           have cc := G.out _ B2.out
           clear hb)
        | (refine step_append_one rfl (.tmp 11) (.tmp 24) 25 rfl (base := w.heap.size) und hi hz0 hz1 hz2 rfl (by decide) (.slice va vl vc) k (cellsA A Y C k) (fiveL x y ce) ⟨w2.heap.size, 0, none⟩ 1 (by first | (simp [Act.eval]; done) | fail) (by first | (simp [Act.eval]; done) | fail) (O2.out.alloc _) rfl (NEW.out w2) (fiveL_one x y ce) (by unfold maxLen; omega) (by omega) (by have := B2.out.size; simp; omega) ?_
           intro v3 w3 ho hg
           have O3 := Lib.hid ho
           have B3 := Lib.hid ((B2.out.alloc B2.out.size (.cells #[.string x.m, .int .i64 x.k, .int .i64 x.n, .string x.s, .slice y x.len ce] 63)).grown hg (by have := B2.out.size; simp; omega) (fun q hq => (O2.out.lt q hq).1))
           have cc := G.out _ B3.out
           clear ho hg)
        | fail)
      obtain ⟨va', vl', vc', rfl⟩ := own_slice O3.out
      have O4 := Lib.hid (p := w3.ownsRow w.heap.size 63 5 (.slice va' vl' vc') (k + 1) (cellsA A Y C (k + 1))) (by rw [NX.out]; exact O3.out)
      clear O3 O2 B2 p0 p1 p2 p3 p4
      go_wp2_with fail
      go_roundw
      case rel => exact ⟨k + 1, va', vl', vc', rfl, by go_num, by omega, O4, B3⟩
      case measure => simp [intOf]; omega
    · obtain rfl : k = n := by omega
      have hl : vl = k := by
        rcases hO.out.2 with ⟨h, h'⟩ | ⟨g, cap, _, h, _⟩
        · simp only [Value.slice.injEq] at h; omega
        · simp only [Value.slice.injEq] at h; omega
      subst hl
      have P := Lib.hid (show OfPost w0 w vl A (.returned (.slice va vl vc)) wr from ⟨⟨_, _, rfl, fun w3 k3 => by
        have b3 : Below w0.heap.size w0 w3 := (H0.out.trans (hB.out.mono hz0w)).trans (k3.below (fun k h => h.1) (by have := hB.out.size; omega))
        obtain ⟨a', c', hv, hr⟩ := readsA_own (k3.owns hO.out (fun q hq h => by have := (hO.out.lt q hq).1; omega)) (fun j hj => (HC.out j hj).2.kept b3)
        simp only [Value.slice.injEq] at hv
        obtain ⟨rfl, _, rfl⟩ := hv
        exact hr⟩, hB.out⟩)
      go_wp2_with fail
      go_ret
      exact P.out

end Go.Proofs.YtgcjfalgngiebaaGreatDoor
