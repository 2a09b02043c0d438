/-
  No statement: the law's own Few, Of, OfAttrs, FewRows; a row, rows that came in.
-/
import Derived.Test.YtpdobbdbmgeoiaaAppM
import Derived.Test.YtpdobbdbmgeoiaaWCheck
import Derived.Deep.Slices
import Derived.Deep.RegionWith
import Derived.Deep.RegionHeld3
import Derived.OpenShut
import Derived.ProofKit
import Derived.ChangeSlices
import Derived.Deep.Fields
import Derived.ChangeSame
import Derived.ShutString
import Derived.Test.YtpdobbdbmgeoiaaDgMath
set_option linter.unusedVariables false
set_option linter.unusedSimpArgs false

namespace Go.Proofs.Ytpdobbdbmgeoiaa
open Go.RowKit

theorem six_keptD (W : World) (B : Nat) (v0 v1 v2 v3 v4 v5 : Value) : Kept (fun k => k = B) W ((((((W.setCell ⟨B, 0, none⟩ v0).setCell ⟨B, 1, none⟩ v1).setCell ⟨B, 2, none⟩ v2).setCell ⟨B, 3, none⟩ v3).setCell ⟨B, 4, none⟩ v4).setCell ⟨B, 5, none⟩ v5) :=
  ((((((Kept.refl (fun k => k = B) W).setCell (S := fun k => k = B) (p := ⟨B, 0, none⟩) (.inl rfl) v0).setCell (S := fun k => k = B) (p := ⟨B, 1, none⟩) (.inl rfl) v1).setCell (S := fun k => k = B) (p := ⟨B, 2, none⟩) (.inl rfl) v2).setCell (S := fun k => k = B) (p := ⟨B, 3, none⟩) (.inl rfl) v3).setCell (S := fun k => k = B) (p := ⟨B, 4, none⟩) (.inl rfl) v4).setCell (S := fun k => k = B) (p := ⟨B, 5, none⟩) (.inl rfl) v5

set_option maxHeartbeats 1000000 in
theorem of2_any (k n : Int) (s : ByteArray) (a : Option Addr) (len cap : Nat) (w : World) : Calls Try.prog 47 #[val k n s (.slice a len cap)] w fun e w' => e = .returned (val k n s (.slice a len cap)) ∧ Below w.heap.size w w' := by
  unfold val
  go_enter Try.func47, Try.ntmps47
  go_wp2
  exact bodyPost_ret (v := .agg #[.int .i64 k, .int .i64 n, .string s, .slice a len cap]) (by simp [results, Try.results47, go_sem]) rfl ⟨rfl, ((Below.refl _ _).alloc (Nat.le_refl _) _).alloc (by simp) _⟩



set_option maxHeartbeats 1000000 in
theorem few2_any (k n : Int) (s : ByteArray) (a : Option Addr) (len cap : Nat) (hs : s.size ≤ maxLen) (hl : len ≤ maxLen) (w : World) :
    Calls Try.prog 65 #[.agg #[.int .i64 k, .int .i64 n, .string s, .slice a len cap]] w fun e w' => e = .returned (.bool (decide (s.size ≤ 200) && decide (len ≤ 40))) ∧ Below w.heap.size w w' := by
  unfold maxLen at hs hl
  by_cases h1 : s.size ≤ 200
  · by_cases h2 : len ≤ 40
    · go_enter Try.func65, Try.ntmps65
      go_wp2_with fail
      go_ret
      exact ⟨ret_b (a := decide ((len : Int) ≤ 40)) (by rw [decide_eq_true h1, Bool.true_and, decide_eq_true h2]; exact decide_eq_true (by omega)), (Below.refl _ _).alloc (Nat.le_refl _) _⟩
    · go_enter Try.func65, Try.ntmps65
      go_wp2_with fail
      go_ret
      exact ⟨ret_b (a := decide ((len : Int) ≤ 40)) (by rw [decide_eq_true h1, Bool.true_and, decide_eq_false h2]; exact decide_eq_false (by omega)), (Below.refl _ _).alloc (Nat.le_refl _) _⟩
  · go_enter Try.func65, Try.ntmps65
    go_wp2_with fail
    go_ret
    exact ⟨ret_b (a := false) (by first | rfl | (rw [decide_eq_false h1]; rfl)), (Below.refl _ _).alloc (Nat.le_refl _) _⟩

/-- Is an attribute short? -/
def fewA (x : AD) : Bool := decide (x.m.size ≤ 100) && (decide (x.s.size ≤ 200) && decide (x.len ≤ 40))
def fewAs (l : List AD) : Bool := l.all fewA
/-- Are attributes few, and short? -/
def fewL (n : Nat) (A : Nat → AD) : Bool := decide (n ≤ 40) && fewAs (fromA A n 0)
/-- Is a row short? -/
def fewR (x : RD) : Bool := decide (x.key.size ≤ 100) && (decide (x.o.size ≤ 100) && fewL x.len x.A)
/-- All sizes are sizes of Go. -/
def SizA (x : AD) : Prop := x.m.size ≤ maxLen ∧ x.s.size ≤ maxLen ∧ x.len ≤ maxLen

set_option maxRecDepth 100000 in
set_option maxHeartbeats 4000000 in
theorem fewAttrs_any (a : Option Addr) (n c : Nat) (A : Nat → AD) (hS : ∀ j, j < n → SizA (A j)) (w : World) (h : ReadsA w a n A) :
    Calls Try.prog 45 #[.slice a n c] w fun e w' => e = .returned (.bool (fewL n A)) ∧ Below w.heap.size w w' := by
  have hm := h.1
  unfold maxLen at hm
  have R := Lib.hid h
  have HS := Lib.hid hS
  clear h hS
  by_cases h40 : 40 < n
  · have E := Lib.hid (p := fewL n A = false) (by unfold fewL; rw [decide_eq_false (by omega)]; rfl)
    go_enter Try.func45, Try.ntmps45
    go_wp2_with fail
    go_ret
    exact ⟨ret_b E.out.symm, Below.refl _ _⟩
  · have E := Lib.hid (p := fewL n A = fewAs (fromA A n 0)) (by unfold fewL; rw [decide_eq_true (by omega)]; rfl)
    go_enter Try.func45, Try.ntmps45
    go_wp2_with fail
    go_loopw [3] (fun i wr => ∃ k : Nat, i = .int .i64 k ∧ k ≤ n ∧ Hid (fewAs (fromA A n 0) = fewAs (fromA A n k)) ∧ Hid (Below w.heap.size w wr)) (fun i _ => n - (intOf i).toNat)
    case atStart => exact ⟨0, rfl, Nat.zero_le _, Lib.hid rfl, Lib.hid (Below.refl _ _)⟩
    case round =>
      obtain ⟨k, rfl, hk, hE, hB⟩ := hrel
      by_cases hlt : k < n
      · obtain ⟨b, off, rfl, hc⟩ := R.out.2.resolve_left (by omega)
        obtain ⟨y, e, g0, -⟩ := hc k hlt
        have g := g0.kept hB.out
        have hE2 := hE.out
        rw [fromA_cons A hlt] at hE2
        have hsz := HS.out k hlt
        obtain ⟨x, hx⟩ : ∃ x, A k = x := ⟨_, rfl⟩
        rw [hx] at g hE2 hsz
        have hE3 : fewAs (fromA A n 0) = (fewA x && fewAs (fromA A n (k + 1))) := hE2
        obtain ⟨hs1, hs2, hs3⟩ := hsz
        have F2 := Lib.hid (fun w => few2_any x.k x.n x.s y x.len e hs2 hs3 w)
        obtain ⟨q, hq⟩ : ∃ q, (decide (x.s.size ≤ 200) && decide (x.len ≤ 40)) = q := ⟨_, rfl⟩
        rw [hq] at F2
        have hf : fewA x = (decide (x.m.size ≤ 100) && q) := by unfold fewA; rw [hq]
        rw [hf] at hE3
        have hz := hB.out.size
        unfold maxLen at hs1
        obtain ⟨p0, p1, p2, p3, p4⟩ := g
        clear hc hE2 hE hx hf hq g0 hs2 hs3
        by_cases h1 : 100 < x.m.size
        · have HE := Lib.hid (p := fewAs (fromA A n 0) = false) (by rw [hE3, decide_eq_false (by omega)]; rfl)
          clear hE3
          go_wp2_with fail
          go_ret
          exact ⟨ret_b (by rw [E.out, HE.out]), hB.out⟩
        · have HE := Lib.hid (p := fewAs (fromA A n 0) = (q && fewAs (fromA A n (k + 1)))) (by rw [hE3, decide_eq_true (by omega)]; rfl)
          clear hE3
          go_wp2_with fail
          refine (F2.out _).mono ?_
          rintro e w2 ⟨rfl, hb⟩
          have B2 := Lib.hid hb
          clear hb p0 p1 p2 p3 p4
          cases q with
          | true =>
            go_wp2_with fail
            go_roundw
            case rel => exact ⟨k + 1, by go_num, by omega, Lib.hid (by rw [HE.out]; rfl), Lib.hid (hB.out.trans (B2.out.mono hz))⟩
            case measure => simp [intOf]; omega
          | false =>
            go_wp2_with fail
            go_ret
            exact ⟨ret_b (by rw [E.out, HE.out]; rfl), hB.out.trans (B2.out.mono hz)⟩
      · go_wp2_with fail
        go_ret
        exact ⟨ret_b (by rw [E.out, hE.out, fromA_nil A (by omega)]; rfl), hB.out⟩

set_option maxHeartbeats 4000000 in
theorem few_any (x : RD) (a : Option Addr) (c : Nat) (hk : x.key.size ≤ maxLen) (ho : x.o.size ≤ maxLen) (hS : ∀ j, j < x.len → SizA (x.A j)) (w : World) (h : ReadsA w a x.len x.A) :
    Calls Try.prog 28 #[.agg #[.string x.key, .int .i64 x.t, .int .i64 x.i, .int .i64 x.q, .string x.o, .slice a x.len c]] w fun e w' => e = .returned (.bool (fewR x)) ∧ Below w.heap.size w w' := by
  unfold maxLen at hk ho
  have bl : ∀ o, Below w.heap.size w (w.alloc o) := fun o => (Below.refl _ _).alloc (Nat.le_refl _) _
  have F := Lib.hid (fun o => fewAttrs_any a x.len c x.A hS (w.alloc o) (h.kept (bl o)))
  have BL := Lib.hid bl
  obtain ⟨q, hq⟩ : ∃ q, fewL x.len x.A = q := ⟨_, rfl⟩
  have hf : fewR x = (decide (x.key.size ≤ 100) && (decide (x.o.size ≤ 100) && q)) := by unfold fewR; rw [hq]
  rw [hq] at F
  rw [hf]
  clear bl h hq hf hS
  by_cases h1 : x.key.size ≤ 100
  · by_cases h2 : x.o.size ≤ 100
    · rw [decide_eq_true h1, decide_eq_true h2]
      go_enter Try.func28, Try.ntmps28
      go_wp2_with fail
      refine (F.out _).mono ?_
      rintro e w2 ⟨rfl, hb⟩
      have B2 := Lib.hid hb
      clear hb
      go_wp2_with fail
      go_ret
      exact ⟨rfl, (BL.out _).trans (B2.out.mono (by simp))⟩
    · rw [decide_eq_true h1, decide_eq_false h2]
      go_enter Try.func28, Try.ntmps28
      go_wp2_with fail
      go_ret
      exact ⟨rfl, BL.out _⟩
  · rw [decide_eq_false h1]
    go_enter Try.func28, Try.ntmps28
    go_wp2_with fail
    go_ret
    exact ⟨rfl, BL.out _⟩

/-- The five cells of an attribute, as a list. -/
def fiveL (x : AD) (y : Option Addr) (c : Nat) : List Value := [.string x.m, .int .i64 x.k, .int .i64 x.n, .string x.s, .slice y x.len c]

/-- The cells of the first k attributes. -/
def cellsA (A : Nat → AD) (Y : Nat → Option Addr) (C : Nat → Nat) : Nat → List Value
  | 0 => []
  | k + 1 => cellsA A Y C k ++ fiveL (A k) (Y k) (C k)

theorem cellsA_len (A : Nat → AD) (Y : Nat → Option Addr) (C : Nat → Nat) : ∀ k, (cellsA A Y C k).length = k * 5
  | 0 => rfl
  | k + 1 => by rw [cellsA, List.length_append, cellsA_len A Y C k]; show k * 5 + 5 = _; omega

theorem cellsA_at (A : Nat → AD) (Y : Nat → Option Addr) (C : Nat → Nat) {i : Nat} (hi : i < 5) : ∀ {k j : Nat}, j < k → (cellsA A Y C k)[j * 5 + i]? = (fiveL (A j) (Y j) (C j))[i]?
  | 0, j, h => by omega
  | k + 1, j, h => by
    have hl := cellsA_len A Y C k
    rw [cellsA]
    by_cases hj : j < k
    · rw [List.getElem?_append_left (by omega)]
      exact cellsA_at A Y C hi hj
    · obtain rfl : j = k := by omega
      rw [List.getElem?_append_right (by omega), hl, show j * 5 + i - j * 5 = i by omega]

theorem fiveL_one (x : AD) (y : Option Addr) (c : Nat) : ∀ u ∈ fiveL x y c, u.oneCell' = true := by
  intro u hu
  simp only [fiveL, List.mem_cons, List.not_mem_nil, or_false] at hu
  rcases hu with rfl | rfl | rfl | rfl | rfl <;> rfl

/-- What is owned so reads as those attributes. -/
theorem readsA_own {w : World} {base : Nat} {e : TypeId} {v : Value} {n : Nat} {A : Nat → AD} {Y : Nat → Option Addr} {C : Nat → Nat} (h : w.ownsRow base e 5 v n (cellsA A Y C n)) (hr : ∀ j, j < n → Reads w (Y j) (A j).len (A j).z) :
    ∃ a c, v = .slice a n c ∧ ReadsA w a n A := by
  rcases h.2 with ⟨rfl, rfl⟩ | ⟨g, cap, cur, rfl, _, hg, hnc, hcm, _, ht⟩
  · exact ⟨none, 0, rfl, Nat.zero_le _, .inl rfl⟩
  · refine ⟨_, _, rfl, Nat.le_trans hnc hcm, .inr ⟨g, 0, rfl, fun j hj => ⟨Y j, C j, ?_, hr j hj⟩⟩⟩
    have cell : ∀ i u, i < 5 → (fiveL (A j) (Y j) (C j))[i]? = some u → w.cell? ⟨g, 0 + j * 5 + i, none⟩ = some u := fun i u hi hu => by
      rw [Nat.zero_add]
      obtain ⟨g', hg', hc⟩ := owns_at h (by rw [cellsA_at A Y C hi hj]; exact hu)
      simp only [Addr.mk.injEq] at hg'
      obtain ⟨rfl, _⟩ := hg'
      exact hc
    exact ⟨cell 0 _ (by omega) rfl, cell 1 _ (by omega) rfl, cell 2 _ (by omega) rfl, cell 3 _ (by omega) rfl, cell 4 _ (by omega) rfl⟩

/-- Attributes made anew. -/
def OfPost (w0 w : World) (n : Nat) (A : Nat → AD) (e : Ending) (w' : World) : Prop := (∃ a c, e = .returned (.slice a n c) ∧ ∀ w3, Kept (fun k => w0.heap.size ≤ k ∧ k < w.heap.size) w' w3 → ReadsA w3 a n A) ∧ Below w.heap.size w w'

theorem new_five (w : World) (x : AD) (y : Option Addr) (c : Nat) : ∀ j u, (fiveL x y c)[j]? = some u → (w.alloc (.cells #[.string x.m, .int .i64 x.k, .int .i64 x.n, .string x.s, .slice y x.len c] 75)).cell? ((⟨w.heap.size, 0, none⟩ : Addr).add j) = some u := fun j u hj => by
  rw [Addr.add_lit, Nat.zero_add, cell_of_row _ _ _ _ _ (0, 0) (heap_alloc_new w _)]
  simpa [fiveL] using hj

theorem own_slice {w : World} {base : Nat} {e : TypeId} {size : Nat} {v : Value} {n : Nat} {xs : List Value} (h : w.ownsRow base e size v n xs) : ∃ a l c, v = .slice a l c := by
  rcases h.2 with ⟨h, _⟩ | ⟨g, cap, _, h, _⟩
  · exact ⟨_, _, _, h⟩
  · exact ⟨_, _, _, h⟩

theorem ofInfo : (Try.prog.info? 75).map (fun i => (i.zero, i.size, i.bytes)) = some (some (.agg #[.string ⟨#[]⟩, .int .i64 0, .int .i64 0, .string ⟨#[]⟩, .slice none 0 0]), 5, 72) := by kernel_rfl

set_option maxRecDepth 100000 in
set_option maxHeartbeats 4000000 in
theorem ofAttrs_any (a : Option Addr) (n c : Nat) (A : Nat → AD) (hn : n ≤ 1000) (w0 w : World) (h : ReadsA w0 a n A) (h0w : Below w0.heap.size w0 w) :
    Calls Try.prog 33 #[.slice a n c] w (OfPost w0 w n A) := by
  obtain ⟨i0, hi, hz0, hz1, hz2⟩ := info_parts ofInfo
  have und : Try.prog.underlying 50 = some (.slice 75) := Try.underlying50
  have hm := h.1
  unfold maxLen at hm
  by_cases h0 : n = 0
  · subst h0
    have P := Lib.hid (show OfPost w0 w 0 A (.returned (.slice none 0 0)) w from ⟨⟨none, 0, rfl, fun _ _ => ⟨Nat.zero_le _, .inl rfl⟩⟩, Below.refl _ _⟩)
    clear h h0w
    go_enter Try.func33, Try.ntmps33
    go_wp2_with fail
    go_loop [3, 4] (fun v i => v = .slice none 0 0 ∧ i = .int .i64 0) (fun _ _ => 0)
    case atStart => exact ⟨rfl, rfl⟩
    case round =>
      obtain ⟨rfl, rfl⟩ := hrel
      go_wp2_with fail
      go_ret
      exact P.out
  obtain ⟨-, h1⟩ := h
  obtain ⟨b, off, rfl, hc⟩ := h1.resolve_left h0
  obtain ⟨Y, hY⟩ := Go.Deep.choose_lt hc
  obtain ⟨C, hC⟩ := Go.Deep.choose_lt hY
  have HC := Lib.hid hC
  have H0 := Lib.hid h0w
  have hz0w := h0w.size
  clear hc hY hC h0 h0w
  go_enter Try.func33, Try.ntmps33
  go_wp2_with fail
  go_loopw [3, 4] (fun v i wr => ∃ (k : Nat) (va : Option Addr) (vl vc : Nat), v = .slice va vl vc ∧ i = .int .i64 k ∧ k ≤ n ∧ Hid (wr.ownsRow w.heap.size 75 5 (.slice va vl vc) k (cellsA A Y C k)) ∧ Hid (Below w.heap.size w wr)) (fun _ i _ => n - (intOf i).toNat)
  case atStart => exact ⟨0, none, 0, 0, rfl, rfl, Nat.zero_le _, Lib.hid (World.ownsRow_nil _ _ _ _), Lib.hid (Below.refl _ _)⟩
  case round =>
    obtain ⟨k, va, vl, vc, rfl, rfl, hk, hO, hB⟩ := hrel
    by_cases hlt : k < n
    · obtain ⟨g0, r0⟩ := HC.out k hlt
      obtain ⟨x, hx⟩ : ∃ x, A k = x := ⟨_, rfl⟩
      obtain ⟨y, hy⟩ : ∃ y, Y k = y := ⟨_, rfl⟩
      obtain ⟨ce, he⟩ : ∃ e, C k = e := ⟨_, rfl⟩
      have hnx : cellsA A Y C (k + 1) = cellsA A Y C k ++ fiveL x y ce := by rw [cellsA, hx, hy, he]
      rw [hx, hy, he] at g0
      have NX := Lib.hid hnx
      have G := Lib.hid (p := ∀ w', Below w.heap.size w w' → Cells5 w' b (off + k * 5) x y ce) (fun w' hb => g0.kept (H0.out.trans (hb.mono hz0w)))
      have hz := hB.out.size
      have hdr : Below wr.heap.size wr wr.drew := ⟨rfl, rfl, rfl, Nat.le_refl _, fun _ _ => rfl⟩
      have HDR := Lib.hid hdr
      have NEW := Lib.hid (fun w => new_five w x y ce)
      have OF := Lib.hid (fun w => of2_any x.k x.n x.s y x.len ce w)
      unfold val at OF
      obtain ⟨p0, p1, p2, p3, p4⟩ := G.out _ hB.out
      clear g0 r0 hx hy he hnx hdr
      go_wp2_with fail
      go_region_held3 (fun w' => w'.cell? ⟨b, off + k * 5, none⟩ = some (.string x.m) ∧ w'.cell? ⟨b, off + k * 5 + 1, none⟩ = some (.int .i64 x.k) ∧ w'.cell? ⟨b, off + k * 5 + 2, none⟩ = some (.int .i64 x.n) ∧ w'.cell? ⟨b, off + k * 5 + 3, none⟩ = some (.string x.s) ∧ w'.cell? ⟨b, off + k * 5 + 4, none⟩ = some (.slice y x.len ce)) (first | assumption | (refine ⟨?_, ?_, ?_, ?_, ?_⟩ <;> (first | assumption | (go_keep; done)))) (first
        | (go_at_call 47
           with_reducible refine (OF.out _).mono ?_
           rintro e w2 ⟨rfl, hb⟩
           have B2 := Lib.hid (hB.out.trans ((HDR.out.trans hb).mono hz))
           have O2 := Lib.hid (owns_below hO.out (HDR.out.trans hb))
           have cc := G.out _ B2.out
           clear hb)
        | (refine step_append_one rfl (.tmp 11) (.tmp 24) 50 rfl (base := w.heap.size) und hi hz0 hz1 hz2 rfl (by decide) (.slice va vl vc) k (cellsA A Y C k) (fiveL x y ce) ⟨w2.heap.size, 0, none⟩ 1 (by first | (simp [Act.eval]; done) | fail) (by first | (simp [Act.eval]; done) | fail) (O2.out.alloc _) rfl (NEW.out w2) (fiveL_one x y ce) (by unfold maxLen; omega) (by omega) (by have := B2.out.size; simp; omega) ?_
           intro v3 w3 ho hg
           have O3 := Lib.hid ho
           have B3 := Lib.hid ((B2.out.alloc B2.out.size (.cells #[.string x.m, .int .i64 x.k, .int .i64 x.n, .string x.s, .slice y x.len ce] 75)).grown hg (by have := B2.out.size; simp; omega) (fun q hq => (O2.out.lt q hq).1))
           have cc := G.out _ B3.out
           clear ho hg)
        | fail)
      obtain ⟨va', vl', vc', rfl⟩ := own_slice O3.out
      have O4 := Lib.hid (p := w3.ownsRow w.heap.size 75 5 (.slice va' vl' vc') (k + 1) (cellsA A Y C (k + 1))) (by rw [NX.out]; exact O3.out)
      clear O3 O2 B2 p0 p1 p2 p3 p4
      go_wp2_with fail
      go_roundw
      case rel => exact ⟨k + 1, va', vl', vc', rfl, by go_num, by omega, O4, B3⟩
      case measure => simp [intOf]; omega
    · obtain rfl : k = n := by omega
      have hl : vl = k := by
        rcases hO.out.2 with ⟨h, h'⟩ | ⟨g, cap, _, h, _⟩
        · simp only [Value.slice.injEq] at h; omega
        · simp only [Value.slice.injEq] at h; omega
      subst hl
      have P := Lib.hid (show OfPost w0 w vl A (.returned (.slice va vl vc)) wr from ⟨⟨_, _, rfl, fun w3 k3 => by
        have b3 : Below w0.heap.size w0 w3 := (H0.out.trans (hB.out.mono hz0w)).trans (k3.below (fun k h => h.1) (by have := hB.out.size; omega))
        obtain ⟨a', c', hv, hr⟩ := readsA_own (k3.owns hO.out (fun q hq h => by have := (hO.out.lt q hq).1; omega)) (fun j hj => (HC.out j hj).2.kept b3)
        simp only [Value.slice.injEq] at hv
        obtain ⟨rfl, _, rfl⟩ := hv
        exact hr⟩, hB.out⟩)
      go_wp2_with fail
      go_ret
      exact P.out

/-- A row made anew. -/
def OfRPost (w : World) (x : RD) (e : Ending) (w' : World) : Prop := (∃ a c, e = .returned (.agg #[.string x.key, .int .i64 x.t, .int .i64 x.i, .int .i64 x.q, .string x.o, .slice a x.len c]) ∧ ReadsA w' a x.len x.A) ∧ Below w.heap.size w w'

theorem sixF {w : World} {b : Nat} {v0 v1 v2 v3 v4 v5 : Value} {t : TypeId} (h : w.heap[b]? = some (.cells #[v0, v1, v2, v3, v4, v5] t (0, 0))) :
    w.frozen? ⟨b, 0, none⟩ = false ∧ w.frozen? ⟨b, 1, none⟩ = false ∧ w.frozen? ⟨b, 2, none⟩ = false ∧ w.frozen? ⟨b, 3, none⟩ = false ∧ w.frozen? ⟨b, 4, none⟩ = false ∧ w.frozen? ⟨b, 5, none⟩ = false := by
  refine ⟨?_, ?_, ?_, ?_, ?_, ?_⟩ <;> simp [World.frozen?, h]

theorem six_other {W : World} {B k : Nat} (hne : k ≠ B) {o : Obj} (v0 v1 v2 v3 v4 v5 : Value) (h : W.heap[k]? = some o) :
    ((((((W.setCell ⟨B, 0, none⟩ v0).setCell ⟨B, 1, none⟩ v1).setCell ⟨B, 2, none⟩ v2).setCell ⟨B, 3, none⟩ v3).setCell ⟨B, 4, none⟩ v4).setCell ⟨B, 5, none⟩ v5).heap[k]? = some o := by
  rw [Below.heap_setCell _ ⟨B, 5, none⟩ v5 k hne, Below.heap_setCell _ ⟨B, 4, none⟩ v4 k hne, Below.heap_setCell _ ⟨B, 3, none⟩ v3 k hne, Below.heap_setCell _ ⟨B, 2, none⟩ v2 k hne, Below.heap_setCell _ ⟨B, 1, none⟩ v1 k hne, Below.heap_setCell _ ⟨B, 0, none⟩ v0 k hne]
  exact h





/-- What the walk of Of keeps: the row's box, and the cell of what it answers. -/
structure OfK (w0 : World) (x : RD) (a : Option Addr) (c : Nat) (w : World) : Prop where
  box : w.heap[w0.heap.size]? = some (.cells #[.string x.key, .int .i64 x.t, .int .i64 x.i, .int .i64 x.q, .string x.o, .slice a x.len c] 42 (0, 0))
  res : w.heap[w0.heap.size + 1]? = some (.cells #[.string ⟨#[]⟩, .int .i64 0, .int .i64 0, .int .i64 0, .string ⟨#[]⟩, .slice none 0 0] 52 (0, 0))
  bel : Below w0.heap.size w0 w

theorem OfK.kept {w0 w w' : World} {x : RD} {a : Option Addr} {c : Nat} (h : OfK w0 x a c w) (hb : Below w.heap.size w w') : OfK w0 x a c w' :=
  ⟨(hb.block _ (lt_of_block h.box)).trans h.box, (hb.block _ (lt_of_block h.res)).trans h.res, h.bel.trans (hb.mono (by have := lt_of_block h.box; omega))⟩

set_option maxRecDepth 100000 in
set_option maxHeartbeats 4000000 in
theorem ofR_any (x : RD) (a : Option Addr) (c : Nat) (hn : x.len ≤ 1000) (w : World) (h : ReadsA w a x.len x.A) :
    Calls Try.prog 16 #[.agg #[.string x.key, .int .i64 x.t, .int .i64 x.i, .int .i64 x.q, .string x.o, .slice a x.len c]] w (OfRPost w x) := by
  have R := Lib.hid h
  have OS := Lib.hid (fun w => (show Calls Try.prog 32 #[.agg #[.int .i64 x.t, .int .i64 x.i, .int .i64 x.q, .string x.o]] w fun e w' => e = .returned (.agg #[.int .i64 x.t, .int .i64 x.i, .int .i64 x.q, .string x.o]) ∧ Below w.heap.size w w' by
    go_enter Try.func32, Try.ntmps32
    go_wp2_with fail
    exact bodyPost_ret (v := .agg #[.int .i64 x.t, .int .i64 x.i, .int .i64 x.q, .string x.o]) (by simp [results, Try.results32, go_sem]) rfl ⟨rfl, ((Below.refl _ _).alloc (Nat.le_refl _) _).alloc (by simp) _⟩))
  clear h
  go_enter Try.func16, Try.ntmps16
  go_wp2_with fail
  generalize hW : World.alloc (World.alloc w _) _ = W
  have K0 : Hid (OfK w x a c W) := Lib.hid (by
    refine ⟨?_, ?_, ?_⟩
    · rw [← hW]; exact (Below.heap_alloc _ _ _ (by simp)).trans (heap_alloc_new w _)
    · rw [← hW]
      have := heap_alloc_new (w.alloc (.cells #[.string x.key, .int .i64 x.t, .int .i64 x.i, .int .i64 x.q, .string x.o, .slice a x.len c] 42)) (.cells #[.string ⟨#[]⟩, .int .i64 0, .int .i64 0, .int .i64 0, .string ⟨#[]⟩, .slice none 0 0] 52)
      rwa [World.size_alloc] at this
    · rw [← hW]; exact ((Below.refl _ _).alloc (Nat.le_refl _) _).alloc (by simp) _)
  clear hW
  have hdr : Below W.heap.size W W.drew := ⟨rfl, rfl, rfl, Nat.le_refl _, fun _ _ => rfl⟩
  have KD := Lib.hid (K0.out.kept hdr)
  clear hdr
  obtain ⟨x0, x1, x2, x3, x4, x5⟩ := sixE K0.out.box
  go_region_with (first
    | (go_at_call 32
       with_reducible refine (OS.out _).mono ?_
       rintro e w1 ⟨rfl, hb⟩
       have K1 := Lib.hid (KD.out.kept hb)
       clear x0 x1 x2 x3 x4 x5
       obtain ⟨x0, x1, x2, x3, x4, x5⟩ := sixE K1.out.box
       clear hb)
    | (go_at_call 33
       with_reducible refine (ofAttrs_any a x.len c x.A hn w _ R.out K1.out.bel).mono ?_
       rintro e w2 ⟨⟨a2, c2, rfl, hr⟩, hb⟩
       have K2 := Lib.hid (K1.out.kept hb)
       have R2 := Lib.hid hr
       clear x0 x1 x2 x3 x4 x5
       obtain ⟨x0, x1, x2, x3, x4, x5⟩ := sixE K2.out.box
       obtain ⟨y0, y1, y2, y3, y4, y5⟩ := sixE K2.out.res
       obtain ⟨z0, z1, z2, z3, z4, z5⟩ := sixF K2.out.res
       clear hb hr)
    | fail)
  all_goals
    have S1 := Lib.hid (lt_of_block K1.out.res)
    have K3 := six_keptD w2 (w.heap.size + 1) (.string x.key) (.int .i64 x.t) (.int .i64 x.i) (.int .i64 x.q) (.string x.o) (.slice a2 x.len c2)
    have P := Lib.hid (p := OfRPost w x (.returned (.agg #[.string x.key, .int .i64 x.t, .int .i64 x.i, .int .i64 x.q, .string x.o, .slice a2 x.len c2])) ((((((w2.setCell ⟨w.heap.size + 1, 0, none⟩ (.string x.key)).setCell ⟨w.heap.size + 1, 1, none⟩ (.int .i64 x.t)).setCell ⟨w.heap.size + 1, 2, none⟩ (.int .i64 x.i)).setCell ⟨w.heap.size + 1, 3, none⟩ (.int .i64 x.q)).setCell ⟨w.heap.size + 1, 4, none⟩ (.string x.o)).setCell ⟨w.heap.size + 1, 5, none⟩ (.slice a2 x.len c2))) ⟨⟨_, _, rfl, R2.out _ (K3.mono (fun k hk _ => by have := S1.out; subst hk; omega))⟩, six_belowD K2.out.bel (by omega) _ _ _ _ _ _⟩
    clear K3 S1 K0 KD K1 K2 R2 OS R
    go_wp2
    exact bodyPost_ret (v := .agg #[.string x.key, .int .i64 x.t, .int .i64 x.i, .int .i64 x.q, .string x.o, .slice a2 x.len c2]) (by simp [results, Try.results16, go_sem, *]) rfl P.out

end Go.Proofs.Ytpdobbdbmgeoiaa

namespace Go.Proofs.Ytpdobbdbmgeoiaa
open Go.RowKit Go.ChangeShapes Go.WideShapes Go.Deep

theorem in64_of_wfS {n : Int} (h : (Lit.int .i64 n).wf = true) : In64 n := by
  simp [Lit.wf, IntKind.min, IntKind.max, IntKind.bits, IntKind.signed] at h
  unfold In64
  omega
/-- A row whose sizes and numbers are those of Go. -/
structure GoR (x : RD) : Prop where
  k : x.key.size ≤ maxLen
  o : x.o.size ≤ maxLen
  t : In64 x.t
  i : In64 x.i
  q : In64 x.q
  s : ∀ j, j < x.len → SizA (x.A j)
  n : ∀ j, j < x.len → NumA (x.A j)

theorem fewR_all {x : RD} (h : fewR x = true) : x.key.size ≤ 100 ∧ x.o.size ≤ 100 ∧ x.len ≤ 40 ∧ ∀ j, j < x.len → FewA (x.A j) := by
  unfold fewR fewL fewAs at h
  simp only [Bool.and_eq_true, decide_eq_true_eq, List.all_eq_true] at h
  obtain ⟨h1, h2, h3, h4⟩ := h
  refine ⟨h1, h2, h3, fun j hj => ?_⟩
  have := h4 (x.A j) (by unfold fromA; exact List.mem_map.2 ⟨j, List.mem_range.2 (by omega), by rw [Nat.zero_add]⟩)
  unfold fewA at this
  simp only [Bool.and_eq_true, decide_eq_true_eq] at this
  unfold FewA
  omega


/-- OfAttrs at attributes that lie there. -/
theorem ofA_any (a : Option Addr) (n c : Nat) (A : Nat → AD) (hn : n ≤ 1000) (w : World) (h : ReadsA w a n A) :
    Calls Try.prog 33 #[.slice a n c] w fun e w' => (∃ a' c', e = .returned (.slice a' n c') ∧ ReadsA w' a' n A) ∧ Below w.heap.size w w' :=
  (ofAttrs_any a n c A hn w w h (Below.refl _ _)).mono fun _ w' ⟨⟨a', c', he, hr⟩, hb⟩ => ⟨⟨a', c', he, hr w' (Kept.refl _ _)⟩, hb⟩

theorem in64_getD {zs : List Int} (h : ∀ n ∈ zs, (Lit.int .i64 n).wf = true) (j : Nat) : In64 (zs.getD j 0) := by
  by_cases hj : j < zs.length
  · rw [List.getD, List.getElem?_eq_getElem hj]
    exact in64_of_wfS (h _ (List.getElem_mem hj))
  · rw [List.getD, List.getElem?_eq_none (by omega)]
    unfold In64; simp

theorem in64_zero : In64 0 := by unfold In64; omega
theorem attrCells : Try.prog.cellsOf 70 = 5 := by kernel_rfl
theorem valueCells : Try.prog.cellsOf 68 = 4 := by kernel_rfl
theorem stampCells : Try.prog.cellsOf 39 = 4 := by kernel_rfl
theorem rowCells : Try.prog.cellsOf 42 = 6 := by kernel_rfl

set_option maxRecDepth 100000 in
/-- The four cells of a value. -/
theorem value_cells {H : Type} {enc : TypeId × Value → H} {W : World} {n : Nat} {c0 c1 c2 c3 : Value} {x : DataW H × List MemPlace} (h : DataW.trod enc Try.prog W 0 (fun _ => true) true n 68 [c0, c1, c2, c3] = some x) :
    ∃ (k i : Int) (s : ByteArray) (a : Option Addr) (len cap : Nat) (z : Nat → Int), c0 = .int .i64 k ∧ c1 = .int .i64 i ∧ c2 = .string s ∧ c3 = .slice a len cap ∧ In64 k ∧ In64 i ∧ s.size ≤ maxLen ∧ (∀ j, In64 (z j)) ∧ Reads W a len z := by
  obtain ⟨ys, m, -, -, -, hyl, hf⟩ := DataW.trod_struct Try.underlying68 h
  have y4 : ys.length = 4 := hyl
  match ys, y4 with
  | [y0, y1, y2, y3], _ =>
    have h0 : DataW.trod enc Try.prog W 0 (fun _ => true) true m 3 [c0] = some y0 := hf 0 _ rfl
    have h1 : DataW.trod enc Try.prog W 0 (fun _ => true) true m 2 [c1] = some y1 := hf 1 _ rfl
    have h2 : DataW.trod enc Try.prog W 0 (fun _ => true) true m 9 [c2] = some y2 := hf 2 _ rfl
    have h3 : DataW.trod enc Try.prog W 0 (fun _ => true) true m 44 [c3] = some y3 := hf 3 _ rfl
    obtain ⟨k, e0, -, w0⟩ := DataW.trod_int Try.underlying3 h0
    obtain ⟨i, e1, -, w1⟩ := DataW.trod_int Try.underlying2 h1
    obtain ⟨s, e2, -, w2⟩ := DataW.trod_string Try.underlying9 h2
    cases e0; cases e1; cases e2
    rcases open_ints Try.underlying44 Try.underlying2 (by kernel_rfl) h3 with ⟨hcs, _⟩ | ⟨x, l, c, zs, hcs, _, hl, hm, hz, _, hcell, hwz⟩
    · cases hcs
      exact ⟨k, i, s, none, 0, 0, fun _ => 0, rfl, rfl, rfl, rfl, in64_of_wfS w0, in64_of_wfS w1, w2, fun _ => in64_zero, ⟨Nat.zero_le _, .inl rfl⟩⟩
    · cases hcs
      simp only [if_true] at hz
      refine ⟨k, i, s, some x, l, c, fun j => zs.getD j 0, rfl, rfl, rfl, rfl, in64_of_wfS w0, in64_of_wfS w1, w2, in64_getD hwz, ⟨Nat.le_trans hl hm, ?_⟩⟩
      by_cases hl0 : l = 0
      · exact .inl hl0
      · right
        obtain ⟨b, off, spot⟩ := x
        have hspot : spot = none := by simpa [Addr.add] using World.cell?_spot (hcell 0 (by omega))
        subst hspot
        exact ⟨b, off, rfl, fun j hj => by rw [← Addr.add_lit]; exact hcell j (by omega)⟩

set_option maxRecDepth 100000 in
/-- The five cells of an attribute. -/
theorem attr_cells {H : Type} {enc : TypeId × Value → H} {W : World} {n : Nat} {cs : List Value} {x : DataW H × List MemPlace} (h : DataW.trod enc Try.prog W 0 (fun _ => true) true n 70 cs = some x) :
    ∃ (v : AD) (y : Option Addr) (c : Nat), SizA v ∧ NumA v ∧ cs = fiveL v y c ∧ Reads W y v.len v.z := by
  obtain ⟨ys, m, -, -, hlen, hyl, hf⟩ := DataW.trod_struct Try.underlying70 h
  rw [attrCells] at hlen
  match cs, hlen with
  | [c0, c1, c2, c3, c4], _ =>
    have y2 : ys.length = 2 := hyl
    match ys, y2 with
    | [y0, y1], _ =>
      have h0 : DataW.trod enc Try.prog W 0 (fun _ => true) true m 9 [c0] = some y0 := hf 0 _ rfl
      have h1 : DataW.trod enc Try.prog W 0 (fun _ => true) true m 68 [c1, c2, c3, c4] = some y1 := hf 1 _ rfl
      obtain ⟨s, e0, -, w0⟩ := DataW.trod_string Try.underlying9 h0
      cases e0
      obtain ⟨k, i, t, a, len, cap, z, rfl, rfl, rfl, rfl, wk, wi, wt, wz, hr⟩ := value_cells h1
      exact ⟨⟨s, k, i, t, len, z⟩, a, cap, ⟨w0, wt, hr.1⟩, ⟨wk, wi, wz⟩, rfl, hr⟩

theorem attrs_of {H : Type} {enc : TypeId × Value → H} {W : World} {fuel : Nat} {c5 : Value} {x : DataW H × List MemPlace}
    (hf : DataW.trod enc Try.prog W 0 (fun _ => true) true fuel 40 [c5] = some x) : ∃ (a : Option Addr) (len cap : Nat) (A : Nat → AD), c5 = .slice a len cap ∧ (∀ j, SizA (A j)) ∧ (∀ j, NumA (A j)) ∧ ReadsA W a len A := by
  have d0 : SizA ⟨⟨#[]⟩, 0, 0, ⟨#[]⟩, 0, fun _ => 0⟩ := ⟨Nat.zero_le _, Nat.zero_le _, Nat.zero_le _⟩
  have d1 : NumA ⟨⟨#[]⟩, 0, 0, ⟨#[]⟩, 0, fun _ => 0⟩ := ⟨in64_zero, in64_zero, fun _ => in64_zero⟩
  rcases open_slice Try.underlying40 hf with ⟨hcs, _⟩ | ⟨x, l, c, m, n, D, Pl, hcs, _, hl, hm, hmm, _, hi⟩
  · simp at hcs
    subst hcs
    exact ⟨none, 0, 0, fun _ => ⟨⟨#[]⟩, 0, 0, ⟨#[]⟩, 0, fun _ => 0⟩, rfl, fun _ => d0, fun _ => d1, Nat.zero_le _, .inl rfl⟩
  · simp at hcs
    subst hcs
    simp only [if_true] at hmm
    subst hmm
    have hx : ∀ j, ∃ s : AD, SizA s ∧ NumA s ∧ (j < l → ∃ y cc, (W.cell? (x.add (j * 5)) = some (.string s.m) ∧ W.cell? (x.add (j * 5 + 1)) = some (.int .i64 s.k) ∧ W.cell? (x.add (j * 5 + 2)) = some (.int .i64 s.n) ∧ W.cell? (x.add (j * 5 + 3)) = some (.string s.s) ∧ W.cell? (x.add (j * 5 + 4)) = some (.slice y s.len cc)) ∧ Reads W y s.len s.z) := by
      intro j
      by_cases hj : j < l
      · obtain ⟨cs', hc, ht⟩ := hi j (by omega)
        rw [attrCells] at hc
        obtain ⟨s, y, cc, hs, hn, rfl, hr⟩ := attr_cells ht
        obtain ⟨-, -, hat⟩ := World.cells?_some hc
        have e : ∀ i, i < 5 → (x.add (j * 5)).add i = x.add (j * 5 + i) := fun i _ => Go.Deep.add_add _ _ _
        refine ⟨s, hs, hn, fun _ => ⟨y, cc, ⟨?_, ?_, ?_, ?_, ?_⟩, hr⟩⟩
        · have := hat 0 (by omega); rw [e 0 (by omega)] at this; exact this
        · have := hat 1 (by omega); rw [e 1 (by omega)] at this; exact this
        · have := hat 2 (by omega); rw [e 2 (by omega)] at this; exact this
        · have := hat 3 (by omega); rw [e 3 (by omega)] at this; exact this
        · have := hat 4 (by omega); rw [e 4 (by omega)] at this; exact this
      · exact ⟨_, d0, d1, fun h => absurd h hj⟩
    have hS : ∃ S : Nat → AD, ∀ j, SizA (S j) ∧ NumA (S j) ∧ (j < l → ∃ y cc, (W.cell? (x.add (j * 5)) = some (.string (S j).m) ∧ W.cell? (x.add (j * 5 + 1)) = some (.int .i64 (S j).k) ∧ W.cell? (x.add (j * 5 + 2)) = some (.int .i64 (S j).n) ∧ W.cell? (x.add (j * 5 + 3)) = some (.string (S j).s) ∧ W.cell? (x.add (j * 5 + 4)) = some (.slice y (S j).len cc)) ∧ Reads W y (S j).len (S j).z) := ⟨fun j => Classical.choose (hx j), fun j => Classical.choose_spec (hx j)⟩
    obtain ⟨S, hS⟩ := hS
    refine ⟨some x, l, _, S, rfl, fun j => (hS j).1, fun j => (hS j).2.1, Nat.le_trans hl hm, ?_⟩
    by_cases hz : l = 0
    · exact Or.inl hz
    · right
      obtain ⟨b, off, spot⟩ := x
      have hspot : spot = none := by
        obtain ⟨y, cc, h0, _⟩ := (hS 0).2.2 (by omega)
        simpa [Addr.add] using World.cell?_spot h0.1
      subst hspot
      refine ⟨b, off, rfl, fun j hj => ?_⟩
      obtain ⟨y, cc, h5, hr⟩ := (hS j).2.2 hj
      rw [Addr.add_lit, Addr.add_lit, Addr.add_lit, Addr.add_lit, Addr.add_lit] at h5
      exact ⟨y, cc, h5, hr⟩

set_option maxRecDepth 100000 in
/-- The six cells of a row. -/
theorem row_cells {H : Type} {enc : TypeId × Value → H} {W : World} {n : Nat} {cs : List Value} {x : DataW H × List MemPlace} (hf : DataW.trod enc Try.prog W 0 (fun _ => true) true n 42 cs = some x) :
    ∃ (x : RD) (a : Option Addr) (c : Nat), cs = [.string x.key, .int .i64 x.t, .int .i64 x.i, .int .i64 x.q, .string x.o, .slice a x.len c] ∧ GoR x ∧ ReadsA W a x.len x.A := by
  obtain ⟨ys, m, -, -, hlen, hyl, hg⟩ := DataW.trod_struct Try.underlying42 hf
  rw [rowCells] at hlen
  match cs, hlen with
  | [c0, c1, c2, c3, c4, c5], _ =>
    have y3 : ys.length = 3 := hyl
    match ys, y3 with
    | [y0, y1, y2], _ =>
      have h0 : DataW.trod enc Try.prog W 0 (fun _ => true) true m 9 [c0] = some y0 := hg 0 _ rfl
      have h1 : DataW.trod enc Try.prog W 0 (fun _ => true) true m 39 [c1, c2, c3, c4] = some y1 := hg 1 _ rfl
      have h2 : DataW.trod enc Try.prog W 0 (fun _ => true) true m 40 [c5] = some y2 := hg 2 _ rfl
      obtain ⟨k, e0, -, w0⟩ := DataW.trod_string Try.underlying9 h0
      cases e0
      obtain ⟨zs, m', -, -, -, hzl, hz⟩ := DataW.trod_struct Try.underlying39 h1
      have z4 : zs.length = 4 := hzl
      match zs, z4 with
      | [z0, z1, z2, z3], _ =>
        have g0 : DataW.trod enc Try.prog W 0 (fun _ => true) true m' 2 [c1] = some z0 := hz 0 _ rfl
        have g1 : DataW.trod enc Try.prog W 0 (fun _ => true) true m' 2 [c2] = some z1 := hz 1 _ rfl
        have g2 : DataW.trod enc Try.prog W 0 (fun _ => true) true m' 2 [c3] = some z2 := hz 2 _ rfl
        have g3 : DataW.trod enc Try.prog W 0 (fun _ => true) true m' 9 [c4] = some z3 := hz 3 _ rfl
        obtain ⟨t, e1, -, w1⟩ := DataW.trod_int Try.underlying2 g0
        obtain ⟨i, e2, -, w2⟩ := DataW.trod_int Try.underlying2 g1
        obtain ⟨q, e3, -, w3⟩ := DataW.trod_int Try.underlying2 g2
        obtain ⟨o, e4, -, w4⟩ := DataW.trod_string Try.underlying9 g3
        cases e1; cases e2; cases e3; cases e4
        obtain ⟨a, len, cap, A, rfl, hS, hN, hr⟩ := attrs_of h2
        exact ⟨⟨k, t, i, q, o, len, A⟩, a, cap, rfl, ⟨w0, w4, in64_of_wfS w1, in64_of_wfS w2, in64_of_wfS w3, fun j _ => hS j, fun j _ => hN j⟩, hr⟩


theorem gr0 : GoR zRD := ⟨Nat.zero_le _, Nat.zero_le _, in64_zero, in64_zero, in64_zero, fun j hj => by have : (0 : Nat) = zRD.len := rfl; omega, fun j hj => by have : (0 : Nat) = zRD.len := rfl; omega⟩

set_option maxRecDepth 100000 in
/-- A row that came in, opened. -/
theorem row_of {H : Type} {enc : TypeId × Value → H} {W : World} {base : Nat} {v : Value} {d : DataW H} {p : List MemPlace} (hv : Value.okWide Try.prog W .any base 42 v) (h : DataW.Trod enc Try.prog W 0 (fun _ => true) true 42 v d p) :
    ∃ (x : RD) (a : Option Addr) (c : Nat), v = .agg #[.string x.key, .int .i64 x.t, .int .i64 x.i, .int .i64 x.q, .string x.o, .slice a x.len c] ∧ GoR x ∧ ReadsA W a x.len x.A := by
  obtain ⟨cs, rfl, hsz⟩ := okWide_struct Try.underlying42 hv
  obtain ⟨fuel, hf⟩ := h
  obtain ⟨x, a, c, hc, hg, hr⟩ := row_cells hf
  obtain ⟨l⟩ := cs
  have hl : l = [.string x.key, .int .i64 x.t, .int .i64 x.i, .int .i64 x.q, .string x.o, .slice a x.len c] := hc
  subst hl
  exact ⟨x, a, c, rfl, hg, hr⟩


/-- The rows from the k-th on. -/
def fromR (R : Nat → RD) (n k : Nat) : List RD := (List.range (n - k)).map fun j => R (k + j)

theorem fromR_cons (R : Nat → RD) {n k : Nat} (h : k < n) : fromR R n k = R k :: fromR R n (k + 1) := by
  unfold fromR
  rw [show n - k = (n - (k + 1)) + 1 by omega, List.range_succ_eq_map, List.map_cons, List.map_map]
  simp only [Nat.add_zero, List.cons.injEq, true_and]
  apply List.map_congr_left
  intro j _
  simp only [Function.comp_def, Nat.succ_eq_add_one]
  congr 1; omega

theorem fromR_nil (R : Nat → RD) {n k : Nat} (h : n ≤ k) : fromR R n k = [] := by unfold fromR; rw [Nat.sub_eq_zero_of_le h]; rfl

theorem ReadsRG.cells {G : Nat → Prop} {w : World} {a : Option Addr} {n : Nat} {R : Nat → RD} (h : ReadsRG G w a n R) {k : Nat} (hk : k < n) : ∃ b off y c, a = some ⟨b, off, none⟩ ∧ G b ∧ Cells6 w b (off + k * 6) (R k) y c ∧ ReadsAG G w y (R k).len (R k).A := by
  obtain ⟨b, off, rfl, hg, hc⟩ := h.2.resolve_left (by omega)
  obtain ⟨y, c, h6, hy⟩ := hc k hk
  exact ⟨b, off, y, c, rfl, hg, h6, hy⟩

/-- Are rows few, and short? -/
def fewRs (n : Nat) (R : Nat → RD) : Bool := decide (n ≤ 70) && (fromR R n 0).all fewR

theorem fewRs_all {n : Nat} {R : Nat → RD} (g : ∀ j, j < n → GoR (R j)) (h : fewRs n R = true) : n ≤ 70 ∧ ∀ j, j < n → FewR (R j) := by
  unfold fewRs at h
  simp only [Bool.and_eq_true, decide_eq_true_eq, List.all_eq_true] at h
  refine ⟨h.1, fun j hj => ?_⟩
  have := h.2 (R j) (by unfold fromR; exact List.mem_map.2 ⟨j, List.mem_range.2 (by omega), by rw [Nat.zero_add]⟩)
  obtain ⟨h1, h2, h3, h4⟩ := fewR_all this
  have gx := g j hj
  exact ⟨h1, h2, gx.t, gx.i, gx.q, gx.n, h4, h3⟩

set_option maxHeartbeats 4000000 in
set_option maxRecDepth 100000 in
theorem fewRows_any (a : Option Addr) (n c : Nat) (R : Nat → RD) (g : ∀ j, j < n → GoR (R j)) (w : World) (h : ReadsR w a n R) :
    Calls Try.prog 14 #[.slice a n c] w fun e w' => e = .returned (.bool (fewRs n R)) ∧ Below w.heap.size w w' := by
  have hm := h.1
  unfold maxLen at hm
  have H := Lib.hid h
  have GG := Lib.hid g
  clear h g
  by_cases h70 : 70 < n
  · have E := Lib.hid (p := fewRs n R = false) (by unfold fewRs; rw [decide_eq_false (by omega)]; rfl)
    go_enter Try.func14, Try.ntmps14
    go_wp2_with fail
    go_ret
    exact ⟨ret_b E.out.symm, Below.refl _ _⟩
  have E := Lib.hid (p := fewRs n R = (fromR R n 0).all fewR) (by unfold fewRs; rw [decide_eq_true (by omega)]; rfl)
  go_enter Try.func14, Try.ntmps14
  go_wp2_with fail
  go_loopw [3] (fun i wr => ∃ k : Nat, i = .int .i64 k ∧ k ≤ n ∧ Hid ((fromR R n 0).all fewR = (fromR R n k).all fewR) ∧ Hid (Below w.heap.size w wr)) (fun i _ => n - (intOf i).toNat)
  case atStart => exact ⟨0, rfl, Nat.zero_le _, Lib.hid rfl, Lib.hid (Below.refl _ _)⟩
  case round =>
    obtain ⟨k, rfl, hk, hE, hB⟩ := hrel
    by_cases hlt : k < n
    · obtain ⟨b, off, y, ce, hab, -, h6, hy⟩ := (H.out.below hB.out).cells hlt
      subst hab
      have hE2 := hE.out
      rw [fromR_cons R hlt, List.all_cons] at hE2
      have gk := GG.out k hlt
      have C := Lib.hid (few_any (R k) y ce gk.k gk.o gk.s wr hy.plain)
      obtain ⟨x, hx⟩ : ∃ x, R k = x := ⟨_, rfl⟩
      rw [hx] at h6 hE2 C
      obtain ⟨q, hq⟩ : ∃ q, fewR x = q := ⟨_, rfl⟩
      rw [hq] at C hE2
      have HE := Lib.hid hE2
      obtain ⟨p0, p1, p2, p3, p4, p5⟩ := h6
      have hz := hB.out.size
      clear hE2 hx hq gk hy hE
      cases q with
      | true =>
        go_wp2_with fail
        refine C.out.mono ?_
        rintro e w2 ⟨rfl, hb⟩
        have B2 := Lib.hid (hB.out.trans (hb.mono hz))
        clear hb C p0 p1 p2 p3 p4 p5
        go_wp2_with fail
        go_roundw
        case rel => exact ⟨k + 1, by go_num, by omega, Lib.hid (by rw [HE.out]; rfl), B2⟩
        case measure => simp [intOf]; omega
      | false =>
        go_wp2_with fail
        refine C.out.mono ?_
        rintro e w2 ⟨rfl, hb⟩
        have B2 := Lib.hid (hB.out.trans (hb.mono hz))
        clear hb C p0 p1 p2 p3 p4 p5
        go_wp2_with fail
        go_ret
        exact ⟨ret_b (by rw [E.out, HE.out]; rfl), B2.out⟩
    · obtain rfl : k = n := by omega
      go_wp2_with fail
      go_ret
      exact ⟨ret_b (by rw [E.out, hE.out, fromR_nil R (Nat.le_refl _)]; rfl), hB.out⟩

set_option maxRecDepth 100000 in
/-- Rows that came in, opened. -/
theorem rows_of {H : Type} {enc : TypeId × Value → H} {W : World} {base : Nat} {v : Value} {d : DataW H} {p : List MemPlace} (hv : Value.okWide Try.prog W .any base 22 v) (h : DataW.Trod enc Try.prog W 0 (fun _ => true) true 22 v d p) :
    ∃ (a : Option Addr) (n c : Nat) (R : Nat → RD), v = .slice a n c ∧ (∀ j, j < n → GoR (R j)) ∧ ReadsR W a n R := by
  obtain ⟨a0, len0, cap0, rfl⟩ := okWide_slice Try.underlying22 hv
  obtain ⟨fuel, hf⟩ := h
  rcases open_slice Try.underlying22 hf with ⟨hcs, _⟩ | ⟨x, l, c, m, n, D, Pl, hcs, _, hl, hm, hmm, _, hi⟩
  · simp [Value.cells] at hcs
    obtain ⟨rfl, rfl, rfl⟩ := hcs
    exact ⟨none, 0, 0, fun _ => zRD, rfl, fun j hj => by omega, Nat.zero_le _, .inl rfl⟩
  · simp [Value.cells] at hcs
    obtain ⟨rfl, rfl, rfl⟩ := hcs
    simp only [if_true] at hmm
    subst hmm
    have hx : ∀ j, ∃ s : RD, GoR s ∧ (j < len0 → ∃ y cc, (∀ i u, ([.string s.key, .int .i64 s.t, .int .i64 s.i, .int .i64 s.q, .string s.o, .slice y s.len cc] : List Value)[i]? = some u → W.cell? (x.add (j * 6 + i)) = some u) ∧ ReadsA W y s.len s.A) := by
      intro j
      by_cases hj : j < len0
      · obtain ⟨cs', hc, ht⟩ := hi j (by omega)
        rw [rowCells] at hc
        obtain ⟨s, y, cc, rfl, hs, hr⟩ := row_cells ht
        obtain ⟨-, -, hat⟩ := World.cells?_some hc
        have e : ∀ i, (x.add (j * 6)).add i = x.add (j * 6 + i) := fun i => Go.Deep.add_add _ _ _
        refine ⟨s, hs, fun _ => ⟨y, cc, fun i u hu => ?_, hr⟩⟩
        have hi6 : i < 6 := (List.getElem?_eq_some_iff.1 hu).1
        have := hat i (by omega)
        rw [e i] at this
        rw [this]
        exact hu
      · exact ⟨zRD, gr0, fun h => absurd h hj⟩
    have hS : ∃ S : Nat → RD, ∀ j, GoR (S j) ∧ (j < len0 → ∃ y cc, (∀ i u, ([.string (S j).key, .int .i64 (S j).t, .int .i64 (S j).i, .int .i64 (S j).q, .string (S j).o, .slice y (S j).len cc] : List Value)[i]? = some u → W.cell? (x.add (j * 6 + i)) = some u) ∧ ReadsA W y (S j).len (S j).A) := ⟨fun j => Classical.choose (hx j), fun j => Classical.choose_spec (hx j)⟩
    obtain ⟨S, hS⟩ := hS
    refine ⟨some x, len0, _, S, rfl, fun j _ => (hS j).1, Nat.le_trans hl hm, ?_⟩
    by_cases hz : len0 = 0
    · exact Or.inl hz
    · right
      obtain ⟨b, off, spot⟩ := x
      obtain ⟨y0, cc0, h0, _⟩ := (hS 0).2 (by omega)
      have h00 := h0 0 _ rfl
      have hspot : spot = none := by simpa [Addr.add] using World.cell?_spot h00
      subst hspot
      refine ⟨b, off, rfl, by have := World.block_lt_of_cell? W _ h00; simpa [Addr.add] using this, fun j hj => ?_⟩
      obtain ⟨y, cc, h6, hr⟩ := (hS j).2 hj
      refine ⟨y, cc, ⟨?_, ?_, ?_, ?_, ?_, ?_⟩, ReadsAG.of hr⟩
      · have := h6 0 _ rfl; rwa [Addr.add_lit] at this
      · have := h6 1 _ rfl; rwa [Addr.add_lit] at this
      · have := h6 2 _ rfl; rwa [Addr.add_lit] at this
      · have := h6 3 _ rfl; rwa [Addr.add_lit] at this
      · have := h6 4 _ rfl; rwa [Addr.add_lit] at this
      · have := h6 5 _ rfl; rwa [Addr.add_lit] at this


end Go.Proofs.Ytpdobbdbmgeoiaa
