/-
  No statement: the law's own Few, Of and OfAttrs: rows made anew, of the same data.
-/
import Derived.Test.YtikifgenfpkidaaAppM
import Derived.Test.YtikifgenfpkidaaWCheck
import Derived.Test.YtikifgenfpkidaaTbOwn
import Derived.Deep.Slices
import Derived.Deep.RegionWith
import Derived.Deep.RegionHeld3
set_option linter.unusedVariables false
set_option linter.unusedSimpArgs false
namespace Go.Proofs.Ytikifgenfpkidaa
open Go.RowKit

set_option maxHeartbeats 1000000 in
theorem of2_any (k n : Int) (s : ByteArray) (a : Option Addr) (len cap : Nat) (w : World) : Calls Try.prog 52 #[val k n s (.slice a len cap)] w fun e w' => e = .returned (val k n s (.slice a len cap)) ∧ Below w.heap.size w w' := by
  unfold val
  go_enter Try.func52, Try.ntmps52
  go_wp2
  exact bodyPost_ret (v := .agg #[.int .i64 k, .int .i64 n, .string s, .slice a len cap]) (by simp [results, Try.results52, go_sem]) rfl ⟨rfl, ((Below.refl _ _).alloc (Nat.le_refl _) _).alloc (by simp) _⟩



set_option maxHeartbeats 1000000 in
theorem few2_any (k n : Int) (s : ByteArray) (a : Option Addr) (len cap : Nat) (hs : s.size ≤ maxLen) (hl : len ≤ maxLen) (w : World) :
    Calls Try.prog 67 #[.agg #[.int .i64 k, .int .i64 n, .string s, .slice a len cap]] w fun e w' => e = .returned (.bool (decide (s.size ≤ 200) && decide (len ≤ 40))) ∧ Below w.heap.size w w' := by
  unfold maxLen at hs hl
  by_cases h1 : s.size ≤ 200
  · by_cases h2 : len ≤ 40
    · go_enter Try.func67, Try.ntmps67
      go_wp2_with fail
      go_ret
      exact ⟨ret_b (a := decide ((len : Int) ≤ 40)) (by rw [decide_eq_true h1, Bool.true_and, decide_eq_true h2]; exact decide_eq_true (by omega)), (Below.refl _ _).alloc (Nat.le_refl _) _⟩
    · go_enter Try.func67, Try.ntmps67
      go_wp2_with fail
      go_ret
      exact ⟨ret_b (a := decide ((len : Int) ≤ 40)) (by rw [decide_eq_true h1, Bool.true_and, decide_eq_false h2]; exact decide_eq_false (by omega)), (Below.refl _ _).alloc (Nat.le_refl _) _⟩
  · go_enter Try.func67, Try.ntmps67
    go_wp2_with fail
    go_ret
    exact ⟨ret_b (a := false) (by first | rfl | (rw [decide_eq_false h1]; rfl)), (Below.refl _ _).alloc (Nat.le_refl _) _⟩

/-- Is an attribute short? -/
def fewA (x : AD) : Bool := decide (x.m.size ≤ 100) && (decide (x.s.size ≤ 200) && decide (x.len ≤ 40))
def fewAs (l : List AD) : Bool := l.all fewA
/-- Are attributes few, and short? -/
def fewL (n : Nat) (A : Nat → AD) : Bool := decide (n ≤ 40) && fewAs (fromA A n 0)
/-- Is a row short? -/
def fewR (x : RD) : Bool := decide (x.key.size ≤ 100) && (decide (x.o.size ≤ 100) && fewL x.len x.A)
/-- All sizes are sizes of Go. -/
def SizA (x : AD) : Prop := x.m.size ≤ maxLen ∧ x.s.size ≤ maxLen ∧ x.len ≤ maxLen

set_option maxRecDepth 100000 in
set_option maxHeartbeats 4000000 in
theorem fewAttrs_any (a : Option Addr) (n c : Nat) (A : Nat → AD) (hS : ∀ j, j < n → SizA (A j)) (w : World) (h : ReadsA w a n A) :
    Calls Try.prog 44 #[.slice a n c] w fun e w' => e = .returned (.bool (fewL n A)) ∧ Below w.heap.size w w' := by
  have hm := h.1
  unfold maxLen at hm
  have R := Lib.hid h
  have HS := Lib.hid hS
  clear h hS
  by_cases h40 : 40 < n
  · have E := Lib.hid (p := fewL n A = false) (by unfold fewL; rw [decide_eq_false (by omega)]; rfl)
    go_enter Try.func44, Try.ntmps44
    go_wp2_with fail
    go_ret
    exact ⟨ret_b E.out.symm, Below.refl _ _⟩
  · have E := Lib.hid (p := fewL n A = fewAs (fromA A n 0)) (by unfold fewL; rw [decide_eq_true (by omega)]; rfl)
    go_enter Try.func44, Try.ntmps44
    go_wp2_with fail
    go_loopw [3] (fun i wr => ∃ k : Nat, i = .int .i64 k ∧ k ≤ n ∧ Hid (fewAs (fromA A n 0) = fewAs (fromA A n k)) ∧ Hid (Below w.heap.size w wr)) (fun i _ => n - (intOf i).toNat)
    case atStart => exact ⟨0, rfl, Nat.zero_le _, Lib.hid rfl, Lib.hid (Below.refl _ _)⟩
    case round =>
      obtain ⟨k, rfl, hk, hE, hB⟩ := hrel
      by_cases hlt : k < n
      · obtain ⟨b, off, rfl, hc⟩ := R.out.2.resolve_left (by omega)
        obtain ⟨y, e, g0, -⟩ := hc k hlt
        have g := g0.kept hB.out
        have hE2 := hE.out
        rw [fromA_cons A hlt] at hE2
        have hsz := HS.out k hlt
        obtain ⟨x, hx⟩ : ∃ x, A k = x := ⟨_, rfl⟩
        rw [hx] at g hE2 hsz
        have hE3 : fewAs (fromA A n 0) = (fewA x && fewAs (fromA A n (k + 1))) := hE2
        obtain ⟨hs1, hs2, hs3⟩ := hsz
        have F2 := Lib.hid (fun w => few2_any x.k x.n x.s y x.len e hs2 hs3 w)
        obtain ⟨q, hq⟩ : ∃ q, (decide (x.s.size ≤ 200) && decide (x.len ≤ 40)) = q := ⟨_, rfl⟩
        rw [hq] at F2
        have hf : fewA x = (decide (x.m.size ≤ 100) && q) := by unfold fewA; rw [hq]
        rw [hf] at hE3
        have hz := hB.out.size
        unfold maxLen at hs1
        obtain ⟨p0, p1, p2, p3, p4⟩ := g
        clear hc hE2 hE hx hf hq g0 hs2 hs3
        by_cases h1 : 100 < x.m.size
        · have HE := Lib.hid (p := fewAs (fromA A n 0) = false) (by rw [hE3, decide_eq_false (by omega)]; rfl)
          clear hE3
          go_wp2_with fail
          go_ret
          exact ⟨ret_b (by rw [E.out, HE.out]), hB.out⟩
        · have HE := Lib.hid (p := fewAs (fromA A n 0) = (q && fewAs (fromA A n (k + 1)))) (by rw [hE3, decide_eq_true (by omega)]; rfl)
          clear hE3
          go_wp2_with fail
          refine (F2.out _).mono ?_
          rintro e w2 ⟨rfl, hb⟩
          have B2 := Lib.hid hb
          clear hb p0 p1 p2 p3 p4
          cases q with
          | true =>
            go_wp2_with fail
            go_roundw
            case rel => exact ⟨k + 1, by go_num, by omega, Lib.hid (by rw [HE.out]; rfl), Lib.hid (hB.out.trans (B2.out.mono hz))⟩
            case measure => simp [intOf]; omega
          | false =>
            go_wp2_with fail
            go_ret
            exact ⟨ret_b (by rw [E.out, HE.out]; rfl), hB.out.trans (B2.out.mono hz)⟩
      · go_wp2_with fail
        go_ret
        exact ⟨ret_b (by rw [E.out, hE.out, fromA_nil A (by omega)]; rfl), hB.out⟩

set_option maxHeartbeats 4000000 in
theorem few_any (x : RD) (a : Option Addr) (c : Nat) (hk : x.key.size ≤ maxLen) (ho : x.o.size ≤ maxLen) (hS : ∀ j, j < x.len → SizA (x.A j)) (w : World) (h : ReadsA w a x.len x.A) :
    Calls Try.prog 19 #[.agg #[.string x.key, .int .i64 x.t, .int .i64 x.i, .int .i64 x.q, .string x.o, .slice a x.len c]] w fun e w' => e = .returned (.bool (fewR x)) ∧ Below w.heap.size w w' := by
  unfold maxLen at hk ho
  have bl : ∀ o, Below w.heap.size w (w.alloc o) := fun o => (Below.refl _ _).alloc (Nat.le_refl _) _
  have F := Lib.hid (fun o => fewAttrs_any a x.len c x.A hS (w.alloc o) (h.kept (bl o)))
  have BL := Lib.hid bl
  obtain ⟨q, hq⟩ : ∃ q, fewL x.len x.A = q := ⟨_, rfl⟩
  have hf : fewR x = (decide (x.key.size ≤ 100) && (decide (x.o.size ≤ 100) && q)) := by unfold fewR; rw [hq]
  rw [hq] at F
  rw [hf]
  clear bl h hq hf hS
  by_cases h1 : x.key.size ≤ 100
  · by_cases h2 : x.o.size ≤ 100
    · rw [decide_eq_true h1, decide_eq_true h2]
      go_enter Try.func19, Try.ntmps19
      go_wp2_with fail
      refine (F.out _).mono ?_
      rintro e w2 ⟨rfl, hb⟩
      have B2 := Lib.hid hb
      clear hb
      go_wp2_with fail
      go_ret
      exact ⟨rfl, (BL.out _).trans (B2.out.mono (by simp))⟩
    · rw [decide_eq_true h1, decide_eq_false h2]
      go_enter Try.func19, Try.ntmps19
      go_wp2_with fail
      go_ret
      exact ⟨rfl, BL.out _⟩
  · rw [decide_eq_false h1]
    go_enter Try.func19, Try.ntmps19
    go_wp2_with fail
    go_ret
    exact ⟨rfl, BL.out _⟩

/-- The five cells of an attribute, as a list. -/
def fiveL (x : AD) (y : Option Addr) (c : Nat) : List Value := [.string x.m, .int .i64 x.k, .int .i64 x.n, .string x.s, .slice y x.len c]

/-- The cells of the first k attributes. -/
def cellsA (A : Nat → AD) (Y : Nat → Option Addr) (C : Nat → Nat) : Nat → List Value
  | 0 => []
  | k + 1 => cellsA A Y C k ++ fiveL (A k) (Y k) (C k)

theorem cellsA_len (A : Nat → AD) (Y : Nat → Option Addr) (C : Nat → Nat) : ∀ k, (cellsA A Y C k).length = k * 5
  | 0 => rfl
  | k + 1 => by rw [cellsA, List.length_append, cellsA_len A Y C k]; show k * 5 + 5 = _; omega

theorem cellsA_at (A : Nat → AD) (Y : Nat → Option Addr) (C : Nat → Nat) {i : Nat} (hi : i < 5) : ∀ {k j : Nat}, j < k → (cellsA A Y C k)[j * 5 + i]? = (fiveL (A j) (Y j) (C j))[i]?
  | 0, j, h => by omega
  | k + 1, j, h => by
    have hl := cellsA_len A Y C k
    rw [cellsA]
    by_cases hj : j < k
    · rw [List.getElem?_append_left (by omega)]
      exact cellsA_at A Y C hi hj
    · obtain rfl : j = k := by omega
      rw [List.getElem?_append_right (by omega), hl, show j * 5 + i - j * 5 = i by omega]

theorem fiveL_one (x : AD) (y : Option Addr) (c : Nat) : ∀ u ∈ fiveL x y c, u.oneCell' = true := by
  intro u hu
  simp only [fiveL, List.mem_cons, List.not_mem_nil, or_false] at hu
  rcases hu with rfl | rfl | rfl | rfl | rfl <;> rfl

/-- What is owned so reads as those attributes. -/
theorem readsA_own {w : World} {base : Nat} {e : TypeId} {v : Value} {n : Nat} {A : Nat → AD} {Y : Nat → Option Addr} {C : Nat → Nat} (h : w.ownsRow base e 5 v n (cellsA A Y C n)) (hr : ∀ j, j < n → Reads w (Y j) (A j).len (A j).z) :
    ∃ a c, v = .slice a n c ∧ ReadsA w a n A := by
  rcases h.2 with ⟨rfl, rfl⟩ | ⟨g, cap, cur, rfl, _, hg, hnc, hcm, _, ht⟩
  · exact ⟨none, 0, rfl, Nat.zero_le _, .inl rfl⟩
  · refine ⟨_, _, rfl, Nat.le_trans hnc hcm, .inr ⟨g, 0, rfl, fun j hj => ⟨Y j, C j, ?_, hr j hj⟩⟩⟩
    have cell : ∀ i u, i < 5 → (fiveL (A j) (Y j) (C j))[i]? = some u → w.cell? ⟨g, 0 + j * 5 + i, none⟩ = some u := fun i u hi hu => by
      rw [Nat.zero_add]
      obtain ⟨g', hg', hc⟩ := owns_at h (by rw [cellsA_at A Y C hi hj]; exact hu)
      simp only [Addr.mk.injEq] at hg'
      obtain ⟨rfl, _⟩ := hg'
      exact hc
    exact ⟨cell 0 _ (by omega) rfl, cell 1 _ (by omega) rfl, cell 2 _ (by omega) rfl, cell 3 _ (by omega) rfl, cell 4 _ (by omega) rfl⟩

/-- Attributes made anew. -/
def OfPost (w0 w : World) (n : Nat) (A : Nat → AD) (e : Ending) (w' : World) : Prop := (∃ a c, e = .returned (.slice a n c) ∧ ∀ w3, Kept (fun k => w0.heap.size ≤ k ∧ k < w.heap.size) w' w3 → ReadsA w3 a n A) ∧ Below w.heap.size w w'

theorem new_five (w : World) (x : AD) (y : Option Addr) (c : Nat) : ∀ j u, (fiveL x y c)[j]? = some u → (w.alloc (.cells #[.string x.m, .int .i64 x.k, .int .i64 x.n, .string x.s, .slice y x.len c] 69)).cell? ((⟨w.heap.size, 0, none⟩ : Addr).add j) = some u := fun j u hj => by
  rw [Addr.add_lit, Nat.zero_add, cell_of_row _ _ _ _ _ (0, 0) (heap_alloc_new w _)]
  simpa [fiveL] using hj

theorem own_slice {w : World} {base : Nat} {e : TypeId} {size : Nat} {v : Value} {n : Nat} {xs : List Value} (h : w.ownsRow base e size v n xs) : ∃ a l c, v = .slice a l c := by
  rcases h.2 with ⟨h, _⟩ | ⟨g, cap, _, h, _⟩
  · exact ⟨_, _, _, h⟩
  · exact ⟨_, _, _, h⟩

theorem ofInfo : (Try.prog.info? 69).map (fun i => (i.zero, i.size, i.bytes)) = some (some (.agg #[.string ⟨#[]⟩, .int .i64 0, .int .i64 0, .string ⟨#[]⟩, .slice none 0 0]), 5, 72) := by kernel_rfl

set_option maxRecDepth 100000 in
set_option maxHeartbeats 4000000 in
theorem ofAttrs_any (a : Option Addr) (n c : Nat) (A : Nat → AD) (hn : n ≤ 1000) (w0 w : World) (h : ReadsA w0 a n A) (h0w : Below w0.heap.size w0 w) :
    Calls Try.prog 31 #[.slice a n c] w (OfPost w0 w n A) := by
  obtain ⟨i0, hi, hz0, hz1, hz2⟩ := info_parts ofInfo
  have und : Try.prog.underlying 32 = some (.slice 69) := Try.underlying32
  have hm := h.1
  unfold maxLen at hm
  by_cases h0 : n = 0
  · subst h0
    have P := Lib.hid (show OfPost w0 w 0 A (.returned (.slice none 0 0)) w from ⟨⟨none, 0, rfl, fun _ _ => ⟨Nat.zero_le _, .inl rfl⟩⟩, Below.refl _ _⟩)
    clear h h0w
    go_enter Try.func31, Try.ntmps31
    go_wp2_with fail
    go_loop [3, 4] (fun v i => v = .slice none 0 0 ∧ i = .int .i64 0) (fun _ _ => 0)
    case atStart => exact ⟨rfl, rfl⟩
    case round =>
      obtain ⟨rfl, rfl⟩ := hrel
      go_wp2_with fail
      go_ret
      exact P.out
  obtain ⟨-, h1⟩ := h
  obtain ⟨b, off, rfl, hc⟩ := h1.resolve_left h0
  obtain ⟨Y, hY⟩ := Go.Deep.choose_lt hc
  obtain ⟨C, hC⟩ := Go.Deep.choose_lt hY
  have HC := Lib.hid hC
  have H0 := Lib.hid h0w
  have hz0w := h0w.size
  clear hc hY hC h0 h0w
  go_enter Try.func31, Try.ntmps31
  go_wp2_with fail
  go_loopw [3, 4] (fun v i wr => ∃ (k : Nat) (va : Option Addr) (vl vc : Nat), v = .slice va vl vc ∧ i = .int .i64 k ∧ k ≤ n ∧ Hid (wr.ownsRow w.heap.size 69 5 (.slice va vl vc) k (cellsA A Y C k)) ∧ Hid (Below w.heap.size w wr)) (fun _ i _ => n - (intOf i).toNat)
  case atStart => exact ⟨0, none, 0, 0, rfl, rfl, Nat.zero_le _, Lib.hid (World.ownsRow_nil _ _ _ _), Lib.hid (Below.refl _ _)⟩
  case round =>
    obtain ⟨k, va, vl, vc, rfl, rfl, hk, hO, hB⟩ := hrel
    by_cases hlt : k < n
    · obtain ⟨g0, r0⟩ := HC.out k hlt
      obtain ⟨x, hx⟩ : ∃ x, A k = x := ⟨_, rfl⟩
      obtain ⟨y, hy⟩ : ∃ y, Y k = y := ⟨_, rfl⟩
      obtain ⟨ce, he⟩ : ∃ e, C k = e := ⟨_, rfl⟩
      have hnx : cellsA A Y C (k + 1) = cellsA A Y C k ++ fiveL x y ce := by rw [cellsA, hx, hy, he]
      rw [hx, hy, he] at g0
      have NX := Lib.hid hnx
      have G := Lib.hid (p := ∀ w', Below w.heap.size w w' → Cells5 w' b (off + k * 5) x y ce) (fun w' hb => g0.kept (H0.out.trans (hb.mono hz0w)))
      have hz := hB.out.size
      have hdr : Below wr.heap.size wr wr.drew := ⟨rfl, rfl, rfl, Nat.le_refl _, fun _ _ => rfl⟩
      have HDR := Lib.hid hdr
      have NEW := Lib.hid (fun w => new_five w x y ce)
      have OF := Lib.hid (fun w => of2_any x.k x.n x.s y x.len ce w)
      unfold val at OF
      obtain ⟨p0, p1, p2, p3, p4⟩ := G.out _ hB.out
      clear g0 r0 hx hy he hnx hdr
      go_wp2_with fail
      go_region_held3 (fun w' => w'.cell? ⟨b, off + k * 5, none⟩ = some (.string x.m) ∧ w'.cell? ⟨b, off + k * 5 + 1, none⟩ = some (.int .i64 x.k) ∧ w'.cell? ⟨b, off + k * 5 + 2, none⟩ = some (.int .i64 x.n) ∧ w'.cell? ⟨b, off + k * 5 + 3, none⟩ = some (.string x.s) ∧ w'.cell? ⟨b, off + k * 5 + 4, none⟩ = some (.slice y x.len ce)) (first | assumption | (refine ⟨?_, ?_, ?_, ?_, ?_⟩ <;> (first | assumption | (go_keep; done)))) (first
        | (go_at_call 52
           with_reducible refine (OF.out _).mono ?_
           rintro e w2 ⟨rfl, hb⟩
           have B2 := Lib.hid (hB.out.trans ((HDR.out.trans hb).mono hz))
           have O2 := Lib.hid (owns_below hO.out (HDR.out.trans hb))
           have cc := G.out _ B2.out
           clear hb)
        | (refine step_append_one rfl (.tmp 11) (.tmp 24) 32 rfl (base := w.heap.size) und hi hz0 hz1 hz2 rfl (by decide) (.slice va vl vc) k (cellsA A Y C k) (fiveL x y ce) ⟨w2.heap.size, 0, none⟩ 1 (by first | (simp [Act.eval]; done) | fail) (by first | (simp [Act.eval]; done) | fail) (O2.out.alloc _) rfl (NEW.out w2) (fiveL_one x y ce) (by unfold maxLen; omega) (by omega) (by have := B2.out.size; simp; omega) ?_
           intro v3 w3 ho hg
           have O3 := Lib.hid ho
           have B3 := Lib.hid ((B2.out.alloc B2.out.size (.cells #[.string x.m, .int .i64 x.k, .int .i64 x.n, .string x.s, .slice y x.len ce] 69)).grown hg (by have := B2.out.size; simp; omega) (fun q hq => (O2.out.lt q hq).1))
           have cc := G.out _ B3.out
           clear ho hg)
        | fail)
      obtain ⟨va', vl', vc', rfl⟩ := own_slice O3.out
      have O4 := Lib.hid (p := w3.ownsRow w.heap.size 69 5 (.slice va' vl' vc') (k + 1) (cellsA A Y C (k + 1))) (by rw [NX.out]; exact O3.out)
      clear O3 O2 B2 p0 p1 p2 p3 p4
      go_wp2_with fail
      go_roundw
      case rel => exact ⟨k + 1, va', vl', vc', rfl, by go_num, by omega, O4, B3⟩
      case measure => simp [intOf]; omega
    · obtain rfl : k = n := by omega
      have hl : vl = k := by
        rcases hO.out.2 with ⟨h, h'⟩ | ⟨g, cap, _, h, _⟩
        · simp only [Value.slice.injEq] at h; omega
        · simp only [Value.slice.injEq] at h; omega
      subst hl
      have P := Lib.hid (show OfPost w0 w vl A (.returned (.slice va vl vc)) wr from ⟨⟨_, _, rfl, fun w3 k3 => by
        have b3 : Below w0.heap.size w0 w3 := (H0.out.trans (hB.out.mono hz0w)).trans (k3.below (fun k h => h.1) (by have := hB.out.size; omega))
        obtain ⟨a', c', hv, hr⟩ := readsA_own (k3.owns hO.out (fun q hq h => by have := (hO.out.lt q hq).1; omega)) (fun j hj => (HC.out j hj).2.kept b3)
        simp only [Value.slice.injEq] at hv
        obtain ⟨rfl, _, rfl⟩ := hv
        exact hr⟩, hB.out⟩)
      go_wp2_with fail
      go_ret
      exact P.out

/-- A row made anew. -/
def OfRPost (w : World) (x : RD) (e : Ending) (w' : World) : Prop := (∃ a c, e = .returned (.agg #[.string x.key, .int .i64 x.t, .int .i64 x.i, .int .i64 x.q, .string x.o, .slice a x.len c]) ∧ ReadsA w' a x.len x.A) ∧ Below w.heap.size w w'

theorem sixF {w : World} {b : Nat} {v0 v1 v2 v3 v4 v5 : Value} {t : TypeId} (h : w.heap[b]? = some (.cells #[v0, v1, v2, v3, v4, v5] t (0, 0))) :
    w.frozen? ⟨b, 0, none⟩ = false ∧ w.frozen? ⟨b, 1, none⟩ = false ∧ w.frozen? ⟨b, 2, none⟩ = false ∧ w.frozen? ⟨b, 3, none⟩ = false ∧ w.frozen? ⟨b, 4, none⟩ = false ∧ w.frozen? ⟨b, 5, none⟩ = false := by
  refine ⟨?_, ?_, ?_, ?_, ?_, ?_⟩ <;> simp [World.frozen?, h]

theorem six_other {W : World} {B k : Nat} (hne : k ≠ B) {o : Obj} (v0 v1 v2 v3 v4 v5 : Value) (h : W.heap[k]? = some o) :
    ((((((W.setCell ⟨B, 0, none⟩ v0).setCell ⟨B, 1, none⟩ v1).setCell ⟨B, 2, none⟩ v2).setCell ⟨B, 3, none⟩ v3).setCell ⟨B, 4, none⟩ v4).setCell ⟨B, 5, none⟩ v5).heap[k]? = some o := by
  rw [Below.heap_setCell _ ⟨B, 5, none⟩ v5 k hne, Below.heap_setCell _ ⟨B, 4, none⟩ v4 k hne, Below.heap_setCell _ ⟨B, 3, none⟩ v3 k hne, Below.heap_setCell _ ⟨B, 2, none⟩ v2 k hne, Below.heap_setCell _ ⟨B, 1, none⟩ v1 k hne, Below.heap_setCell _ ⟨B, 0, none⟩ v0 k hne]
  exact h





/-- What the walk of Of keeps: the row's box, and the cell of what it answers. -/
structure OfK (w0 : World) (x : RD) (a : Option Addr) (c : Nat) (w : World) : Prop where
  box : w.heap[w0.heap.size]? = some (.cells #[.string x.key, .int .i64 x.t, .int .i64 x.i, .int .i64 x.q, .string x.o, .slice a x.len c] 39 (0, 0))
  res : w.heap[w0.heap.size + 1]? = some (.cells #[.string ⟨#[]⟩, .int .i64 0, .int .i64 0, .int .i64 0, .string ⟨#[]⟩, .slice none 0 0] 34 (0, 0))
  bel : Below w0.heap.size w0 w

theorem OfK.kept {w0 w w' : World} {x : RD} {a : Option Addr} {c : Nat} (h : OfK w0 x a c w) (hb : Below w.heap.size w w') : OfK w0 x a c w' :=
  ⟨(hb.block _ (lt_of_block h.box)).trans h.box, (hb.block _ (lt_of_block h.res)).trans h.res, h.bel.trans (hb.mono (by have := lt_of_block h.box; omega))⟩

set_option maxRecDepth 100000 in
set_option maxHeartbeats 4000000 in
theorem ofR_any (x : RD) (a : Option Addr) (c : Nat) (hn : x.len ≤ 1000) (w : World) (h : ReadsA w a x.len x.A) :
    Calls Try.prog 11 #[.agg #[.string x.key, .int .i64 x.t, .int .i64 x.i, .int .i64 x.q, .string x.o, .slice a x.len c]] w (OfRPost w x) := by
  have R := Lib.hid h
  have OS := Lib.hid (fun w => (show Calls Try.prog 30 #[.agg #[.int .i64 x.t, .int .i64 x.i, .int .i64 x.q, .string x.o]] w fun e w' => e = .returned (.agg #[.int .i64 x.t, .int .i64 x.i, .int .i64 x.q, .string x.o]) ∧ Below w.heap.size w w' by
    go_enter Try.func30, Try.ntmps30
    go_wp2_with fail
    exact bodyPost_ret (v := .agg #[.int .i64 x.t, .int .i64 x.i, .int .i64 x.q, .string x.o]) (by simp [results, Try.results30, go_sem]) rfl ⟨rfl, ((Below.refl _ _).alloc (Nat.le_refl _) _).alloc (by simp) _⟩))
  clear h
  go_enter Try.func11, Try.ntmps11
  go_wp2_with fail
  generalize hW : World.alloc (World.alloc w _) _ = W
  have K0 : Hid (OfK w x a c W) := Lib.hid (by
    refine ⟨?_, ?_, ?_⟩
    · rw [← hW]; exact (Below.heap_alloc _ _ _ (by simp)).trans (heap_alloc_new w _)
    · rw [← hW]
      have := heap_alloc_new (w.alloc (.cells #[.string x.key, .int .i64 x.t, .int .i64 x.i, .int .i64 x.q, .string x.o, .slice a x.len c] 39)) (.cells #[.string ⟨#[]⟩, .int .i64 0, .int .i64 0, .int .i64 0, .string ⟨#[]⟩, .slice none 0 0] 34)
      rwa [World.size_alloc] at this
    · rw [← hW]; exact ((Below.refl _ _).alloc (Nat.le_refl _) _).alloc (by simp) _)
  clear hW
  have hdr : Below W.heap.size W W.drew := ⟨rfl, rfl, rfl, Nat.le_refl _, fun _ _ => rfl⟩
  have KD := Lib.hid (K0.out.kept hdr)
  clear hdr
  obtain ⟨x0, x1, x2, x3, x4, x5⟩ := six K0.out.box
  go_region_with (first
    | (go_at_call 30
       with_reducible refine (OS.out _).mono ?_
       rintro e w1 ⟨rfl, hb⟩
       have K1 := Lib.hid (KD.out.kept hb)
       clear x0 x1 x2 x3 x4 x5
       obtain ⟨x0, x1, x2, x3, x4, x5⟩ := six K1.out.box
       clear hb)
    | (go_at_call 31
       with_reducible refine (ofAttrs_any a x.len c x.A hn w _ R.out K1.out.bel).mono ?_
       rintro e w2 ⟨⟨a2, c2, rfl, hr⟩, hb⟩
       have K2 := Lib.hid (K1.out.kept hb)
       have R2 := Lib.hid hr
       clear x0 x1 x2 x3 x4 x5
       obtain ⟨x0, x1, x2, x3, x4, x5⟩ := six K2.out.box
       obtain ⟨y0, y1, y2, y3, y4, y5⟩ := six K2.out.res
       obtain ⟨z0, z1, z2, z3, z4, z5⟩ := sixF K2.out.res
       clear hb hr)
    | fail)
  all_goals
    have S1 := Lib.hid (lt_of_block K1.out.res)
    have K3 := six_kept w2 (w.heap.size + 1) (.string x.key) (.int .i64 x.t) (.int .i64 x.i) (.int .i64 x.q) (.string x.o) (.slice a2 x.len c2)
    have P := Lib.hid (p := OfRPost w x (.returned (.agg #[.string x.key, .int .i64 x.t, .int .i64 x.i, .int .i64 x.q, .string x.o, .slice a2 x.len c2])) ((((((w2.setCell ⟨w.heap.size + 1, 0, none⟩ (.string x.key)).setCell ⟨w.heap.size + 1, 1, none⟩ (.int .i64 x.t)).setCell ⟨w.heap.size + 1, 2, none⟩ (.int .i64 x.i)).setCell ⟨w.heap.size + 1, 3, none⟩ (.int .i64 x.q)).setCell ⟨w.heap.size + 1, 4, none⟩ (.string x.o)).setCell ⟨w.heap.size + 1, 5, none⟩ (.slice a2 x.len c2))) ⟨⟨_, _, rfl, R2.out _ (K3.mono (fun k hk _ => by have := S1.out; subst hk; omega))⟩, six_below K2.out.bel (by omega) _ _ _ _ _ _⟩
    clear K3 S1 K0 KD K1 K2 R2 OS R
    go_wp2
    exact bodyPost_ret (v := .agg #[.string x.key, .int .i64 x.t, .int .i64 x.i, .int .i64 x.q, .string x.o, .slice a2 x.len c2]) (by simp [results, Try.results11, go_sem, *]) rfl P.out

end Go.Proofs.Ytikifgenfpkidaa
