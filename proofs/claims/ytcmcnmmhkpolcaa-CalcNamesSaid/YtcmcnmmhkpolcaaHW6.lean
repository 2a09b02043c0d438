/-
  No statement: what these walks need, of earlier texts: YGood, YGet, YOf.
-/
import Derived.Test.YtcmcnmmhkpolcaaHW5
import Derived.Test.YtcmcnmmhkpolcaaProg
import Derived.Deep.LoopGhost
import Derived.Shelf.Spec.SlicesInsertGrow
import Derived.WalkKit
import Derived.WalkSpells
import Derived.IntWalk
import Derived.Lib.Hide
import Derived.LoopTactic
import Derived.Deep.QuietTactic
import Derived.BigQuiet
import Derived.StillTailTactics
import Derived.Deep.RegionHeld3
import Derived.Deep.RegionLaw
import Derived.Lib.SliceRun
import Derived.Lib.SlicesDelete
import Derived.WalkLawsBesides
import Derived.Deep.Cut
import Derived.Test.YtcmcnmmhkpolcaaShelf
import Derived.Lib.Builder
import Derived.Lib.AppendStr
import Derived.RangeFuncRecord
import Derived.Lib.AppendIntMem
import Derived.Lib.AtoiErrMem
import Derived.Lib.ParseIntB
import Derived.Lib.ParseIntBTie
import Derived.Lib.ItoaLen
import Derived.Laws.BytesString
import Derived.RangeFuncBox
import Derived.Maps.AppendAt
import Derived.Laws.IdiomStrings
import Derived.Deep.Slices
import Derived.Deep.Fields
import Derived.ChangeSame
namespace Go.Proofs.Ytcmcnmmhkpolcaa.Wr
section
open Go.RowKit

/-- The row that Good asks. -/
def rowK (n : Nat) (A : Nat → AD) : RD := ⟨⟨#[107]⟩, 0, 0, 0, ⟨#[47, 97]⟩, n, A⟩

def goodL (n : Nat) (A : Nat → AD) : Bool := fewL n A && decide (errR (rowK n A) = 0)

theorem fewL_all {n : Nat} {A : Nat → AD} (h : fewL n A = true) : n ≤ 40 ∧ ∀ j, j < n → FewA (A j) := by
  unfold fewL fewAs at h
  simp only [Bool.and_eq_true, decide_eq_true_eq, List.all_eq_true] at h
  obtain ⟨h3, h4⟩ := h
  refine ⟨h3, fun j hj => ?_⟩
  have := h4 (A j) (by unfold fromA; exact List.mem_map.2 ⟨j, List.mem_range.2 (by omega), by rw [Nat.zero_add]⟩)
  unfold fewA at this
  simp only [Bool.and_eq_true, decide_eq_true_eq] at this
  unfold FewA
  omega

set_option maxRecDepth 100000 in
set_option maxHeartbeats 2000000 in
theorem good_any (a : Option Addr) (n c : Nat) (A : Nat → AD) (hS : ∀ j, j < n → SizA (A j)) (w : World) (h : ReadsA w a n A) :
    Calls Try.prog 10 #[.slice a n c] w fun e w' => e = .returned (.bool (goodL n A)) ∧ Below w.heap.size w w' := by
  have FE := Lib.hid (fewAttrs_any a n c A hS w h)
  have R := Lib.hid h
  clear h hS
  unfold goodL
  by_cases hf : fewL n A = false
  · rw [hf] at FE ⊢
    go_enter Try.func10, Try.ntmps10
    go_wp2_with fail
    refine FE.out.mono ?_
    rintro e w2 ⟨rfl, hb⟩
    have P := Lib.hid hb
    clear hb
    go_wp2_with fail
    go_ret
    exact ⟨rfl, P.out⟩
  · have hf' : fewL n A = true := by simpa using hf
    obtain ⟨hn, hA⟩ := fewL_all hf'
    rw [hf'] at FE ⊢
    have HA := Lib.hid hA
    have XC := Lib.hid (fun a c w h => xCheck_any (rowK n A) a c (by show (1 : Nat) ≤ 1000; omega) (by show (2 : Nat) ≤ 1000; omega) (fun j hj => by obtain ⟨h1, h2, _⟩ := HA.out j hj; show (A j).m.size ≤ 1000 ∧ (A j).s.size ≤ 1000; omega) w h)
    obtain ⟨E, hE⟩ : ∃ E, errR (rowK n A) = E := ⟨_, rfl⟩
    rw [hE] at XC ⊢
    unfold rowK at XC
    simp only at XC
    clear hf hf' hA hE
    by_cases h0 : E = 0
    · subst h0
      go_enter Try.func10, Try.ntmps10
      go_wp2_with fail
      refine FE.out.mono ?_
      rintro e w2 ⟨rfl, hb⟩
      have B2 := Lib.hid hb
      clear hb
      go_wp2_with fail
      refine (ofAttrs_any a n c A (by omega) w2 w2 (R.out.kept B2.out) (Below.refl _ _)).mono ?_
      rintro e w3 ⟨⟨a3, c3, rfl, hr⟩, hb⟩
      have R3 := Lib.hid (hr w3 (Kept.refl _ _))
      have B3 := Lib.hid (B2.out.trans (hb.mono B2.out.size))
      clear hr hb
      go_wp2_with fail
      refine (XC.out _ _ _ R3.out).mono ?_
      rintro e w4 ⟨rfl, hb⟩
      have P := Lib.hid (B3.out.trans (hb.mono B3.out.size))
      clear hb
      go_wp2_with fail
      go_ret
      exact ⟨rfl, P.out⟩
    · rw [decide_eq_false h0]
      have h0' : (E == 0) = false := by simpa using h0
      clear h0
      go_enter Try.func10, Try.ntmps10
      go_wp2_with fail
      refine FE.out.mono ?_
      rintro e w2 ⟨rfl, hb⟩
      have B2 := Lib.hid hb
      clear hb
      go_wp2_with fail
      refine (ofAttrs_any a n c A (by omega) w2 w2 (R.out.kept B2.out) (Below.refl _ _)).mono ?_
      rintro e w3 ⟨⟨a3, c3, rfl, hr⟩, hb⟩
      have R3 := Lib.hid (hr w3 (Kept.refl _ _))
      have B3 := Lib.hid (B2.out.trans (hb.mono B2.out.size))
      clear hr hb
      go_wp2_with fail
      refine (XC.out _ _ _ R3.out).mono ?_
      rintro e w4 ⟨rfl, hb⟩
      have P := Lib.hid (B3.out.trans (hb.mono B3.out.size))
      clear hb
      go_wp2_with fail
      go_ret
      exact ⟨rfl, P.out⟩

/-- The names of attributes. -/
def nmA (A : Nat → AD) (n : Nat) : List ByteArray := (List.range n).map fun j => (A j).m

/-- What the document's Get answers. -/
def RGet (w : World) (A : Nat → AD) (n : Nat) (x : ByteArray) (e : Ending) (w' : World) : Prop :=
  (if has (nmA A n) x = true then ∃ j y c, j < n ∧ (A j).m = x ∧ e = .returned (.tuple #[.agg #[.int .i64 (A j).k, .int .i64 (A j).n, .string (A j).s, .slice y (A j).len c], .bool true]) ∧ Reads w' y (A j).len (A j).z
    else e = .returned (.tuple #[.agg #[.int .i64 0, .int .i64 0, .string ⟨#[]⟩, .slice none 0 0], .bool false])) ∧ Below w.heap.size w w'

end

section
open Go.RowKit

theorem nmA_has {A : Nat → AD} {n k : Nat} (hk : k < n) {x : ByteArray} (h : (A k).m = x) : has (nmA A n) x = true :=
  (has_iff _ _).2 (List.mem_map.2 ⟨k, List.mem_range.2 hk, h⟩)

theorem nmA_not {A : Nat → AD} {n : Nat} {x : ByteArray} (h : ∀ j, j < n → (A j).m ≠ x) : has (nmA A n) x = false := by
  rw [Bool.eq_false_iff]
  intro hh
  obtain ⟨j, hj, e⟩ := List.mem_map.1 ((has_iff _ _).1 hh)
  exact h j (List.mem_range.1 hj) e

set_option maxRecDepth 100000 in
set_option maxHeartbeats 4000000 in
theorem rGet_any (a : Option Addr) (n c : Nat) (A : Nat → AD) (x : ByteArray) (hn : n ≤ 1000) (w : World) (h : ReadsA w a n A) :
    Calls Try.prog 25 #[.slice a n c, .string x] w (RGet w A n x) := by
  have BL : ∀ o, Below w.heap.size w (w.alloc o) := fun o => (Below.refl _ _).alloc (Nat.le_refl _) _
  obtain ⟨W, hW⟩ : ∃ W, w.alloc (.cells #[.int .i64 0, .int .i64 0, .string ⟨#[]⟩, .slice none 0 0] 62) = W := ⟨_, rfl⟩
  have hWb : Below w.heap.size w W := by rw [← hW]; exact BL _
  have hWs : W.heap.size = w.heap.size + 1 := by rw [← hW]; simp
  have hW4 : W.heap[w.heap.size]? = some (.cells #[.int .i64 0, .int .i64 0, .string ⟨#[]⟩, .slice none 0 0] 62 (0, 0)) := by rw [← hW]; exact heap_alloc_new w _
  have HW := Lib.hid hW
  have HX := Lib.hid (And.intro hWb (And.intro hWs hW4))
  have RA := Lib.hid h
  clear hWb hW4 hW hWs h BL
  go_enter Try.func25, Try.ntmps25
  go_wp2_with fail
  rw [HW.out]
  go_loopw [6] (fun i wr => ∃ k : Nat, i = .int .i64 k ∧ k ≤ n ∧ wr = W ∧ Hid (∀ j, j < k → (A j).m ≠ x)) (fun i _ => n - (intOf i).toNat)
  case atStart => exact ⟨0, rfl, Nat.zero_le _, rfl, Lib.hid (fun j hj => absurd hj (Nat.not_lt_zero _))⟩
  case round =>
    obtain ⟨k, rfl, hk, rfl, hN⟩ := hrel
    by_cases hlt : k < n
    · obtain ⟨b, off, rfl, hc⟩ := RA.out.2.resolve_left (by omega)
      obtain ⟨y, cy, h5, hry⟩ := hc k hlt
      obtain ⟨v, hv⟩ : ∃ v, A k = v := ⟨_, rfl⟩
      rw [hv] at h5 hry
      obtain ⟨d0, d1, d2, d3, d4⟩ := h5.kept HX.out.1
      have hoff : b < w.heap.size := h5.lt
      by_cases he : v.m = x
      · have GP := Lib.hid (p := ∀ w', Below w.heap.size w w' → RGet w A n x (.returned (.tuple #[.agg #[.int .i64 v.k, .int .i64 v.n, .string v.s, .slice y v.len cy], .bool true])) w') (fun w' hb => ⟨by
          rw [if_pos (nmA_has hlt (by rw [hv]; exact he))]
          exact ⟨k, y, cy, hlt, by rw [hv]; exact he, by rw [hv], by rw [hv]; exact hry.kept hb⟩, hb⟩)
        have V := HX.out.2.2
        obtain ⟨⟨c0, c1, c2, c3⟩, ⟨f0, f1, f2, f3⟩⟩ := four V
        have hz := HX.out.2.1
        have he' : (v.m.toList == x.toList) = true := by rw [he]; exact beq_self_eq_true _
        clear hc h5 hry hv V
        have hb4 := Lib.hid (four_below4 HX.out.1 (Nat.le_refl _) (.int .i64 v.k) (.int .i64 v.n) (.string v.s) (.slice y v.len cy))
        go_wp2_with fail
        exact bodyPost_ret (v := .tuple #[.agg #[.int .i64 v.k, .int .i64 v.n, .string v.s, .slice y v.len cy], .bool true]) (by simp [results, Try.results25, go_sem, *]) rfl (GP.out _ hb4.out)
      · have he' : (v.m.toList == x.toList) = false := by rw [beq_eq_false_iff_ne]; exact fun h => he (bytes_eq h)
        have HN2 := Lib.hid (p := ∀ j, j < k + 1 → (A j).m ≠ x) (fun j hj => by
          by_cases hjk : j = k
          · subst hjk; rw [hv]; exact he
          · exact hN.out j (by omega))
        clear hc h5 hry hv he
        go_wp2_with fail
        go_roundw
        case rel => exact ⟨k + 1, by go_num, by omega, by trivial, HN2⟩
        case measure => simp [intOf]; omega
    · have HH := Lib.hid (p := has (nmA A n) x = false) (nmA_not (fun j hj => hN.out j (by omega)))
      have GP := Lib.hid (p := ∀ w', Below w.heap.size w w' → RGet w A n x (.returned (.tuple #[.agg #[.int .i64 0, .int .i64 0, .string ⟨#[]⟩, .slice none 0 0], .bool false])) w') (fun w' hb => ⟨by rw [if_neg (by rw [HH.out]; decide)], hb⟩)
      obtain ⟨⟨c0, c1, c2, c3⟩, ⟨f0, f1, f2, f3⟩⟩ := four HX.out.2.2
      have hz := HX.out.2.1
      go_wp2_with fail
      have hb4 := Lib.hid (four_below4 HX.out.1 (Nat.le_refl _) (.int .i64 0) (.int .i64 0) (.string ⟨#[]⟩) (.slice none 0 0))
      exact bodyPost_ret (v := .tuple #[.agg #[.int .i64 0, .int .i64 0, .string ⟨#[]⟩, .slice none 0 0], .bool false]) (by simp [results, Try.results25, go_sem, *]) rfl (GP.out _ hb4.out)

end

section
open Go.RowKit Go.ChangeShapes Go.WideShapes Go.Deep

theorem in64_getD {zs : List Int} (h : ∀ n ∈ zs, (Lit.int .i64 n).wf = true) (j : Nat) : In64 (zs.getD j 0) := by
  by_cases hj : j < zs.length
  · rw [List.getD, List.getElem?_eq_getElem hj]
    exact in64_of_wfS (h _ (List.getElem_mem hj))
  · rw [List.getD, List.getElem?_eq_none (by omega)]
    unfold In64; simp

theorem in64_zero : In64 0 := by unfold In64; omega

theorem attrCells : Try.prog.cellsOf 51 = 5 := by kernel_rfl

set_option maxRecDepth 100000 in
/-- The four cells of a value. -/
theorem value_cells {H : Type} {enc : TypeId × Value → H} {W : World} {n : Nat} {c0 c1 c2 c3 : Value} {x : DataW H × List MemPlace} (h : DataW.trod enc Try.prog W 0 (fun _ => true) true n 49 [c0, c1, c2, c3] = some x) :
    ∃ (k i : Int) (s : ByteArray) (a : Option Addr) (len cap : Nat) (z : Nat → Int), c0 = .int .i64 k ∧ c1 = .int .i64 i ∧ c2 = .string s ∧ c3 = .slice a len cap ∧ In64 k ∧ In64 i ∧ s.size ≤ maxLen ∧ (∀ j, In64 (z j)) ∧ Reads W a len z := by
  obtain ⟨ys, m, -, -, -, hyl, hf⟩ := DataW.trod_struct Try.underlying49 h
  have y4 : ys.length = 4 := hyl
  match ys, y4 with
  | [y0, y1, y2, y3], _ =>
    have h0 : DataW.trod enc Try.prog W 0 (fun _ => true) true m 3 [c0] = some y0 := hf 0 _ rfl
    have h1 : DataW.trod enc Try.prog W 0 (fun _ => true) true m 2 [c1] = some y1 := hf 1 _ rfl
    have h2 : DataW.trod enc Try.prog W 0 (fun _ => true) true m 9 [c2] = some y2 := hf 2 _ rfl
    have h3 : DataW.trod enc Try.prog W 0 (fun _ => true) true m 43 [c3] = some y3 := hf 3 _ rfl
    obtain ⟨k, e0, -, w0⟩ := DataW.trod_int Try.underlying3 h0
    obtain ⟨i, e1, -, w1⟩ := DataW.trod_int Try.underlying2 h1
    obtain ⟨s, e2, -, w2⟩ := DataW.trod_string Try.underlying9 h2
    cases e0; cases e1; cases e2
    rcases open_ints Try.underlying43 Try.underlying2 (by kernel_rfl) h3 with ⟨hcs, _⟩ | ⟨x, l, c, zs, hcs, _, hl, hm, hz, _, hcell, hwz⟩
    · cases hcs
      exact ⟨k, i, s, none, 0, 0, fun _ => 0, rfl, rfl, rfl, rfl, in64_of_wfS w0, in64_of_wfS w1, w2, fun _ => in64_zero, ⟨Nat.zero_le _, .inl rfl⟩⟩
    · cases hcs
      simp only [if_true] at hz
      refine ⟨k, i, s, some x, l, c, fun j => zs.getD j 0, rfl, rfl, rfl, rfl, in64_of_wfS w0, in64_of_wfS w1, w2, in64_getD hwz, ⟨Nat.le_trans hl hm, ?_⟩⟩
      by_cases hl0 : l = 0
      · exact .inl hl0
      · right
        obtain ⟨b, off, spot⟩ := x
        have hspot : spot = none := by simpa [Addr.add] using World.cell?_spot (hcell 0 (by omega))
        subst hspot
        exact ⟨b, off, rfl, fun j hj => by rw [← Addr.add_lit]; exact hcell j (by omega)⟩

set_option maxRecDepth 100000 in
/-- The five cells of an attribute. -/
theorem attr_cells {H : Type} {enc : TypeId × Value → H} {W : World} {n : Nat} {cs : List Value} {x : DataW H × List MemPlace} (h : DataW.trod enc Try.prog W 0 (fun _ => true) true n 51 cs = some x) :
    ∃ (v : AD) (y : Option Addr) (c : Nat), SizA v ∧ NumA v ∧ cs = fiveL v y c ∧ Reads W y v.len v.z := by
  obtain ⟨ys, m, -, -, hlen, hyl, hf⟩ := DataW.trod_struct Try.underlying51 h
  rw [attrCells] at hlen
  match cs, hlen with
  | [c0, c1, c2, c3, c4], _ =>
    have y2 : ys.length = 2 := hyl
    match ys, y2 with
    | [y0, y1], _ =>
      have h0 : DataW.trod enc Try.prog W 0 (fun _ => true) true m 9 [c0] = some y0 := hf 0 _ rfl
      have h1 : DataW.trod enc Try.prog W 0 (fun _ => true) true m 49 [c1, c2, c3, c4] = some y1 := hf 1 _ rfl
      obtain ⟨s, e0, -, w0⟩ := DataW.trod_string Try.underlying9 h0
      cases e0
      obtain ⟨k, i, t, a, len, cap, z, rfl, rfl, rfl, rfl, wk, wi, wt, wz, hr⟩ := value_cells h1
      exact ⟨⟨s, k, i, t, len, z⟩, a, cap, ⟨w0, wt, hr.1⟩, ⟨wk, wi, wz⟩, rfl, hr⟩

theorem attrs_of {H : Type} {enc : TypeId × Value → H} {W : World} {fuel : Nat} {c5 : Value} {x : DataW H × List MemPlace}
    (hf : DataW.trod enc Try.prog W 0 (fun _ => true) true fuel 25 [c5] = some x) : ∃ (a : Option Addr) (len cap : Nat) (A : Nat → AD), c5 = .slice a len cap ∧ (∀ j, SizA (A j)) ∧ (∀ j, NumA (A j)) ∧ ReadsA W a len A := by
  have d0 : SizA ⟨⟨#[]⟩, 0, 0, ⟨#[]⟩, 0, fun _ => 0⟩ := ⟨Nat.zero_le _, Nat.zero_le _, Nat.zero_le _⟩
  have d1 : NumA ⟨⟨#[]⟩, 0, 0, ⟨#[]⟩, 0, fun _ => 0⟩ := ⟨in64_zero, in64_zero, fun _ => in64_zero⟩
  rcases open_slice Try.underlying25 hf with ⟨hcs, _⟩ | ⟨x, l, c, m, n, D, Pl, hcs, _, hl, hm, hmm, _, hi⟩
  · simp at hcs
    subst hcs
    exact ⟨none, 0, 0, fun _ => ⟨⟨#[]⟩, 0, 0, ⟨#[]⟩, 0, fun _ => 0⟩, rfl, fun _ => d0, fun _ => d1, Nat.zero_le _, .inl rfl⟩
  · simp at hcs
    subst hcs
    simp only [if_true] at hmm
    subst hmm
    have hx : ∀ j, ∃ s : AD, SizA s ∧ NumA s ∧ (j < l → ∃ y cc, (W.cell? (x.add (j * 5)) = some (.string s.m) ∧ W.cell? (x.add (j * 5 + 1)) = some (.int .i64 s.k) ∧ W.cell? (x.add (j * 5 + 2)) = some (.int .i64 s.n) ∧ W.cell? (x.add (j * 5 + 3)) = some (.string s.s) ∧ W.cell? (x.add (j * 5 + 4)) = some (.slice y s.len cc)) ∧ Reads W y s.len s.z) := by
      intro j
      by_cases hj : j < l
      · obtain ⟨cs', hc, ht⟩ := hi j (by omega)
        rw [attrCells] at hc
        obtain ⟨s, y, cc, hs, hn, rfl, hr⟩ := attr_cells ht
        obtain ⟨-, -, hat⟩ := World.cells?_some hc
        have e : ∀ i, i < 5 → (x.add (j * 5)).add i = x.add (j * 5 + i) := fun i _ => Go.Deep.add_add _ _ _
        refine ⟨s, hs, hn, fun _ => ⟨y, cc, ⟨?_, ?_, ?_, ?_, ?_⟩, hr⟩⟩
        · have := hat 0 (by omega); rw [e 0 (by omega)] at this; exact this
        · have := hat 1 (by omega); rw [e 1 (by omega)] at this; exact this
        · have := hat 2 (by omega); rw [e 2 (by omega)] at this; exact this
        · have := hat 3 (by omega); rw [e 3 (by omega)] at this; exact this
        · have := hat 4 (by omega); rw [e 4 (by omega)] at this; exact this
      · exact ⟨_, d0, d1, fun h => absurd h hj⟩
    have hS : ∃ S : Nat → AD, ∀ j, SizA (S j) ∧ NumA (S j) ∧ (j < l → ∃ y cc, (W.cell? (x.add (j * 5)) = some (.string (S j).m) ∧ W.cell? (x.add (j * 5 + 1)) = some (.int .i64 (S j).k) ∧ W.cell? (x.add (j * 5 + 2)) = some (.int .i64 (S j).n) ∧ W.cell? (x.add (j * 5 + 3)) = some (.string (S j).s) ∧ W.cell? (x.add (j * 5 + 4)) = some (.slice y (S j).len cc)) ∧ Reads W y (S j).len (S j).z) := ⟨fun j => Classical.choose (hx j), fun j => Classical.choose_spec (hx j)⟩
    obtain ⟨S, hS⟩ := hS
    refine ⟨some x, l, _, S, rfl, fun j => (hS j).1, fun j => (hS j).2.1, Nat.le_trans hl hm, ?_⟩
    by_cases hz : l = 0
    · exact Or.inl hz
    · right
      obtain ⟨b, off, spot⟩ := x
      have hspot : spot = none := by
        obtain ⟨y, cc, h0, _⟩ := (hS 0).2.2 (by omega)
        simpa [Addr.add] using World.cell?_spot h0.1
      subst hspot
      refine ⟨b, off, rfl, fun j hj => ?_⟩
      obtain ⟨y, cc, h5, hr⟩ := (hS j).2.2 hj
      rw [Addr.add_lit, Addr.add_lit, Addr.add_lit, Addr.add_lit, Addr.add_lit] at h5
      exact ⟨y, cc, h5, hr⟩

/-- Attributes that came in, opened. -/
theorem attrsV_of {H : Type} {enc : TypeId × Value → H} {W : World} {a : Option Addr} {l c : Nat} {d : DataW H} {p : List MemPlace} (h : DataW.Trod enc Try.prog W 0 (fun _ => true) true 25 (.slice a l c) d p) :
    ∃ A : Nat → AD, (∀ j, SizA (A j)) ∧ ReadsA W a l A := by
  obtain ⟨fuel, hf⟩ := h
  have hf' : DataW.trod enc Try.prog W 0 (fun _ => true) true fuel 25 [.slice a l c] = some (d, p) := hf
  obtain ⟨a', l', c', A, e, hS, _, hr⟩ := attrs_of hf'
  cases e
  exact ⟨A, hS, hr⟩

end

end Go.Proofs.Ytcmcnmmhkpolcaa.Wr
