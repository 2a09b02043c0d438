/-
  No statement: a row, rows that came in, opened; whether they are few.
-/
import Derived.Test.YtikifgenfpkidaaTbOf
import Derived.Test.YtikifgenfpkidaaTbEld
import Derived.OpenShut
import Derived.ProofKit
import Derived.ChangeSlices
import Derived.Deep.Slices
import Derived.Deep.Fields
import Derived.ChangeSame
import Derived.ShutString
set_option linter.unusedVariables false
set_option linter.unusedSimpArgs false
namespace Go.Proofs.Ytikifgenfpkidaa
open Go.RowKit Go.ChangeShapes Go.WideShapes Go.Deep

theorem in64_of_wfS {n : Int} (h : (Lit.int .i64 n).wf = true) : In64 n := by
  simp [Lit.wf, IntKind.min, IntKind.max, IntKind.bits, IntKind.signed] at h
  unfold In64
  omega
/-- A row whose sizes and numbers are those of Go. -/
structure GoR (x : RD) : Prop where
  k : x.key.size ≤ maxLen
  o : x.o.size ≤ maxLen
  t : In64 x.t
  i : In64 x.i
  q : In64 x.q
  s : ∀ j, j < x.len → SizA (x.A j)
  n : ∀ j, j < x.len → NumA (x.A j)

theorem fewR_all {x : RD} (h : fewR x = true) : x.key.size ≤ 100 ∧ x.o.size ≤ 100 ∧ x.len ≤ 40 ∧ ∀ j, j < x.len → FewA (x.A j) := by
  unfold fewR fewL fewAs at h
  simp only [Bool.and_eq_true, decide_eq_true_eq, List.all_eq_true] at h
  obtain ⟨h1, h2, h3, h4⟩ := h
  refine ⟨h1, h2, h3, fun j hj => ?_⟩
  have := h4 (x.A j) (by unfold fromA; exact List.mem_map.2 ⟨j, List.mem_range.2 (by omega), by rw [Nat.zero_add]⟩)
  unfold fewA at this
  simp only [Bool.and_eq_true, decide_eq_true_eq] at this
  unfold FewA
  omega


/-- OfAttrs at attributes that lie there. -/
theorem ofA_any (a : Option Addr) (n c : Nat) (A : Nat → AD) (hn : n ≤ 1000) (w : World) (h : ReadsA w a n A) :
    Calls Try.prog 31 #[.slice a n c] w fun e w' => (∃ a' c', e = .returned (.slice a' n c') ∧ ReadsA w' a' n A) ∧ Below w.heap.size w w' :=
  (ofAttrs_any a n c A hn w w h (Below.refl _ _)).mono fun _ w' ⟨⟨a', c', he, hr⟩, hb⟩ => ⟨⟨a', c', he, hr w' (Kept.refl _ _)⟩, hb⟩

theorem in64_getD {zs : List Int} (h : ∀ n ∈ zs, (Lit.int .i64 n).wf = true) (j : Nat) : In64 (zs.getD j 0) := by
  by_cases hj : j < zs.length
  · rw [List.getD, List.getElem?_eq_getElem hj]
    exact in64_of_wfS (h _ (List.getElem_mem hj))
  · rw [List.getD, List.getElem?_eq_none (by omega)]
    unfold In64; simp

theorem in64_zero : In64 0 := by unfold In64; omega
theorem attrCells : Try.prog.cellsOf 92 = 5 := by kernel_rfl
theorem valueCells : Try.prog.cellsOf 90 = 4 := by kernel_rfl
theorem stampCells : Try.prog.cellsOf 36 = 4 := by kernel_rfl
theorem rowCells : Try.prog.cellsOf 39 = 6 := by kernel_rfl

set_option maxRecDepth 100000 in
/-- The four cells of a value. -/
theorem value_cells {H : Type} {enc : TypeId × Value → H} {W : World} {n : Nat} {c0 c1 c2 c3 : Value} {x : DataW H × List MemPlace} (h : DataW.trod enc Try.prog W 0 (fun _ => true) true n 90 [c0, c1, c2, c3] = some x) :
    ∃ (k i : Int) (s : ByteArray) (a : Option Addr) (len cap : Nat) (z : Nat → Int), c0 = .int .i64 k ∧ c1 = .int .i64 i ∧ c2 = .string s ∧ c3 = .slice a len cap ∧ In64 k ∧ In64 i ∧ s.size ≤ maxLen ∧ (∀ j, In64 (z j)) ∧ Reads W a len z := by
  obtain ⟨ys, m, -, -, -, hyl, hf⟩ := DataW.trod_struct Try.underlying90 h
  have y4 : ys.length = 4 := hyl
  match ys, y4 with
  | [y0, y1, y2, y3], _ =>
    have h0 : DataW.trod enc Try.prog W 0 (fun _ => true) true m 3 [c0] = some y0 := hf 0 _ rfl
    have h1 : DataW.trod enc Try.prog W 0 (fun _ => true) true m 2 [c1] = some y1 := hf 1 _ rfl
    have h2 : DataW.trod enc Try.prog W 0 (fun _ => true) true m 9 [c2] = some y2 := hf 2 _ rfl
    have h3 : DataW.trod enc Try.prog W 0 (fun _ => true) true m 65 [c3] = some y3 := hf 3 _ rfl
    obtain ⟨k, e0, -, w0⟩ := DataW.trod_int Try.underlying3 h0
    obtain ⟨i, e1, -, w1⟩ := DataW.trod_int Try.underlying2 h1
    obtain ⟨s, e2, -, w2⟩ := DataW.trod_string Try.underlying9 h2
    cases e0; cases e1; cases e2
    rcases open_ints Try.underlying65 Try.underlying2 (by kernel_rfl) h3 with ⟨hcs, _⟩ | ⟨x, l, c, zs, hcs, _, hl, hm, hz, _, hcell, hwz⟩
    · cases hcs
      exact ⟨k, i, s, none, 0, 0, fun _ => 0, rfl, rfl, rfl, rfl, in64_of_wfS w0, in64_of_wfS w1, w2, fun _ => in64_zero, ⟨Nat.zero_le _, .inl rfl⟩⟩
    · cases hcs
      simp only [if_true] at hz
      refine ⟨k, i, s, some x, l, c, fun j => zs.getD j 0, rfl, rfl, rfl, rfl, in64_of_wfS w0, in64_of_wfS w1, w2, in64_getD hwz, ⟨Nat.le_trans hl hm, ?_⟩⟩
      by_cases hl0 : l = 0
      · exact .inl hl0
      · right
        obtain ⟨b, off, spot⟩ := x
        have hspot : spot = none := by simpa [Addr.add] using World.cell?_spot (hcell 0 (by omega))
        subst hspot
        exact ⟨b, off, rfl, fun j hj => by rw [← Addr.add_lit]; exact hcell j (by omega)⟩

set_option maxRecDepth 100000 in
/-- The five cells of an attribute. -/
theorem attr_cells {H : Type} {enc : TypeId × Value → H} {W : World} {n : Nat} {cs : List Value} {x : DataW H × List MemPlace} (h : DataW.trod enc Try.prog W 0 (fun _ => true) true n 92 cs = some x) :
    ∃ (v : AD) (y : Option Addr) (c : Nat), SizA v ∧ NumA v ∧ cs = fiveL v y c ∧ Reads W y v.len v.z := by
  obtain ⟨ys, m, -, -, hlen, hyl, hf⟩ := DataW.trod_struct Try.underlying92 h
  rw [attrCells] at hlen
  match cs, hlen with
  | [c0, c1, c2, c3, c4], _ =>
    have y2 : ys.length = 2 := hyl
    match ys, y2 with
    | [y0, y1], _ =>
      have h0 : DataW.trod enc Try.prog W 0 (fun _ => true) true m 9 [c0] = some y0 := hf 0 _ rfl
      have h1 : DataW.trod enc Try.prog W 0 (fun _ => true) true m 90 [c1, c2, c3, c4] = some y1 := hf 1 _ rfl
      obtain ⟨s, e0, -, w0⟩ := DataW.trod_string Try.underlying9 h0
      cases e0
      obtain ⟨k, i, t, a, len, cap, z, rfl, rfl, rfl, rfl, wk, wi, wt, wz, hr⟩ := value_cells h1
      exact ⟨⟨s, k, i, t, len, z⟩, a, cap, ⟨w0, wt, hr.1⟩, ⟨wk, wi, wz⟩, rfl, hr⟩

theorem attrs_of {H : Type} {enc : TypeId × Value → H} {W : World} {fuel : Nat} {c5 : Value} {x : DataW H × List MemPlace}
    (hf : DataW.trod enc Try.prog W 0 (fun _ => true) true fuel 37 [c5] = some x) : ∃ (a : Option Addr) (len cap : Nat) (A : Nat → AD), c5 = .slice a len cap ∧ (∀ j, SizA (A j)) ∧ (∀ j, NumA (A j)) ∧ ReadsA W a len A := by
  have d0 : SizA ⟨⟨#[]⟩, 0, 0, ⟨#[]⟩, 0, fun _ => 0⟩ := ⟨Nat.zero_le _, Nat.zero_le _, Nat.zero_le _⟩
  have d1 : NumA ⟨⟨#[]⟩, 0, 0, ⟨#[]⟩, 0, fun _ => 0⟩ := ⟨in64_zero, in64_zero, fun _ => in64_zero⟩
  rcases open_slice Try.underlying37 hf with ⟨hcs, _⟩ | ⟨x, l, c, m, n, D, Pl, hcs, _, hl, hm, hmm, _, hi⟩
  · simp at hcs
    subst hcs
    exact ⟨none, 0, 0, fun _ => ⟨⟨#[]⟩, 0, 0, ⟨#[]⟩, 0, fun _ => 0⟩, rfl, fun _ => d0, fun _ => d1, Nat.zero_le _, .inl rfl⟩
  · simp at hcs
    subst hcs
    simp only [if_true] at hmm
    subst hmm
    have hx : ∀ j, ∃ s : AD, SizA s ∧ NumA s ∧ (j < l → ∃ y cc, (W.cell? (x.add (j * 5)) = some (.string s.m) ∧ W.cell? (x.add (j * 5 + 1)) = some (.int .i64 s.k) ∧ W.cell? (x.add (j * 5 + 2)) = some (.int .i64 s.n) ∧ W.cell? (x.add (j * 5 + 3)) = some (.string s.s) ∧ W.cell? (x.add (j * 5 + 4)) = some (.slice y s.len cc)) ∧ Reads W y s.len s.z) := by
      intro j
      by_cases hj : j < l
      · obtain ⟨cs', hc, ht⟩ := hi j (by omega)
        rw [attrCells] at hc
        obtain ⟨s, y, cc, hs, hn, rfl, hr⟩ := attr_cells ht
        obtain ⟨-, -, hat⟩ := World.cells?_some hc
        have e : ∀ i, i < 5 → (x.add (j * 5)).add i = x.add (j * 5 + i) := fun i _ => Go.Deep.add_add _ _ _
        refine ⟨s, hs, hn, fun _ => ⟨y, cc, ⟨?_, ?_, ?_, ?_, ?_⟩, hr⟩⟩
        · have := hat 0 (by omega); rw [e 0 (by omega)] at this; exact this
        · have := hat 1 (by omega); rw [e 1 (by omega)] at this; exact this
        · have := hat 2 (by omega); rw [e 2 (by omega)] at this; exact this
        · have := hat 3 (by omega); rw [e 3 (by omega)] at this; exact this
        · have := hat 4 (by omega); rw [e 4 (by omega)] at this; exact this
      · exact ⟨_, d0, d1, fun h => absurd h hj⟩
    have hS : ∃ S : Nat → AD, ∀ j, SizA (S j) ∧ NumA (S j) ∧ (j < l → ∃ y cc, (W.cell? (x.add (j * 5)) = some (.string (S j).m) ∧ W.cell? (x.add (j * 5 + 1)) = some (.int .i64 (S j).k) ∧ W.cell? (x.add (j * 5 + 2)) = some (.int .i64 (S j).n) ∧ W.cell? (x.add (j * 5 + 3)) = some (.string (S j).s) ∧ W.cell? (x.add (j * 5 + 4)) = some (.slice y (S j).len cc)) ∧ Reads W y (S j).len (S j).z) := ⟨fun j => Classical.choose (hx j), fun j => Classical.choose_spec (hx j)⟩
    obtain ⟨S, hS⟩ := hS
    refine ⟨some x, l, _, S, rfl, fun j => (hS j).1, fun j => (hS j).2.1, Nat.le_trans hl hm, ?_⟩
    by_cases hz : l = 0
    · exact Or.inl hz
    · right
      obtain ⟨b, off, spot⟩ := x
      have hspot : spot = none := by
        obtain ⟨y, cc, h0, _⟩ := (hS 0).2.2 (by omega)
        simpa [Addr.add] using World.cell?_spot h0.1
      subst hspot
      refine ⟨b, off, rfl, fun j hj => ?_⟩
      obtain ⟨y, cc, h5, hr⟩ := (hS j).2.2 hj
      rw [Addr.add_lit, Addr.add_lit, Addr.add_lit, Addr.add_lit, Addr.add_lit] at h5
      exact ⟨y, cc, h5, hr⟩

set_option maxRecDepth 100000 in
/-- The six cells of a row. -/
theorem row_cells {H : Type} {enc : TypeId × Value → H} {W : World} {n : Nat} {cs : List Value} {x : DataW H × List MemPlace} (hf : DataW.trod enc Try.prog W 0 (fun _ => true) true n 39 cs = some x) :
    ∃ (x : RD) (a : Option Addr) (c : Nat), cs = [.string x.key, .int .i64 x.t, .int .i64 x.i, .int .i64 x.q, .string x.o, .slice a x.len c] ∧ GoR x ∧ ReadsA W a x.len x.A := by
  obtain ⟨ys, m, -, -, hlen, hyl, hg⟩ := DataW.trod_struct Try.underlying39 hf
  rw [rowCells] at hlen
  match cs, hlen with
  | [c0, c1, c2, c3, c4, c5], _ =>
    have y3 : ys.length = 3 := hyl
    match ys, y3 with
    | [y0, y1, y2], _ =>
      have h0 : DataW.trod enc Try.prog W 0 (fun _ => true) true m 9 [c0] = some y0 := hg 0 _ rfl
      have h1 : DataW.trod enc Try.prog W 0 (fun _ => true) true m 36 [c1, c2, c3, c4] = some y1 := hg 1 _ rfl
      have h2 : DataW.trod enc Try.prog W 0 (fun _ => true) true m 37 [c5] = some y2 := hg 2 _ rfl
      obtain ⟨k, e0, -, w0⟩ := DataW.trod_string Try.underlying9 h0
      cases e0
      obtain ⟨zs, m', -, -, -, hzl, hz⟩ := DataW.trod_struct Try.underlying36 h1
      have z4 : zs.length = 4 := hzl
      match zs, z4 with
      | [z0, z1, z2, z3], _ =>
        have g0 : DataW.trod enc Try.prog W 0 (fun _ => true) true m' 2 [c1] = some z0 := hz 0 _ rfl
        have g1 : DataW.trod enc Try.prog W 0 (fun _ => true) true m' 2 [c2] = some z1 := hz 1 _ rfl
        have g2 : DataW.trod enc Try.prog W 0 (fun _ => true) true m' 2 [c3] = some z2 := hz 2 _ rfl
        have g3 : DataW.trod enc Try.prog W 0 (fun _ => true) true m' 9 [c4] = some z3 := hz 3 _ rfl
        obtain ⟨t, e1, -, w1⟩ := DataW.trod_int Try.underlying2 g0
        obtain ⟨i, e2, -, w2⟩ := DataW.trod_int Try.underlying2 g1
        obtain ⟨q, e3, -, w3⟩ := DataW.trod_int Try.underlying2 g2
        obtain ⟨o, e4, -, w4⟩ := DataW.trod_string Try.underlying9 g3
        cases e1; cases e2; cases e3; cases e4
        obtain ⟨a, len, cap, A, rfl, hS, hN, hr⟩ := attrs_of h2
        exact ⟨⟨k, t, i, q, o, len, A⟩, a, cap, rfl, ⟨w0, w4, in64_of_wfS w1, in64_of_wfS w2, in64_of_wfS w3, fun j _ => hS j, fun j _ => hN j⟩, hr⟩


theorem gr0 : GoR zeroR := ⟨Nat.zero_le _, Nat.zero_le _, in64_zero, in64_zero, in64_zero, fun j hj => by have : (0 : Nat) = zeroR.len := rfl; omega, fun j hj => by have : (0 : Nat) = zeroR.len := rfl; omega⟩

set_option maxRecDepth 100000 in
/-- A row that came in, opened. -/
theorem row_of {H : Type} {enc : TypeId × Value → H} {W : World} {base : Nat} {v : Value} {d : DataW H} {p : List MemPlace} (hv : Value.okWide Try.prog W .any base 39 v) (h : DataW.Trod enc Try.prog W 0 (fun _ => true) true 39 v d p) :
    ∃ (x : RD) (a : Option Addr) (c : Nat), v = .agg #[.string x.key, .int .i64 x.t, .int .i64 x.i, .int .i64 x.q, .string x.o, .slice a x.len c] ∧ GoR x ∧ ReadsA W a x.len x.A := by
  obtain ⟨cs, rfl, hsz⟩ := okWide_struct Try.underlying39 hv
  obtain ⟨fuel, hf⟩ := h
  obtain ⟨x, a, c, hc, hg, hr⟩ := row_cells hf
  obtain ⟨l⟩ := cs
  have hl : l = [.string x.key, .int .i64 x.t, .int .i64 x.i, .int .i64 x.q, .string x.o, .slice a x.len c] := hc
  subst hl
  exact ⟨x, a, c, rfl, hg, hr⟩


/-- The rows from the k-th on. -/
def fromR (R : Nat → RD) (n k : Nat) : List RD := (List.range (n - k)).map fun j => R (k + j)

theorem fromR_cons (R : Nat → RD) {n k : Nat} (h : k < n) : fromR R n k = R k :: fromR R n (k + 1) := by
  unfold fromR
  rw [show n - k = (n - (k + 1)) + 1 by omega, List.range_succ_eq_map, List.map_cons, List.map_map]
  simp only [Nat.add_zero, List.cons.injEq, true_and]
  apply List.map_congr_left
  intro j _
  simp only [Function.comp_def, Nat.succ_eq_add_one]
  congr 1; omega

theorem fromR_nil (R : Nat → RD) {n k : Nat} (h : n ≤ k) : fromR R n k = [] := by unfold fromR; rw [Nat.sub_eq_zero_of_le h]; rfl

theorem ReadsRG.cells {G : Nat → Prop} {w : World} {a : Option Addr} {n : Nat} {R : Nat → RD} (h : ReadsRG G w a n R) {k : Nat} (hk : k < n) : ∃ b off y c, a = some ⟨b, off, none⟩ ∧ G b ∧ Cells6 w b (off + k * 6) (R k) y c ∧ ReadsAG G w y (R k).len (R k).A := by
  obtain ⟨b, off, rfl, hg, hc⟩ := h.2.resolve_left (by omega)
  obtain ⟨y, c, h6, hy⟩ := hc k hk
  exact ⟨b, off, y, c, rfl, hg, h6, hy⟩

/-- Are rows few, and short? -/
def fewRs (n : Nat) (R : Nat → RD) : Bool := decide (n ≤ 70) && (fromR R n 0).all fewR

theorem fewRs_all {n : Nat} {R : Nat → RD} (g : ∀ j, j < n → GoR (R j)) (h : fewRs n R = true) : n ≤ 70 ∧ ∀ j, j < n → FewR (R j) := by
  unfold fewRs at h
  simp only [Bool.and_eq_true, decide_eq_true_eq, List.all_eq_true] at h
  refine ⟨h.1, fun j hj => ?_⟩
  have := h.2 (R j) (by unfold fromR; exact List.mem_map.2 ⟨j, List.mem_range.2 (by omega), by rw [Nat.zero_add]⟩)
  obtain ⟨h1, h2, h3, h4⟩ := fewR_all this
  have gx := g j hj
  exact ⟨h1, h2, gx.t, gx.i, gx.q, gx.n, h4, h3⟩

set_option maxHeartbeats 4000000 in
set_option maxRecDepth 100000 in
theorem fewRows_any (a : Option Addr) (n c : Nat) (R : Nat → RD) (g : ∀ j, j < n → GoR (R j)) (w : World) (h : ReadsR w a n R) :
    Calls Try.prog 8 #[.slice a n c] w fun e w' => e = .returned (.bool (fewRs n R)) ∧ Below w.heap.size w w' := by
  have hm := h.1
  unfold maxLen at hm
  have H := Lib.hid h
  have GG := Lib.hid g
  clear h g
  by_cases h70 : 70 < n
  · have E := Lib.hid (p := fewRs n R = false) (by unfold fewRs; rw [decide_eq_false (by omega)]; rfl)
    go_enter Try.func8, Try.ntmps8
    go_wp2_with fail
    go_ret
    exact ⟨ret_b E.out.symm, Below.refl _ _⟩
  have E := Lib.hid (p := fewRs n R = (fromR R n 0).all fewR) (by unfold fewRs; rw [decide_eq_true (by omega)]; rfl)
  go_enter Try.func8, Try.ntmps8
  go_wp2_with fail
  go_loopw [3] (fun i wr => ∃ k : Nat, i = .int .i64 k ∧ k ≤ n ∧ Hid ((fromR R n 0).all fewR = (fromR R n k).all fewR) ∧ Hid (Below w.heap.size w wr)) (fun i _ => n - (intOf i).toNat)
  case atStart => exact ⟨0, rfl, Nat.zero_le _, Lib.hid rfl, Lib.hid (Below.refl _ _)⟩
  case round =>
    obtain ⟨k, rfl, hk, hE, hB⟩ := hrel
    by_cases hlt : k < n
    · obtain ⟨b, off, y, ce, hab, -, h6, hy⟩ := (H.out.below hB.out).cells hlt
      subst hab
      have hE2 := hE.out
      rw [fromR_cons R hlt, List.all_cons] at hE2
      have gk := GG.out k hlt
      have C := Lib.hid (few_any (R k) y ce gk.k gk.o gk.s wr hy.plain)
      obtain ⟨x, hx⟩ : ∃ x, R k = x := ⟨_, rfl⟩
      rw [hx] at h6 hE2 C
      obtain ⟨q, hq⟩ : ∃ q, fewR x = q := ⟨_, rfl⟩
      rw [hq] at C hE2
      have HE := Lib.hid hE2
      obtain ⟨p0, p1, p2, p3, p4, p5⟩ := h6
      have hz := hB.out.size
      clear hE2 hx hq gk hy hE
      cases q with
      | true =>
        go_wp2_with fail
        refine C.out.mono ?_
        rintro e w2 ⟨rfl, hb⟩
        have B2 := Lib.hid (hB.out.trans (hb.mono hz))
        clear hb C p0 p1 p2 p3 p4 p5
        go_wp2_with fail
        go_roundw
        case rel => exact ⟨k + 1, by go_num, by omega, Lib.hid (by rw [HE.out]; rfl), B2⟩
        case measure => simp [intOf]; omega
      | false =>
        go_wp2_with fail
        refine C.out.mono ?_
        rintro e w2 ⟨rfl, hb⟩
        have B2 := Lib.hid (hB.out.trans (hb.mono hz))
        clear hb C p0 p1 p2 p3 p4 p5
        go_wp2_with fail
        go_ret
        exact ⟨ret_b (by rw [E.out, HE.out]; rfl), B2.out⟩
    · obtain rfl : k = n := by omega
      go_wp2_with fail
      go_ret
      exact ⟨ret_b (by rw [E.out, hE.out, fromR_nil R (Nat.le_refl _)]; rfl), hB.out⟩

set_option maxRecDepth 100000 in
/-- Rows that came in, opened. -/
theorem rows_of {H : Type} {enc : TypeId × Value → H} {W : World} {base : Nat} {v : Value} {d : DataW H} {p : List MemPlace} (hv : Value.okWide Try.prog W .any base 22 v) (h : DataW.Trod enc Try.prog W 0 (fun _ => true) true 22 v d p) :
    ∃ (a : Option Addr) (n c : Nat) (R : Nat → RD), v = .slice a n c ∧ (∀ j, j < n → GoR (R j)) ∧ ReadsR W a n R := by
  obtain ⟨a0, len0, cap0, rfl⟩ := okWide_slice Try.underlying22 hv
  obtain ⟨fuel, hf⟩ := h
  rcases open_slice Try.underlying22 hf with ⟨hcs, _⟩ | ⟨x, l, c, m, n, D, Pl, hcs, _, hl, hm, hmm, _, hi⟩
  · simp [Value.cells] at hcs
    obtain ⟨rfl, rfl, rfl⟩ := hcs
    exact ⟨none, 0, 0, fun _ => zeroR, rfl, fun j hj => by omega, Nat.zero_le _, .inl rfl⟩
  · simp [Value.cells] at hcs
    obtain ⟨rfl, rfl, rfl⟩ := hcs
    simp only [if_true] at hmm
    subst hmm
    have hx : ∀ j, ∃ s : RD, GoR s ∧ (j < len0 → ∃ y cc, (∀ i u, ([.string s.key, .int .i64 s.t, .int .i64 s.i, .int .i64 s.q, .string s.o, .slice y s.len cc] : List Value)[i]? = some u → W.cell? (x.add (j * 6 + i)) = some u) ∧ ReadsA W y s.len s.A) := by
      intro j
      by_cases hj : j < len0
      · obtain ⟨cs', hc, ht⟩ := hi j (by omega)
        rw [rowCells] at hc
        obtain ⟨s, y, cc, rfl, hs, hr⟩ := row_cells ht
        obtain ⟨-, -, hat⟩ := World.cells?_some hc
        have e : ∀ i, (x.add (j * 6)).add i = x.add (j * 6 + i) := fun i => Go.Deep.add_add _ _ _
        refine ⟨s, hs, fun _ => ⟨y, cc, fun i u hu => ?_, hr⟩⟩
        have hi6 : i < 6 := (List.getElem?_eq_some_iff.1 hu).1
        have := hat i (by omega)
        rw [e i] at this
        rw [this]
        exact hu
      · exact ⟨zeroR, gr0, fun h => absurd h hj⟩
    have hS : ∃ S : Nat → RD, ∀ j, GoR (S j) ∧ (j < len0 → ∃ y cc, (∀ i u, ([.string (S j).key, .int .i64 (S j).t, .int .i64 (S j).i, .int .i64 (S j).q, .string (S j).o, .slice y (S j).len cc] : List Value)[i]? = some u → W.cell? (x.add (j * 6 + i)) = some u) ∧ ReadsA W y (S j).len (S j).A) := ⟨fun j => Classical.choose (hx j), fun j => Classical.choose_spec (hx j)⟩
    obtain ⟨S, hS⟩ := hS
    refine ⟨some x, len0, _, S, rfl, fun j _ => (hS j).1, Nat.le_trans hl hm, ?_⟩
    by_cases hz : len0 = 0
    · exact Or.inl hz
    · right
      obtain ⟨b, off, spot⟩ := x
      obtain ⟨y0, cc0, h0, _⟩ := (hS 0).2 (by omega)
      have h00 := h0 0 _ rfl
      have hspot : spot = none := by simpa [Addr.add] using World.cell?_spot h00
      subst hspot
      refine ⟨b, off, rfl, by have := World.block_lt_of_cell? W _ h00; simpa [Addr.add] using this, fun j hj => ?_⟩
      obtain ⟨y, cc, h6, hr⟩ := (hS j).2 hj
      refine ⟨y, cc, ⟨?_, ?_, ?_, ?_, ?_, ?_⟩, ReadsAG.of hr⟩
      · have := h6 0 _ rfl; rwa [Addr.add_lit] at this
      · have := h6 1 _ rfl; rwa [Addr.add_lit] at this
      · have := h6 2 _ rfl; rwa [Addr.add_lit] at this
      · have := h6 3 _ rfl; rwa [Addr.add_lit] at this
      · have := h6 4 _ rfl; rwa [Addr.add_lit] at this
      · have := h6 5 _ rfl; rwa [Addr.add_lit] at this


end Go.Proofs.Ytikifgenfpkidaa
