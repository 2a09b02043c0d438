/-
  No statement: the document's table; what two make of each other.
-/
import Derived.Test.YtpdobbdbmgeoiaaGreatDgRows
import Derived.Test.YtpdobbdbmgeoiaaGreatDgSame
import Derived.Test.YtpdobbdbmgeoiaaGreatKeys
import Derived.Test.YtpdobbdbmgeoiaaGreatDgQ
import Derived.Deep.RegionHeld3
import Derived.Deep.DeepCutAuto
import Derived.Deep.RegionLaw
import Derived.Deep.Cut
import Derived.Test.YtpdobbdbmgeoiaaGreatDgM2
set_option linter.unusedVariables false
set_option linter.unusedSimpArgs false

namespace Go.Proofs.YtpdobbdbmgeoiaaGreat
open Go.RowKit

theorem twoE {w : World} {b : Nat} {v0 v1 : Value} {t : TypeId} (h : w.heap[b]? = some (.cells #[v0, v1] t (0, 0))) :
    (w.cell? ⟨b, 0, none⟩ = some v0 ∧ w.cell? ⟨b, 1, none⟩ = some v1) ∧ (w.frozen? ⟨b, 0, none⟩ = false ∧ w.frozen? ⟨b, 1, none⟩ = false) := by
  refine ⟨⟨?_, ?_⟩, ⟨?_, ?_⟩⟩ <;> simp [World.cell?, World.frozen?, h]

/-- A key's place, and whether it is there. -/
def posQ (L : List RD) (k : ByteArray) : Nat := pos lsS (L.map RD.key) k
def isQ (L : List RD) (k : ByteArray) : Bool := decide (posQ L k < L.length) && ((atD L (posQ L k)).key.toList == k.toList)

theorem posQ_le (L : List RD) (k : ByteArray) : posQ L k ≤ L.length := by
  have := pos_le (less := lsS) (L.map RD.key) k
  rwa [List.length_map] at this

theorem posQ_of {L : List RD} {k : ByteArray} {i : Nat} (hi : i ≤ L.length) (h1 : ∀ j, j < i → lsS (atD L j).key k = true) (h2 : i < L.length → lsS (atD L i).key k = false) : posQ L k = i := by
  refine pos_unique (by rw [List.length_map]; exact hi) (fun t x ht hx => ?_) (fun x hx => ?_)
  · rw [List.getElem?_map] at hx
    rw [List.getElem?_eq_getElem (by omega)] at hx
    have := h1 t ht
    rw [atD_lt (by omega)] at this
    cases hx
    exact this
  · rw [List.getElem?_map] at hx
    by_cases hl : i < L.length
    · rw [List.getElem?_eq_getElem hl] at hx
      have := h2 hl
      rw [atD_lt hl] at this
      cases hx
      exact this
    · rw [List.getElem?_eq_none (by omega)] at hx; cases hx

/-- A table as a value. -/
abbrev tabV (most : Int) (a : Option Addr) (n c : Nat) : Value := .agg #[.int .i64 most, .slice a n c]

set_option maxRecDepth 100000 in
set_option maxHeartbeats 8000000 in
theorem rAt_any (most : Int) (L : List RD) (a : Option Addr) (c : Nat) (k : ByteArray) (hn : L.length ≤ 1000) (w : World) (h : ReadsRG (fun q => q < w.heap.size) w a L.length (atD L)) :
    Calls Tryz.prog 40 #[tabV most a L.length c, .string k] w fun e w' => e = .returned (.tuple #[.int .i64 (posQ L k), .bool (isQ L k)]) ∧ Below w.heap.size w w' := by
  have HA := Lib.hid h
  have PQ := Lib.hid (p := ∀ i, i ≤ L.length → (∀ j, j < i → lsS (atD L j).key k = true) → (i < L.length → lsS (atD L i).key k = false) → posQ L k = i) (fun i h1 h2 h3 => posQ_of h1 h2 h3)
  have IQ := Lib.hid (show isQ L k = (decide (posQ L k < L.length) && ((atD L (posQ L k)).key.toList == k.toList)) from rfl)
  obtain ⟨P, hP⟩ : ∃ P, posQ L k = P := ⟨_, rfl⟩
  obtain ⟨I, hI⟩ : ∃ I, isQ L k = I := ⟨_, rfl⟩
  obtain ⟨n, hnn⟩ : ∃ n, L.length = n := ⟨_, rfl⟩
  rw [hP, hI, hnn] at IQ
  rw [hP, hnn] at PQ
  rw [hP, hI]
  rw [hnn] at HA hn ⊢
  clear h hP hI hnn
  go_enter Tryz.func40, Tryz.ntmps40
  go_upto_region 1 with fail
  generalize hW : World.alloc w _ = W
  have hb : Below w.heap.size w W := by rw [← hW]; exact (Below.refl _ _).alloc (Nat.le_refl _) _
  have h0 : W.heap[w.heap.size]? = some (.cells #[.int .i64 most, .slice a n c] 30 (0, 0)) := by rw [← hW]; exact heap_alloc_new w _
  clear hW
  obtain ⟨⟨t0, t1⟩, -⟩ := twoE h0
  have BW := Lib.hid hb
  have RW := Lib.hid ((HA.out.kept (keptBelow hb) (fun q hq h => by omega)).mono (H := fun q => q < W.heap.size) (fun q h _ => by have := hb.size; omega))
  clear hb h0
  go_wp2_with fail
  go_loop [6] (fun iv => ∃ i : Nat, iv = .int .i64 i ∧ i ≤ n ∧ Hid (∀ j, j < i → lsS (atD L j).key k = true)) (fun iv => n - (intOf iv).toNat)
  case atStart => exact ⟨0, rfl, Nat.zero_le _, Lib.hid (fun j h => by omega)⟩
  case round =>
    obtain ⟨i, rfl, hi, HJ⟩ := hrel
    have DR := Lib.hid (p := ∀ n, Below w.heap.size w (W.drewN n)) (fun n => BW.out.trans ((drewND W n).mono BW.out.size))
    by_cases hlt : i < n
    · have e1 : (i : Int) < (n : Int) := by omega
      obtain ⟨b, off, y, cy, rfl, -, ⟨x0, x1, x2, x3, x4, x5⟩, -⟩ := RW.out.cellsD hlt
      obtain ⟨s, hs⟩ : ∃ s, (atD L i).key = s := ⟨_, rfl⟩
      have HS := Lib.hid hs
      rw [hs] at x0
      clear x1 x2 x3 x4 x5 hs
      cases hl : lsS s k with
      | true =>
        have l1 : Op.bytesLess s.toList k.toList = true := hl
        have HJ2 := Lib.hid (p := ∀ j, j < i + 1 → lsS (atD L j).key k = true) (fun j hj => by
          by_cases e : j = i
          · rw [e, HS.out]; exact hl
          · exact HJ.out j (by omega))
        clear hl
        go_wp2_with fail
        go_roundw
        case rel => exact ⟨i + 1, by go_num, by omega, HJ2⟩
        case measure => simp [intOf]; omega
      | false =>
        have l1 : Op.bytesLess s.toList k.toList = false := hl
        have hp := PQ.out i (by omega) HJ.out (fun _ => by rw [HS.out]; exact hl)
        subst hp
        cases hq : (s.toList == k.toList) with
        | true =>
          have hI : I = true := by rw [IQ.out, HS.out, hq, decide_eq_true hlt]; rfl
          subst hI
          clear hl
          go_wp2_with fail
          go_quiet (fail)
          go_wp2_with fail
          exact bodyPost_ret (v := .tuple #[.int .i64 (P : Nat), .bool true]) (by simp [results, Tryz.results40, go_sem]) rfl ⟨rfl, DR.out _⟩
        | false =>
          have hI : I = false := by rw [IQ.out, HS.out, hq]; simp
          subst hI
          clear hl
          go_wp2_with fail
          go_quiet (fail)
          go_wp2_with fail
          exact bodyPost_ret (v := .tuple #[.int .i64 (P : Nat), .bool false]) (by simp [results, Tryz.results40, go_sem]) rfl ⟨rfl, DR.out _⟩
    · have e1 : ¬ (i : Int) < (n : Int) := by omega
      have hp := PQ.out i hi HJ.out (fun h => absurd h hlt)
      subst hp
      have hI : I = false := by rw [IQ.out, decide_eq_false hlt]; rfl
      subst hI
      go_wp2_with fail
      go_quiet (fail)
      go_wp2_with fail
      exact bodyPost_ret (v := .tuple #[.int .i64 (P : Nat), .bool false]) (by simp [results, Tryz.results40, go_sem]) rfl ⟨rfl, DR.out _⟩

end Go.Proofs.YtpdobbdbmgeoiaaGreat

namespace Go.Proofs.YtpdobbdbmgeoiaaGreat
open Go.RowKit

def getQ (L : List RD) (k : ByteArray) : RD := if isQ L k = true then atD L (posQ L k) else zRD

/-- Six cells of the call's own, of a row. -/
abbrev rowA (x : RD) (y : Option Addr) (c : Nat) : Value := .agg #[.string x.key, .int .i64 x.t, .int .i64 x.i, .int .i64 x.q, .string x.o, .slice y x.len c]

set_option maxRecDepth 100000 in
set_option maxHeartbeats 8000000 in
theorem rGet_any (most : Int) (L : List RD) (a : Option Addr) (c : Nat) (k : ByteArray) (hn : L.length ≤ 1000) (w : World) (h : ReadsRG (fun q => q < w.heap.size) w a L.length (atD L)) :
    Calls Tryz.prog 11 #[tabV most a L.length c, .string k] w fun e w' => (∃ y cy, e = .returned (.tuple #[rowA (getQ L k) y cy, .bool (isQ L k)]) ∧ ReadsAG (fun q => q < w.heap.size) w' y (getQ L k).len (getQ L k).A) ∧ Below w.heap.size w w' := by
  have HA := Lib.hid h
  have AT := Lib.hid (p := ∀ W, Below w.heap.size w W → Calls Tryz.prog 40 #[tabV most a L.length c, .string k] W fun e w' => e = .returned (.tuple #[.int .i64 (posQ L k), .bool (isQ L k)]) ∧ Below W.heap.size W w') (fun W hb => rAt_any most L a c k hn W ((h.kept (keptBelow hb) (fun q hq h => by omega)).mono (fun q h _ => by have := hb.size; omega)))
  have GQ := Lib.hid (show getQ L k = if isQ L k = true then atD L (posQ L k) else zRD from rfl)
  have PI := Lib.hid (p := isQ L k = true → posQ L k < L.length) (fun h => by unfold isQ at h; simp only [Bool.and_eq_true, decide_eq_true_eq] at h; exact h.1)
  obtain ⟨P, hP⟩ : ∃ P, posQ L k = P := ⟨_, rfl⟩
  obtain ⟨I, hI⟩ : ∃ I, isQ L k = I := ⟨_, rfl⟩
  obtain ⟨X, hX⟩ : ∃ X, getQ L k = X := ⟨_, rfl⟩
  obtain ⟨n, hnn⟩ : ∃ n, L.length = n := ⟨_, rfl⟩
  rw [hP, hI, hX] at GQ
  rw [hP, hI, hnn] at PI
  rw [hI, hX]
  simp only [hP, hI, hnn] at AT
  rw [hnn] at HA hn ⊢
  clear h hP hI hX hnn
  go_enter Tryz.func11, Tryz.ntmps11
  go_upto_region 1 with fail
  generalize hW : World.alloc (World.alloc w _) _ = W
  obtain ⟨hb, b1, b2, hsz⟩ := two_boxes w (.cells #[.int .i64 most, .slice a n c] 30) (.cells #[.string ⟨#[]⟩, .int .i64 0, .int .i64 0, .int .i64 0, .string ⟨#[]⟩, .slice none 0 0] 44)
  rw [hW] at hb b1 b2 hsz
  clear hW
  have HW := Lib.hid (And.intro hb (And.intro b1 b2))
  obtain ⟨⟨t0, t1⟩, -⟩ := twoE b1
  clear hb b1 b2
  go_wp2_with fail
  refine (AT.out W HW.out.1).mono ?_
  rintro e w2 ⟨rfl, hb⟩
  have H2 := Lib.hid (And.intro (HW.out.1.trans (hb.mono HW.out.1.size)) (And.intro ((hb.block _ (lt_of_block HW.out.2.1)).trans HW.out.2.1) ((hb.block _ (lt_of_block HW.out.2.2)).trans HW.out.2.2)))
  clear hb t0 t1 HW AT
  obtain ⟨⟨t0, t1⟩, -⟩ := twoE H2.out.2.1
  obtain ⟨⟨d0, d1, d2, d3, d4, d5⟩, f0, f1, f2, f3, f4, f5⟩ := sixG H2.out.2.2
  cases I with
  | false =>
    obtain rfl : X = zRD := by have := GQ.out; rwa [if_neg (by decide)] at this
    have E := Lib.hid (six_setD H2.out.2.2 (.string ⟨#[]⟩) (.int .i64 0) (.int .i64 0) (.int .i64 0) (.string ⟨#[]⟩) (.slice none 0 0))
    have B := Lib.hid (six_belowD H2.out.1 (show w.heap.size ≤ w.heap.size + 1 by omega) (.string ⟨#[]⟩) (.int .i64 0) (.int .i64 0) (.int .i64 0) (.string ⟨#[]⟩) (.slice none 0 0))
    go_wp2_with fail
    obtain ⟨g0, g1, g2, g3, g4, g5⟩ := sixE E.out
    exact bodyPost_ret (v := .tuple #[rowA zRD none 0, .bool false]) (by simp [results, Tryz.results11, go_sem, g0, g1, g2, g3, g4, g5, zRD]) rfl ⟨⟨none, 0, rfl, Nat.zero_le _, .inl rfl⟩, B.out⟩
  | true =>
    have hlt := PI.out rfl
    have hXX : X = atD L P := by have := GQ.out; rwa [if_pos rfl] at this
    have e1 : (P : Int) < (n : Int) := by omega
    obtain ⟨b, off, y, cy, rfl, hbw, h6, hry⟩ := HA.out.cellsD hlt
    rw [← hXX] at h6 hry
    obtain ⟨x0, x1, x2, x3, x4, x5⟩ := (h6.keptS (keptBelow H2.out.1) (by omega) : Cells6 w2 b (off + P * 6) X y cy)
    have E := Lib.hid (six_setD H2.out.2.2 (.string X.key) (.int .i64 X.t) (.int .i64 X.i) (.int .i64 X.q) (.string X.o) (.slice y X.len cy))
    have B := Lib.hid (six_belowD H2.out.1 (show w.heap.size ≤ w.heap.size + 1 by omega) (.string X.key) (.int .i64 X.t) (.int .i64 X.i) (.int .i64 X.q) (.string X.o) (.slice y X.len cy))
    have RY := Lib.hid (hry.kept (keptBelow B.out) (fun q hq h => by omega))
    clear h6 hry hXX GQ
    go_wp2_with fail
    obtain ⟨g0, g1, g2, g3, g4, g5⟩ := sixE E.out
    exact bodyPost_ret (v := .tuple #[rowA X y cy, .bool true]) (by simp [results, Tryz.results11, go_sem, g0, g1, g2, g3, g4, g5]) rfl ⟨⟨y, cy, rfl, RY.out⟩, B.out⟩

end Go.Proofs.YtpdobbdbmgeoiaaGreat

namespace Go.Proofs.YtpdobbdbmgeoiaaGreat
open Go.RowKit

/-- What Drop leaves. -/
def dropQ (L : List RD) (k : ByteArray) : List RD := L.filter fun x => !(x.key.toList == k.toList)

theorem OwnQ.setBox {G : Nat → Prop} {w : World} {B : Nat} {v : Value} {T : List RTd} (h : OwnQ G w B v T) {U o : Nat} (hU : U < B) (hG : ∀ q, G q → q ≠ U) (u : Value) : OwnQ G (w.setCell ⟨U, o, none⟩ u) B v T := by
  have hgr : w.grownBy (w.setCell ⟨U, o, none⟩ u) (some U) := ⟨rfl, rfl, rfl, by simp, fun q _ hne => Below.heap_setCell _ _ _ _ (fun e => hne (by rw [e]))⟩
  have hne : v.ownBlock ≠ some U := fun e => by have := (h.1.lt U e).1; omega
  exact ⟨h.1.kept hgr (.inr hne), fun t ht => (h.2 t ht).kept (S := fun q => q = U) ((Kept.refl _ w).grown hgr (fun q hq => .inl (by cases hq; rfl))) (fun q hq => hG q hq)⟩
theorem OwnQ.low {G : Nat → Prop} {w : World} {B C : Nat} {v : Value} {T : List RTd} (h : OwnQ G w B v T) (hc : C ≤ B) : OwnQ G w C v T := ⟨owns_mono h.1 hc, h.2⟩
theorem two_setD {w : World} {b : Nat} {a0 a1 : Value} {t : TypeId} (h : w.heap[b]? = some (.cells #[a0, a1] t (0, 0))) (v0 v1 : Value) : ((w.setCell ⟨b, 0, none⟩ v0).setCell ⟨b, 1, none⟩ v1).heap[b]? = some (.cells #[v0, v1] t (0, 0)) := by
  rw [heap_setCell_same _ b 1 _ t v1 (heap_setCell_same _ b 0 _ t v0 h)]
  rfl

/-- Rows in memory, with where their attributes lie. -/
def RowsQ (G : Nat → Prop) (w : World) (a : Option Addr) (T : List RTd) : Prop :=
  ((a = none ∧ T = []) ∨ ∃ b off, a = some ⟨b, off, none⟩ ∧ ∀ j u, (T.flatMap sixD)[j]? = some u → w.cell? ⟨b, off + j, none⟩ = some u) ∧ ∀ t ∈ T, ReadsAG G w t.2.1 t.1.len t.1.A
theorem OwnQ.rows {G : Nat → Prop} {w : World} {B : Nat} {a : Option Addr} {l c : Nat} {T : List RTd} (h : OwnQ G w B (.slice a l c) T) : RowsQ G w a T ∧ (a = none → c = 0) ∧ T.length ≤ c := by
  obtain ⟨h1, h2⟩ := h
  rcases h1.2 with ⟨hv, h0⟩ | ⟨g, cap, cur, hv, hb, hg, hnc, hm, hs, ht⟩
  · simp only [Value.slice.injEq] at hv
    obtain ⟨rfl, rfl, rfl⟩ := hv
    exact ⟨⟨.inl ⟨rfl, List.length_eq_zero_iff.1 h0⟩, h2⟩, fun _ => rfl, by omega⟩
  · simp only [Value.slice.injEq] at hv
    obtain ⟨rfl, rfl, rfl⟩ := hv
    refine ⟨⟨.inr ⟨g, 0, rfl, fun j u hj => ?_⟩, h2⟩, (fun e => by cases e), hnc⟩
    obtain ⟨g', e1, e2⟩ := owns_at (w := w) (base := B) (e := 44) (size := 6) (a := ⟨g, 0, none⟩) (n := T.length) (c := c) (xs := T.flatMap sixD) ⟨h1.1, .inr ⟨g, c, cur, rfl, hb, hg, hnc, hm, hs, ht⟩⟩ (j := j) (u := u) hj
    cases e1
    rw [Nat.zero_add]
    exact e2
theorem RowsQ.kept {G S : Nat → Prop} {w w' : World} {a : Option Addr} {T : List RTd} (h : RowsQ G w a T) (hk : Kept S w w') (hS : ∀ q, G q → ¬ S q) (ha : ∀ b off, a = some ⟨b, off, none⟩ → ¬ S b) : RowsQ G w' a T := by
  refine ⟨h.1.imp id ?_, fun t ht => (h.2 t ht).kept hk hS⟩
  rintro ⟨b, off, rfl, hc⟩
  exact ⟨b, off, rfl, fun j u hj => hk.cell (hc j u hj) (ha b off rfl)⟩

theorem alloc_drew (w : World) (o : Obj) : (w.alloc o).drew = w.drew.alloc o := rfl

/-- What Drop keeps: the table's box, the answer's, the new table's. -/
def DrK (w W : World) (most : Int) (a : Option Addr) (n c : Nat) (U : Nat) (va : Option Addr) (vl vc : Nat) (wr : World) : Prop :=
  Below w.heap.size w wr ∧ wr.heap[w.heap.size]? = some (.cells #[.int .i64 most, .slice a n c] 30 (0, 0)) ∧ wr.heap[w.heap.size + 1]? = some (.cells #[.int .i64 0, .slice none 0 0] 30 (0, 0)) ∧ wr.heap[U]? = some (.cells #[.int .i64 most, .slice va vl vc] 30 (0, 0))

set_option maxRecDepth 100000 in
set_option maxHeartbeats 8000000 in
theorem rDrop_any (most : Int) (L : List RD) (a : Option Addr) (c : Nat) (k : ByteArray) (hn : L.length ≤ 1000) (w : World) (G : Nat → Prop) (hG : ∀ q, G q → q < w.heap.size) (h : ReadsRG G w a L.length (atD L)) :
    Calls Tryz.prog 13 #[tabV most a L.length c, .string k] w fun e w' => (∃ (va : Option Addr) (vc : Nat) (T : List RTd), e = .returned (tabV most va T.length vc) ∧ OwnQ G w' w.heap.size (.slice va T.length vc) T ∧ T.map (·.1) = dropQ L k) ∧ Below w.heap.size w w' := by
  obtain ⟨i0, hi, hz0, hz1, hz2⟩ := info_parts rowInfo
  have und : Tryz.prog.underlying 28 = some (.slice 44) := Tryz.underlying28
  have HA := Lib.hid h
  have HG := Lib.hid hG
  have TO := Lib.hid (p := ∀ j, j < L.length → L.take (j + 1) = L.take j ++ [atD L j]) (fun j hj => by rw [List.take_add_one, List.getElem?_eq_getElem hj, atD_lt hj]; rfl)
  have FO := Lib.hid (p := L.take L.length = L) (List.take_length ..)
  obtain ⟨n, hnn⟩ : ∃ n, L.length = n := ⟨_, rfl⟩
  rw [hnn] at HA hn TO FO ⊢
  clear h hnn hG
  go_enter Tryz.func13, Tryz.ntmps13
  go_upto_region 1 with fail
  generalize hW : World.alloc (World.alloc w _) _ = W
  obtain ⟨hb, b1, b2, hsz⟩ := two_boxes w (.cells #[.int .i64 most, .slice a n c] 30) (.cells #[.int .i64 0, .slice none 0 0] 30)
  rw [hW] at hb b1 b2 hsz
  clear hW
  have HSZ := Lib.hid hsz
  clear hsz
  have HW := Lib.hid (And.intro hb (And.intro b1 b2))
  obtain ⟨⟨t0, t1⟩, -⟩ := twoE b1
  have hzW := hb.size
  clear hb b1 b2
  go_upto_region 2 with fail
  generalize hV : World.alloc W _ = V
  have hbV : Below W.heap.size W V := by rw [← hV]; exact (Below.refl _ _).alloc (Nat.le_refl _) _
  have hV2 : V.heap[W.heap.size]? = some (.cells #[.int .i64 most, .slice none 0 0] 30 (0, 0)) := by rw [← hV]; exact heap_alloc_new W _
  have hsV : V.heap.size = W.heap.size + 1 := by rw [← hV]; simp
  clear hV t0 t1
  obtain ⟨U, hU⟩ : ∃ U, W.heap.size = U := ⟨_, rfl⟩
  have hsz := HSZ.out
  rw [hU] at hV2 hsV hsz
  have K0 : Hid (DrK w W most a n c U none 0 0 V) := Lib.hid ⟨HW.out.1.trans (hbV.mono hzW), (hbV.block _ (lt_of_block HW.out.2.1)).trans HW.out.2.1, (hbV.block _ (lt_of_block HW.out.2.2)).trans HW.out.2.2, hV2⟩
  rw [hU]
  clear hbV hV2 hU HW hzW
  obtain ⟨Z, hZ⟩ : ∃ Z, V.heap.size = Z := ⟨_, rfl⟩
  rw [hZ] at hsV
  have HUZ := Lib.hid (And.intro hsV hsz)
  have HZ0 := Lib.hid (show Z ≤ V.heap.size by omega)
  clear hsV hsz
  have O0 : Hid (OwnQ G V Z (.slice none 0 0) []) := Lib.hid ⟨World.ownsRow_nil _ _ _ _, fun t ht => by cases ht⟩
  clear hZ
  go_wp2_with fail
  go_loopw [6] (fun i wr => ∃ (j : Nat) (T : List RTd) (va : Option Addr) (vc : Nat), i = .int .i64 j ∧ j ≤ n ∧ T.length ≤ j ∧ Hid (T.map (·.1) = dropQ (L.take j) k) ∧ Hid (OwnQ G wr Z (.slice va T.length vc) T) ∧ Hid (DrK w W most a n c U va T.length vc wr) ∧ Hid (Z ≤ wr.heap.size)) (fun i _ => n - (intOf i).toNat)
  case atStart => exact ⟨0, [], none, 0, rfl, Nat.zero_le _, Nat.le_refl _, Lib.hid rfl, O0, K0, HZ0⟩
  case round =>
    clear O0 K0 HZ0
    obtain ⟨j, T, va, vc, rfl, hj, hTj, HM, HO, HK, HZ⟩ := hrel
    obtain ⟨⟨t0, t1⟩, -⟩ := twoE HK.out.2.1
    by_cases hlt : j < n
    · have e1 : (j : Int) < (n : Int) := by omega
      obtain ⟨b, off, y, cy, rfl, hbg, h6, hry⟩ := HA.out.cellsD hlt
      have hbw := HG.out b hbg
      clear hbg
      have TK := Lib.hid (TO.out j hlt)
      obtain ⟨x, hx⟩ : ∃ x, atD L j = x := ⟨_, rfl⟩
      rw [hx] at h6 hry TK
      obtain ⟨x0, x1, x2, x3, x4, x5⟩ := (h6.keptS (keptBelow HK.out.1) (by omega) : Cells6 wr b (off + j * 6) x y cy)
      have ROW := Lib.hid (And.intro h6 hry)
      clear hx h6 hry
      cases hq : (x.key.toList == k.toList) with
      | true =>
        have hq2 : (x.key.toList != k.toList) = false := by rw [bne, hq]; rfl
        have M2 := Lib.hid (show T.map (·.1) = dropQ (L.take (j + 1)) k by rw [TK.out]; unfold dropQ; rw [List.filter_append, List.filter_cons, if_neg (by rw [hq]; decide)]; simpa [dropQ] using HM.out)
        go_wp2_with fail
        go_roundw
        case rel => exact ⟨j + 1, T, va, vc, by go_num, by omega, by omega, M2, HO, HK, HZ⟩
        case measure => simp [intOf]; omega
      | false =>
        have hq2 : (x.key.toList != k.toList) = true := by rw [bne, hq]; rfl
        have M2 := Lib.hid (show T.map (·.1) ++ [x] = dropQ (L.take (j + 1)) k by rw [TK.out]; unfold dropQ; rw [List.filter_append, List.filter_cons, if_pos (by rw [hq]; rfl)]; rw [HM.out]; rfl)
        have CELLS := Lib.hid (p := ∀ w', Below wr.heap.size wr w' → w'.cell? ⟨w.heap.size, 1, none⟩ = some (.slice (some ⟨b, off, none⟩) n c) ∧ w'.cell? ⟨U, 1, none⟩ = some (.slice va T.length vc) ∧ w'.cell? ⟨b, off + j * 6, none⟩ = some (.string x.key) ∧ w'.cell? ⟨b, off + j * 6 + 1, none⟩ = some (.int .i64 x.t) ∧ w'.cell? ⟨b, off + j * 6 + 2, none⟩ = some (.int .i64 x.i) ∧ w'.cell? ⟨b, off + j * 6 + 3, none⟩ = some (.int .i64 x.q) ∧ w'.cell? ⟨b, off + j * 6 + 4, none⟩ = some (.string x.o) ∧ w'.cell? ⟨b, off + j * 6 + 5, none⟩ = some (.slice y x.len cy)) (fun w' hb => by
          obtain ⟨⟨-, s1⟩, -⟩ := twoE ((hb.block _ (lt_of_block HK.out.2.1)).trans HK.out.2.1)
          obtain ⟨⟨-, u1⟩, -⟩ := twoE ((hb.block _ (lt_of_block HK.out.2.2.2)).trans HK.out.2.2.2)
          obtain ⟨y0, y1, y2, y3, y4, y5⟩ := (ROW.out.1.keptS (keptBelow (HK.out.1.trans (hb.mono HK.out.1.size))) (by omega) : Cells6 w' b (off + j * 6) x y cy)
          exact ⟨s1, u1, y0, y1, y2, y3, y4, y5⟩)
        obtain ⟨⟨u0, u1⟩, g0, g1⟩ := twoE HK.out.2.2.2
        have O2 := Lib.hid (HO.out.below (drewD wr))
        have BD := Lib.hid (drewD wr)
        have hTn : T.length ≤ 1000 := by omega
        have NEW := Lib.hid (new_sixQ wr.drew (x, y, cy))
        have hUw : U < wr.heap.size := lt_of_block HK.out.2.2.2
        go_upto_region 6 with fail
        go_region_law (first
          | (rw [alloc_drew]
             refine step_append_one rfl (.tmp 26) (.tmp 32) 28 rfl (base := Z) und hi hz0 hz1 hz2 rfl (by decide) (.slice va T.length vc) T.length (T.flatMap sixD) (sixD (x, y, cy)) ⟨wr.heap.size, 0, none⟩ 1 (by first | (simp [Act.eval]; done) | fail) (by first | (simp [Act.eval]; done) | fail) (World.ownsRow.alloc O2.out.1 _) rfl NEW.out (sixD_one _) (by unfold maxLen; omega) (by omega) (by have := HZ.out; simp; omega) ?_
             intro v3 w3 ho hg
             obtain ⟨va3, vc3, rfl⟩ := own_rowG ho
             have O3 := Lib.hid ho
             have G3 := Lib.hid hg
             have B3 := Lib.hid (show Below Z wr w3 from (((drewD wr).mono HZ.out).alloc (show Z ≤ wr.drew.heap.size from HZ.out) _).grown hg (by have h9 : Z ≤ wr.heap.size := HZ.out; first | exact Nat.le_succ_of_le h9 | (simp; omega)) (fun q hq => (O2.out.1.lt q hq).1))
             have h3 := (B3.out.block U (by have := HUZ.out.1; omega)).trans HK.out.2.2.2
             obtain ⟨⟨u30, u31⟩, g30, g31⟩ := twoE h3
             clear ho hg))
        all_goals
          have K3 : Hid (DrK w W most (some ⟨b, off, none⟩) n c U va3 (T.length + 1) vc3 (w3.setCell ⟨U, 1, none⟩ (.slice va3 (T.length + 1) vc3))) := Lib.hid (by
            obtain ⟨k1, k2, k3, k4⟩ := HK.out
            have hz := HUZ.out.2
            have hz2 := HUZ.out.1
            refine ⟨(k1.trans (B3.out.mono (by omega))).setCell (p := ⟨U, 1, none⟩) (by show w.heap.size ≤ U; omega) _, ?_, ?_, ?_⟩
            · exact (Below.heap_setCell _ _ _ _ (by show w.heap.size ≠ U; omega)).trans ((B3.out.block _ (by omega)).trans k2)
            · exact (Below.heap_setCell _ _ _ _ (by show w.heap.size + 1 ≠ U; omega)).trans ((B3.out.block _ (by omega)).trans k3)
            · rw [heap_setCell_same w3 U 1 _ _ (.slice va3 (T.length + 1) vc3) h3]; rfl)
          have LT := Lib.hid (show T.length + 1 = (T ++ [(x, y, cy)]).length by rw [List.length_append]; rfl)
          have O4 : Hid (OwnQ G (w3.setCell ⟨U, 1, none⟩ (.slice va3 (T.length + 1) vc3)) Z (.slice va3 (T.length + 1) vc3) (T ++ [(x, y, cy)])) := Lib.hid (by
            have hz := HUZ.out.1
            have hz2 := HUZ.out.2
            have OA := O2.out.below (w' := wr.drew.alloc (.cells #[.string x.key, .int .i64 x.t, .int .i64 x.i, .int .i64 x.q, .string x.o, .slice y x.len cy] 44)) ((Below.refl _ _).alloc (Nat.le_refl _) _)
            have RR := (ROW.out.2.kept (keptBelow HK.out.1) (fun q hq h => by have := HG.out q hq; omega)).kept (keptBelow (show Below wr.heap.size wr (wr.drew.alloc (.cells #[.string x.key, .int .i64 x.t, .int .i64 x.i, .int .i64 x.q, .string x.o, .slice y x.len cy] 44)) from (drewD wr).alloc (Nat.le_refl _) _)) (fun q hq h => by have := HG.out q hq; have := HK.out.1.size; omega)
            have OM := OA.more (t := (x, y, cy)) (fun q hq e => by have := HG.out q hq; have := (OA.1.lt q e).1; omega) RR O3.out G3.out
            exact OM.setBox (by omega) (fun q hq => by have := HG.out q hq; omega) _)
          have Z3 : Hid (Z ≤ (w3.setCell ⟨U, 1, none⟩ (.slice va3 (T.length + 1) vc3)).heap.size) := Lib.hid (by have := B3.out.size; have := HZ.out; rw [World.size_setCell]; omega)
          have M3 := Lib.hid (show (T ++ [(x, y, cy)]).map (·.1) = dropQ (L.take (j + 1)) k by rw [List.map_append]; exact M2.out)
          clear x0 x1 x2 x3 x4 x5 u0 u1 g0 g1 u30 u31 g30 g31 h3
        go_wp2_with fail
        all_goals
          go_roundw
          case rel => exact ⟨j + 1, T ++ [(x, y, cy)], va3, vc3, by go_num, by omega, (by rw [← LT.out]; omega), M3, LT.out ▸ O4, LT.out ▸ K3, Z3⟩
          case measure => simp [intOf]; omega
    · have hjn : j = n := by omega
      rw [hjn, FO.out] at HM
      have hnn1 : ¬ (j : Int) < (n : Int) := by omega
      obtain ⟨k1, k2, k3, k4⟩ := HK.out
      have hz := HUZ.out.1
      have hz2 := HUZ.out.2
      have hz3 := HSZ.out
      obtain ⟨⟨u0, u1⟩, g0, g1⟩ := twoE k4
      obtain ⟨⟨d0, d1⟩, f0, f1⟩ := twoE k3
      have E := Lib.hid (two_setD k3 (.int .i64 most) (.slice va T.length vc))
      have B := Lib.hid ((k1.setCell (p := ⟨w.heap.size + 1, 0, none⟩) (by show w.heap.size ≤ w.heap.size + 1; omega) (.int .i64 most)).setCell (p := ⟨w.heap.size + 1, 1, none⟩) (by show w.heap.size ≤ w.heap.size + 1; omega) (.slice va T.length vc))
      have O9 := Lib.hid (((HO.out.setBox (U := w.heap.size + 1) (o := 0) (by omega) (fun q hq => by have := HG.out q hq; omega) (.int .i64 most)).setBox (U := w.heap.size + 1) (o := 1) (by omega) (fun q hq => by have := HG.out q hq; omega) (.slice va T.length vc)).low (C := w.heap.size) (by omega))
      have hne : ¬ U = w.heap.size + 1 := by omega
      clear k1 k2 k3 k4 hz hz2 hz3
      go_wp2_with fail
      obtain ⟨⟨g0, g1⟩, -⟩ := twoE E.out
      exact bodyPost_ret (v := tabV most va T.length vc) (by simp [results, Tryz.results13, go_sem, g0, g1]) rfl ⟨⟨va, vc, T, rfl, O9.out, HM.out⟩, B.out⟩

end Go.Proofs.YtpdobbdbmgeoiaaGreat

namespace Go.Proofs.YtpdobbdbmgeoiaaGreat
open Go.RowKit

/-- What append takes its new elements of m cells each from. -/
def FromM (w : World) (u : Value) (m size : Nat) (news : List Value) : Prop :=
  (u = .slice none 0 0 ∧ m = 0 ∧ news = []) ∨ ∃ b c, u = .slice (some b) m c ∧ news.length = m * size ∧ ∀ j x, news[j]? = some x → w.cell? (b.add j) = some x

theorem FromM.below {w w' : World} {u : Value} {m size : Nat} {news : List Value} (h : FromM w u m size news) (hb : Below w.heap.size w w') : FromM w' u m size news := by
  rcases h with h | ⟨b, c, e, hl, hn⟩
  · exact .inl h
  · refine .inr ⟨b, c, e, hl, fun j x hj => ?_⟩
    have := hn j x hj
    exact (hb.cell (World.block_lt_of_cell? w _ this)).trans this

section
variable {P : Program}
theorem run_append_fromM {w : World} {base size : Nat} {t ty e : TypeId} {i : TypeInfo} {z : Value} {bytes : Nat} (ht : P.underlying t = some (.slice e)) (hi : P.info? e = some i) (hz : i.zero = some z) (hsize : i.size = size) (hby : i.bytes = bytes) (hzs : z.cells.size = size) (hpos : 0 < size)
    {v u : Value} {n m : Nat} {xs news : List Value} (hown : w.ownsRow base e size v n xs) (hfrom : FromM w u m size news) (h1 : ∀ x ∈ news, x.oneCell' = true) (h63 : n + m ≤ maxLen) (hbytes : (n + m) * bytes ≤ 140737488355328) (hbase : base ≤ w.heap.size) :
    ∃ v' w', (Builtin.append_ #[t, t] ty #[v, u]).run P w = .ok v' w' ∧ w'.ownsRow base e size v' (n + m) (xs ++ news) ∧ w.grownBy w' v.ownBlock := by
  rcases hfrom with ⟨rfl, rfl, rfl⟩ | ⟨b, c, rfl, hl, hn⟩
  · have hr := run_append_owned_none (P := P) w base t ty e i size ht hi v n xs hown
    exact ⟨v, w, hr, by simpa using hown, World.grownBy.refl w _⟩
  · obtain ⟨v', w', hr, ho, hg, _⟩ := run_append_own (P := P) w base t ty e i z size bytes ht hi hz hsize hby hzs hpos v n xs hown b m c news hl hn h1 h63 hbytes hbase
    exact ⟨v', w', hr, ho, hg⟩

theorem step_append_fromM {ops : Array Oper} {o : Oper} {a : Act} {w : World} {K : Act → World → Prop} {Q : Exit → Act → World → Prop} {E : Prop}
    (hg : o.guard = none) (s x : Operand) (t : TypeId) (hop : o.op = Op.call { callee := Callee.builtin Builtin.append, args := #[s, x], argTypes := #[t, t] })
    {base size : Nat} {e : TypeId} {i : TypeInfo} {z : Value} {bytes : Nat} (ht : P.underlying t = some (.slice e)) (hi : P.info? e = some i) (hz : i.zero = some z) (hsize : i.size = size) (hby : i.bytes = bytes) (hzs : z.cells.size = size) (hpos : 0 < size)
    (v u : Value) (n m : Nat) (xs news : List Value) (hs : a.eval s = v) (hx : a.eval x = u) (hown : w.ownsRow base e size v n xs) (hfrom : FromM w u m size news) (h1 : ∀ u ∈ news, u.oneCell' = true)
    (h63 : n + m ≤ maxLen) (hbytes : (n + m) * bytes ≤ 140737488355328) (hbase : base ≤ w.heap.size)
    (hK : ∀ v' w', w'.ownsRow base e size v' (n + m) (xs ++ news) → w.grownBy w' v.ownBlock → K (a.put o.dst v') w') :
    if Region.wanted o (yielded ops a.tmps) = true then Oper.wp P o a w K Q else E := by
  have hw : Region.wanted o (yielded ops a.tmps) = true := by simp [Region.wanted, hg]
  rw [if_pos hw]
  obtain ⟨v', w', hr, ho, hgr⟩ := run_append_fromM (P := P) (ty := o.type) ht hi hz hsize hby hzs hpos hown hfrom h1 h63 hbytes hbase
  unfold Oper.wp
  simp [execOp, hop, resolve, invoke, builtin, hs, hx, hr, Result.andThen]
  exact hK _ _ ho hgr

theorem wpList_append_fromM {ops : Array Oper} {rest : List Oper} {o : Oper} {a : Act} {w : World} {Q : Exit → Act → World → Prop}
    (hgd : o.guard = none) (s x : Operand) (t : TypeId) (hop : o.op = Op.call { callee := Callee.builtin Builtin.append, args := #[s, x], argTypes := #[t, t] })
    {base size : Nat} {e : TypeId} {i : TypeInfo} {z : Value} {bytes : Nat} (ht : P.underlying t = some (.slice e)) (hi : P.info? e = some i) (hz : i.zero = some z) (hsize : i.size = size) (hby : i.bytes = bytes) (hzs : z.cells.size = size) (hpos : 0 < size)
    (v u : Value) (n m : Nat) (xs news : List Value) (hs : a.eval s = v) (hx : a.eval x = u) (hown : w.ownsRow base e size v n xs) (hfrom : FromM w u m size news) (h1 : ∀ x ∈ news, x.oneCell' = true) (h63 : n + m ≤ maxLen) (hbytes : (n + m) * bytes ≤ 140737488355328) (hbase : base ≤ w.heap.size)
    (hK : ∀ v' w', w'.ownsRow base e size v' (n + m) (xs ++ news) → w.grownBy w' v.ownBlock → wpList P ops Q rest (a.put o.dst v') w') :
    wpList P ops Q (o :: rest) a w := by
  refine wpList_plain hgd fun K hK' => ?_
  obtain ⟨v', w', hr, ho, hgr⟩ := run_append_fromM (P := P) (ty := o.type) ht hi hz hsize hby hzs hpos hown hfrom h1 h63 hbytes hbase
  unfold Oper.wp
  simp [execOp, hop, resolve, invoke, builtin, hs, hx, hr, Result.andThen]
  exact hK' _ _ (hK _ _ ho hgr)
end

section
variable {P : Program}
theorem step_chainM {ops : Array Oper} {o : Oper} {a : Act} {w0 w : World} {K : Act → World → Prop} {Q : Exit → Act → World → Prop} {E : Prop}
    (hg : o.guard = none) (s x : Operand) (t : TypeId) (hop : o.op = Op.call { callee := Callee.builtin Builtin.append, args := #[s, x], argTypes := #[t, t] })
    {size : Nat} {e : TypeId} {i : TypeInfo} {z : Value} {bytes : Nat} (ht : P.underlying t = some (.slice e)) (hi : P.info? e = some i) (hz : i.zero = some z) (hsize : i.size = size) (hby : i.bytes = bytes) (hzs : z.cells.size = size) (hpos : 0 < size)
    (v u : Value) (n m : Nat) (xs news : List Value) (hs : a.eval s = v) (hx : a.eval x = u) (hk : Below w0.heap.size w0 w) (hown : w.ownsRow w0.heap.size e size v n xs) (hfrom : FromM w u m size news) (h1 : ∀ u ∈ news, u.oneCell' = true)
    (h63 : n + m ≤ maxLen) (hbytes : (n + m) * bytes ≤ 140737488355328)
    (hK : ∀ v' w', Below w0.heap.size w0 w' → w'.ownsRow w0.heap.size e size v' (n + m) (xs ++ news) → w.grownBy w' v.ownBlock → K (a.put o.dst v') w') :
    if Region.wanted o (yielded ops a.tmps) = true then Oper.wp P o a w K Q else E :=
  step_append_fromM hg s x t hop ht hi hz hsize hby hzs hpos v u n m xs news hs hx hown hfrom h1 h63 hbytes hk.size (fun v' w' ho hgr => hK v' w' (hk.grown hgr hk.size (fun q hq => (hown.lt q hq).1)) ho hgr)
end

theorem own_emptyM {W : World} {e : TypeId} {b base size : Nat} (h : W.heap[b]? = some (.cells #[] e (0, 0))) (hb : base ≤ b) : W.ownsRow base e size (.slice (some ⟨b, 0, none⟩) 0 0) 0 [] :=
  ⟨by simp, Or.inr ⟨b, 0, #[], rfl, hb, h, Nat.le_refl _, Nat.zero_le _, by simp, by simp⟩⟩


theorem alloc_get (w : World) (o : Obj) (k : Nat) : (w.alloc o).heap[k]? = if k = w.heap.size then some o else w.heap[k]? := by
  show (w.heap.push o)[k]? = _
  rw [Array.getElem?_push]
theorem drew_heap (w : World) : w.drew.heap = w.heap := rfl
theorem Below.drewQ {B : Nat} {a w : World} (h : Below B a w) : Below B a w.drew := ⟨h.os, h.tape, h.output, h.size, h.block⟩
theorem fromSix {W : World} {b : Nat} {x : RD} {y : Option Addr} {c : Nat} (h : W.heap[b]? = some (.cells #[.string x.key, .int .i64 x.t, .int .i64 x.i, .int .i64 x.q, .string x.o, .slice y x.len c] 44 (0, 0))) : FromM W (.slice (some ⟨b, 0, none⟩) 1 1) 1 6 (sixD (x, y, c)) := by
  refine .inr ⟨_, 1, rfl, rfl, fun j u hj => ?_⟩
  rw [Addr.add_lit, Nat.zero_add, cell_of_row _ _ _ _ _ (0, 0) h]
  simpa [sixD] using hj
theorem sixD_len (T : List RTd) : (T.flatMap sixD).length = T.length * 6 := by
  induction T with
  | nil => rfl
  | cons t T ih => rw [List.flatMap_cons, List.length_append, ih, List.length_cons]; show 6 + _ = _; omega
theorem sixD_ones (T : List RTd) : ∀ u ∈ T.flatMap sixD, u.oneCell' = true := fun u hu => by
  obtain ⟨t, -, h⟩ := List.mem_flatMap.1 hu
  exact sixD_one t u h
theorem from_take {w : World} {b off c : Nat} {T : List RTd} (h : ∀ j u, (T.flatMap sixD)[j]? = some u → w.cell? ⟨b, off + j, none⟩ = some u) (k : Nat) (hk : k ≤ T.length) : FromM w (.slice (some ⟨b, off, none⟩) k c) k 6 ((T.take k).flatMap sixD) := by
  refine .inr ⟨_, c, rfl, by rw [sixD_len, List.length_take, Nat.min_eq_left hk], fun j u hj => ?_⟩
  rw [Addr.add_lit]
  refine h j u ?_
  have e : T.flatMap sixD = (T.take k).flatMap sixD ++ (T.drop k).flatMap sixD := by rw [← List.flatMap_append, List.take_append_drop]
  rw [e, List.getElem?_append_left (by exact (List.getElem?_eq_some_iff.1 hj).1)]
  exact hj
theorem from_drop {w : World} {b off c : Nat} {T : List RTd} (h : ∀ j u, (T.flatMap sixD)[j]? = some u → w.cell? ⟨b, off + j, none⟩ = some u) (k : Nat) (hk : k ≤ T.length) : FromM w (.slice (some ⟨b, off + k * 6, none⟩) (T.length - k) c) (T.length - k) 6 ((T.drop k).flatMap sixD) := by
  refine .inr ⟨_, c, rfl, by rw [sixD_len, List.length_drop], fun j u hj => ?_⟩
  rw [Addr.add_lit, Nat.add_assoc]
  refine h _ u ?_
  have e : T.flatMap sixD = (T.take k).flatMap sixD ++ (T.drop k).flatMap sixD := by rw [← List.flatMap_append, List.take_append_drop]
  have hl : ((T.take k).flatMap sixD).length = k * 6 := by rw [sixD_len, List.length_take, Nat.min_eq_left hk]
  rw [e, List.getElem?_append_right (by omega), hl, Nat.add_sub_cancel_left]
  exact hj
/-- A block of another type is not the row's own. -/
theorem own_type {w : World} {B : Nat} {e t : TypeId} {size : Nat} {v : Value} {n : Nat} {xs : List Value} {U : Nat} {cs : Array Value} (h : w.ownsRow B e size v n xs) (hU : w.heap[U]? = some (.cells cs t (0, 0))) (ht : e ≠ t) : v.ownBlock ≠ some U := fun hv => by
  rcases h.2 with ⟨rfl, _⟩ | ⟨g, cap, cur, rfl, hb, hg, _⟩
  · simp [Value.ownBlock] at hv
  · simp only [Value.ownBlock, Option.some.injEq] at hv
    subst hv
    rw [hg] at hU
    simp only [Option.some.injEq, Obj.cells.injEq] at hU
    exact ht hU.2.1
theorem alloc2_old (w : World) (o1 o2 : Obj) : ((w.alloc o1).alloc o2).heap[w.heap.size]? = some o1 := (two_boxes w o1 o2).2.1
theorem alloc2_new (w : World) (o1 o2 : Obj) : ((w.alloc o1).alloc o2).heap[w.heap.size + 1]? = some o2 := (two_boxes w o1 o2).2.2.1
theorem alloc3_0 (w : World) (o1 o2 o3 : Obj) : (((w.alloc o1).alloc o2).alloc o3).heap[w.heap.size]? = some o1 := (Below.heap_alloc _ _ _ (lt_of_block (alloc2_old w o1 o2))).trans (alloc2_old w o1 o2)
theorem alloc3_1 (w : World) (o1 o2 o3 : Obj) : (((w.alloc o1).alloc o2).alloc o3).heap[w.heap.size + 1]? = some o2 := (Below.heap_alloc _ _ _ (lt_of_block (alloc2_new w o1 o2))).trans (alloc2_new w o1 o2)
theorem alloc3_2 (w : World) (o1 o2 o3 : Obj) : (((w.alloc o1).alloc o2).alloc o3).heap[w.heap.size + 2]? = some o3 := by
  have := heap_alloc_new ((w.alloc o1).alloc o2) o3
  rwa [(two_boxes w o1 o2).2.2.2] at this
theorem new3 {S w3 : World} {g k : Nat} {o : Obj} (G : S.grownBy w3 (Value.slice (some ⟨g, 0, none⟩) 0 0).ownBlock) (hne : k ≠ g) (hS : S.heap[k]? = some o) : w3.heap[k]? = some o :=
  (G.block k (lt_of_block hS) (fun e => hne (by simpa [Value.ownBlock] using e))).trans hS
theorem new5 {w3 S w5 : World} {B : Nat} {e : TypeId} {size : Nat} {v : Value} {n : Nat} {xs : List Value} {k : Nat} {o : Obj} (O : w3.ownsRow B e size v n xs) (G : S.grownBy w5 v.ownBlock) (hk : w3.heap.size ≤ k) (hS : S.heap[k]? = some o) : w5.heap[k]? = some o :=
  (G.block k (lt_of_block hS) (fun e => by have := (O.lt k e.symm).2; omega)).trans hS
theorem own_set2 {w : World} {B : Nat} {e t : TypeId} {size : Nat} {v : Value} {n : Nat} {xs : List Value} {U : Nat} {a0 a1 : Value} (h : w.ownsRow B e size v n xs) (hU : w.heap[U]? = some (.cells #[a0, a1] t (0, 0))) (ht : e ≠ t) (u0 u1 : Value) : ((w.setCell ⟨U, 0, none⟩ u0).setCell ⟨U, 1, none⟩ u1).ownsRow B e size v n xs := by
  have hne := own_type h hU ht
  have g1 : w.grownBy (w.setCell ⟨U, 0, none⟩ u0) (some U) := ⟨rfl, rfl, rfl, by simp, fun q _ hq => Below.heap_setCell _ _ _ _ (fun e => hq (by rw [e]))⟩
  have g2 : (w.setCell ⟨U, 0, none⟩ u0).grownBy ((w.setCell ⟨U, 0, none⟩ u0).setCell ⟨U, 1, none⟩ u1) (some U) := ⟨rfl, rfl, rfl, by simp, fun q _ hq => Below.heap_setCell _ _ _ _ (fun e => hq (by rw [e]))⟩
  exact (h.kept g1 (.inr hne)).kept g2 (.inr hne)
theorem keep5 {w3 S w5 : World} {B : Nat} {e t : TypeId} {size : Nat} {v : Value} {n : Nat} {xs : List Value} {k : Nat} {cs : Array Value} (O : w3.ownsRow B e size v n xs) (G : S.grownBy w5 v.ownBlock) (hz : w3.heap.size ≤ S.heap.size) (h : w3.heap[k]? = some (.cells cs t (0, 0))) (ht : e ≠ t) (hS : S.heap[k]? = w3.heap[k]?) : w5.heap[k]? = some (.cells cs t (0, 0)) :=
  (G.block k (Nat.lt_of_lt_of_le (lt_of_block h) hz) (fun e => own_type O h ht e.symm)).trans (hS.trans h)

end Go.Proofs.YtpdobbdbmgeoiaaGreat

namespace Go.Proofs.YtpdobbdbmgeoiaaGreat
open Go.RowKit

/-- What Put keeps: the table's box, the row's, the answer's. -/
def PuK (w wr : World) (most : Int) (x : RD) (y : Option Addr) (cy : Nat) (va : Option Addr) (l c : Nat) : Prop :=
  Below w.heap.size w wr ∧ wr.heap[w.heap.size]? = some (.cells #[.int .i64 most, .slice va l c] 30 (0, 0)) ∧ wr.heap[w.heap.size + 1]? = some (.cells #[.string x.key, .int .i64 x.t, .int .i64 x.i, .int .i64 x.q, .string x.o, .slice y x.len cy] 44 (0, 0)) ∧ wr.heap[w.heap.size + 2]? = some (.cells #[.int .i64 0, .slice none 0 0] 30 (0, 0))
theorem PuK.below {w wr wr' : World} {most : Int} {x : RD} {y : Option Addr} {cy : Nat} {va : Option Addr} {l c : Nat} (h : PuK w wr most x y cy va l c) (hb : Below wr.heap.size wr wr') : PuK w wr' most x y cy va l c :=
  ⟨h.1.trans (hb.mono h.1.size), (hb.block _ (lt_of_block h.2.1)).trans h.2.1, (hb.block _ (lt_of_block h.2.2.1)).trans h.2.2.1, (hb.block _ (lt_of_block h.2.2.2)).trans h.2.2.2⟩

theorem three_boxes (w : World) (o1 o2 o3 : Obj) : Below w.heap.size w (((w.alloc o1).alloc o2).alloc o3) ∧ (((w.alloc o1).alloc o2).alloc o3).heap[w.heap.size]? = some o1 ∧ (((w.alloc o1).alloc o2).alloc o3).heap[w.heap.size + 1]? = some o2 ∧ (((w.alloc o1).alloc o2).alloc o3).heap[w.heap.size + 2]? = some o3 ∧ (((w.alloc o1).alloc o2).alloc o3).heap.size = w.heap.size + 3 := by
  obtain ⟨h, h1, h2, h3⟩ := two_boxes w o1 o2
  refine ⟨h.alloc (by omega) _, (Below.heap_alloc _ _ _ (by omega)).trans h1, (Below.heap_alloc _ _ _ (by omega)).trans h2, ?_, by simp⟩
  have := heap_alloc_new ((w.alloc o1).alloc o2) o3
  rwa [h3] at this

/-- What Put leaves where there is room: what is left of the list, and the row in its place. -/
def putRest (L : List RD) (k : ByteArray) : List RD := if isQ L k = true then dropQ L k else L
def insQ (D : List RD) (x : RD) : List RD := D.take (posQ D x.key) ++ x :: D.drop (posQ D x.key)

end Go.Proofs.YtpdobbdbmgeoiaaGreat

namespace Go.Proofs.YtpdobbdbmgeoiaaGreat
open Go.RowKit

theorem cmpI_neg (a b : Int) : cmpI a b = - cmpI b a := by unfold cmpI; omega
theorem cmpS_neg (a b : ByteArray) : cmpS a b = - cmpS b a := by
  unfold cmpS
  cases h1 : Op.bytesLess a.toList b.toList <;> cases h2 : Op.bytesLess b.toList a.toList
  · rfl
  · rfl
  · rfl
  · have := strictS.asymm (a := a) (b := b) h1
    unfold lsS at this
    rw [h2] at this; cases this
theorem orI_neg {a b a' b' : Int} (h : a = -a') (h' : b = -b') : orI a b = - orI a' b' := by unfold orI; split <;> split <;> omega
theorem cmpSt_neg (t1 i1 q1 : Int) (o1 : ByteArray) (t2 i2 q2 : Int) (o2 : ByteArray) : cmpSt t1 i1 q1 o1 t2 i2 q2 o2 = - cmpSt t2 i2 q2 o2 t1 i1 q1 o1 :=
  orI_neg (cmpI_neg _ _) (orI_neg (cmpI_neg _ _) (orI_neg (cmpI_neg _ _) (cmpS_neg _ _)))

/-- How two rows' stamps stand. -/
def cmR (x y : RD) : Int := cmpSt x.t x.i x.q x.o y.t y.i y.q y.o
theorem cmR_neg (x y : RD) : cmR x y = - cmR y x := cmpSt_neg ..

/-- Rows that rise. -/
abbrev RiR (L : List RD) : Prop := Rising lsS (L.map RD.key)

theorem RiR.sub {L M : List RD} (h : RiR L) (hs : List.Sublist M L) : RiR M := List.Pairwise.sublist (hs.map RD.key) h
theorem RiR.one {L : List RD} (h : RiR L) {x y : RD} (hx : x ∈ L) (hy : y ∈ L) (he : x.key = y.key) : x = y := by
  obtain ⟨i, hi, rfl⟩ := List.getElem_of_mem hx
  obtain ⟨j, hj, rfl⟩ := List.getElem_of_mem hy
  have hk : ∀ m (hm : m < L.length), (L.map RD.key)[m]? = some (L[m]).key := fun m hm => by rw [List.getElem?_map, List.getElem?_eq_getElem hm]; rfl
  rcases Nat.lt_trichotomy i j with h1 | h1 | h1
  · have := rising_at h h1 (hk i hi) (hk j hj)
    rw [he, strictS.irrefl] at this; cases this
  · subst h1; rfl
  · have := rising_at h h1 (hk j hj) (hk i hi)
    rw [he, strictS.irrefl] at this; cases this

theorem isQ_iff {L : List RD} (h : RiR L) (k : ByteArray) : isQ L k = true ↔ ∃ z ∈ L, z.key = k := by
  have hm := mem_iff_pos strictS h (x := k)
  have hat : posQ L k < L.length → (L.map RD.key)[posQ L k]? = some (atD L (posQ L k)).key := fun hl => by
    rw [List.getElem?_map, List.getElem?_eq_getElem hl, atD_lt hl]; rfl
  constructor
  · intro hq
    unfold isQ at hq
    simp only [Bool.and_eq_true, decide_eq_true_eq] at hq
    exact ⟨atD L (posQ L k), by rw [atD_lt hq.1]; exact List.getElem_mem _, key_eq.1 hq.2⟩
  · rintro ⟨z, hz, rfl⟩
    have h2 := hm.1 (List.mem_map.2 ⟨z, hz, rfl⟩)
    have hl : posQ L z.key < L.length := by
      have := (List.getElem?_eq_some_iff.1 h2).1
      rwa [List.length_map] at this
    have h3 := hat hl
    unfold posQ at h3
    rw [h2] at h3
    unfold isQ
    simp only [Bool.and_eq_true, decide_eq_true_eq]
    refine ⟨hl, key_eq.2 ?_⟩
    simp only [Option.some.injEq] at h3
    exact h3.symm

theorem getQ_mem {L : List RD} {k : ByteArray} (h : isQ L k = true) : getQ L k ∈ L ∧ (getQ L k).key = k := by
  unfold getQ
  rw [if_pos h]
  unfold isQ at h
  simp only [Bool.and_eq_true, decide_eq_true_eq] at h
  exact ⟨by rw [atD_lt h.1]; exact List.getElem_mem _, key_eq.1 h.2⟩

/-- What a put leaves. -/
def insR (L : List RD) (x : RD) : List RD := insQ (putRest L x.key) x

theorem putRest_mem {L : List RD} (h : RiR L) (k : ByteArray) (z : RD) : z ∈ putRest L k ↔ z ∈ L ∧ z.key ≠ k := by
  unfold putRest
  by_cases hq : isQ L k = true
  · rw [if_pos hq]
    unfold dropQ
    rw [List.mem_filter]
    refine and_congr_right fun _ => ?_
    cases hb : (z.key.toList == k.toList)
    · simp only [Bool.not_false, true_iff]
      intro e; rw [e] at hb; simp at hb
    · simp only [Bool.not_true, Bool.false_eq_true, false_iff]
      exact fun hn => hn (key_eq.1 hb)
  · rw [if_neg hq]
    refine ⟨fun hz => ⟨hz, fun e => hq ((isQ_iff h k).2 ⟨z, hz, e⟩)⟩, fun hz => hz.1⟩
theorem putRest_sub (L : List RD) (k : ByteArray) : List.Sublist (putRest L k) L := by
  unfold putRest
  split
  · exact List.filter_sublist
  · exact List.Sublist.refl _

theorem insR_mem {L : List RD} (h : RiR L) (x z : RD) : z ∈ insR L x ↔ z = x ∨ (z ∈ L ∧ z.key ≠ x.key) := by
  unfold insR insQ
  rw [← putRest_mem h x.key z]
  conv => rhs; rw [← List.take_append_drop (posQ (putRest L x.key) x.key) (putRest L x.key)]
  rw [List.mem_append, List.mem_append, List.mem_cons]
  constructor
  · rintro (h | h | h)
    · exact .inr (.inl h)
    · exact .inl h
    · exact .inr (.inr h)
  · rintro (h | h | h)
    · exact .inr (.inl h)
    · exact .inl h
    · exact .inr (.inr h)
theorem insR_rise {L : List RD} (h : RiR L) (x : RD) : RiR (insR L x) := by
  unfold RiR insR insQ
  rw [List.map_append, List.map_cons, List.map_take, List.map_drop]
  refine rising_insert strictS (h.sub (putRest_sub L x.key)) fun hk => ?_
  obtain ⟨z, hz, e⟩ := List.mem_map.1 hk
  exact ((putRest_mem h x.key z).1 hz).2 e
theorem insR_len (L : List RD) (x : RD) : (insR L x).length ≤ L.length + 1 := by
  unfold insR insQ
  rw [List.length_append, List.length_cons, List.length_take, List.length_drop]
  have := (putRest_sub L x.key).length_le
  omega

/-- What puts leave, one behind the other. -/
def insAll (L S : List RD) : List RD := S.foldl insR L
theorem insAll_snoc (L S : List RD) (x : RD) : insAll L (S ++ [x]) = insR (insAll L S) x := by unfold insAll; rw [List.foldl_append]; rfl
theorem insAll_all : ∀ {S : List RD} (hS : RiR S) {L : List RD} (hL : RiR L), RiR (insAll L S) ∧ (insAll L S).length ≤ L.length + S.length ∧ ∀ z, z ∈ insAll L S ↔ z ∈ S ∨ (z ∈ L ∧ ∀ s ∈ S, s.key ≠ z.key)
  | [], _, L, hL => ⟨hL, Nat.le_refl _, fun z => by simp [insAll]⟩
  | s :: S, hS, L, hL => by
    have hS2 : RiR S := (List.pairwise_cons.1 hS).2
    have hs : ∀ t ∈ S, s.key ≠ t.key := fun t ht e => by
      have := (List.pairwise_cons.1 hS).1 t.key (List.mem_map.2 ⟨t, ht, rfl⟩)
      rw [e, strictS.irrefl] at this; cases this
    obtain ⟨h1, h2, h3⟩ := insAll_all hS2 (insR_rise hL s)
    refine ⟨h1, ?_, fun z => ?_⟩
    · have := insR_len L s
      show (insAll (insR L s) S).length ≤ _
      rw [List.length_cons]; omega
    · show z ∈ insAll (insR L s) S ↔ _
      rw [h3, insR_mem hL, List.mem_cons]
      constructor
      · rintro (h | ⟨h | ⟨h, hn⟩, h'⟩)
        · exact .inl (.inr h)
        · exact .inl (.inl h)
        · refine .inr ⟨h, fun t ht => ?_⟩
          rcases List.mem_cons.1 ht with rfl | ht
          · exact fun e => hn e.symm
          · exact h' t ht
      · rintro ((h | h) | ⟨h, h'⟩)
        · subst h
          exact .inr ⟨.inl rfl, fun t ht e => hs t ht e.symm⟩
        · exact .inl h
        · exact .inr ⟨.inr ⟨h, fun e => h' s List.mem_cons_self e.symm⟩, fun t ht => h' t (List.mem_cons_of_mem _ ht)⟩

/-- Each put of rows that are newer than those of the list goes well. -/
theorem step_ok {L S : List RD} (hL : RiR L) (hS : RiR S) (hN : ∀ s ∈ S, ∀ z ∈ L, z.key = s.key → cmR z s < 0) {j : Nat} (hj : j < S.length) :
    (isQ (insAll L (S.take j)) (atD S j).key = true → cmR (getQ (insAll L (S.take j)) (atD S j).key) (atD S j) < 0) ∧ (insAll L (S.take j)).length ≤ L.length + j ∧ insAll L (S.take (j + 1)) = insQ (putRest (insAll L (S.take j)) (atD S j).key) (atD S j) := by
  have hS2 : RiR (S.take j) := hS.sub (List.take_sublist j S)
  obtain ⟨h1, h2, h3⟩ := insAll_all hS2 hL
  have hsj : atD S j ∈ S := by rw [atD_lt hj]; exact List.getElem_mem _
  refine ⟨fun hq => ?_, ?_, ?_⟩
  · obtain ⟨g1, g2⟩ := getQ_mem hq
    rcases (h3 _).1 g1 with h | ⟨h, -⟩
    · exfalso
      have hm : getQ (insAll L (S.take j)) (atD S j).key ∈ S := List.mem_of_mem_take h
      have e := hS.one hm hsj g2
      rw [e] at h
      rw [atD_lt hj] at h
      obtain ⟨i, hi, he⟩ := List.getElem_of_mem h
      rw [List.length_take] at hi
      rw [List.getElem_take] at he
      have hk : ∀ m (hm : m < S.length), (S.map RD.key)[m]? = some (S[m]).key := fun m hm => by rw [List.getElem?_map, List.getElem?_eq_getElem hm]; rfl
      have hij : i < j := by omega
      have := rising_at hS hij (hk i (by omega)) (hk j hj)
      rw [he, strictS.irrefl] at this; cases this
    · exact hN _ hsj _ h g2
  · rw [List.length_take, Nat.min_eq_left (by omega)] at h2
    exact h2
  · rw [List.take_add_one, List.getElem?_eq_getElem hj, atD_lt hj]
    exact insAll_snoc _ _ _

theorem mem_send {al bl : List RD} (s : RD) : s ∈ sendQ al (bl.map mkK) ↔ s ∈ al ∧ ∀ y ∈ bl, y.key = s.key → cmR y s < 0 := by
  unfold sendQ
  rw [List.mem_filter]
  refine and_congr_right fun _ => ?_
  rw [Bool.not_eq_true', List.any_eq_false]
  constructor
  · intro h y hy e
    have := h (mkK y) (List.mem_map.2 ⟨y, hy, rfl⟩)
    unfold sKey at this
    rw [Bool.not_eq_true, Bool.and_eq_false_iff] at this
    rcases this with h | h
    · exfalso
      have : (mkK y).key = s.key := e
      rw [this] at h; simp at h
    · have h' : ¬ cmR s y ≤ 0 := of_decide_eq_false h
      have := cmR_neg y s
      omega
  · intro h m hm
    obtain ⟨y, hy, rfl⟩ := List.mem_map.1 hm
    unfold sKey
    rw [Bool.not_eq_true, Bool.and_eq_false_iff]
    by_cases e : y.key = s.key
    · refine .inr ?_
      have h1 := h y hy e
      have h2 := cmR_neg y s
      have : ¬ cmR s y ≤ 0 := by omega
      exact decide_eq_false this
    · refine .inl ?_
      rw [Bool.eq_false_iff]
      exact fun h' => e (key_eq.1 h')

theorem mem_want {al bl : List RD} (hb : RiR bl) (f : RD) : f ∈ pickQ bl (wantQ al (bl.map mkK)) ↔ f ∈ bl ∧ ∀ x ∈ al, x.key = f.key → cmR x f < 0 := by
  unfold pickQ
  rw [List.mem_filter]
  refine and_congr_right fun hf => ?_
  rw [List.any_eq_true]
  constructor
  · rintro ⟨k, hk, e⟩ x hx e2
    unfold wantQ at hk
    obtain ⟨m, hm, rfl⟩ := List.mem_map.1 hk
    obtain ⟨hm1, hm2⟩ := List.mem_filter.1 hm
    obtain ⟨y, hy, rfl⟩ := List.mem_map.1 hm1
    have : y = f := hb.one hy hf (key_eq.1 e)
    subst this
    rw [Bool.not_eq_true', List.any_eq_false] at hm2
    have := hm2 x hx
    unfold wKey at this
    rw [Bool.not_eq_true, Bool.and_eq_false_iff] at this
    rcases this with h | h
    · exfalso
      have h9 : (mkK y).key = x.key := e2.symm
      rw [h9] at h; simp at h
    · have h' : ¬ 0 ≤ cmR x y := of_decide_eq_false h
      omega
  · intro h
    refine ⟨f.key, ?_, by simp⟩
    unfold wantQ
    refine List.mem_map.2 ⟨mkK f, List.mem_filter.2 ⟨List.mem_map.2 ⟨f, hf, rfl⟩, ?_⟩, rfl⟩
    rw [Bool.not_eq_true', List.any_eq_false]
    intro x hx
    unfold wKey
    rw [Bool.not_eq_true, Bool.and_eq_false_iff]
    by_cases e : x.key = f.key
    · refine .inr ?_
      have h1 := h x hx e
      have : ¬ 0 ≤ cmR x f := by omega
      exact decide_eq_false this
    · refine .inl ?_
      rw [Bool.eq_false_iff]
      exact fun h' => e (key_eq.1 h').symm

theorem cmpV_dt2 (x : AD) : cmpV x.k x.n x.s x.len x.z (twA x).k (twA x).n (twA x).s (twA x).len (twA x).z = 0 := by
  show cmpV x.k x.n x.s x.len x.z x.k (twN x.k x.n) (twS x.k x.s) (twL x.k x.len) x.z = 0
  unfold cmpV twN twS twL
  rw [if_pos rfl]
  by_cases k1 : x.k = 1
  · rw [if_pos k1, if_pos k1]; exact cmpI_self _
  · rw [if_neg k1]
    by_cases k2 : x.k = 2
    · rw [if_pos k2, if_pos k2]; exact cmpS_self _
    · rw [if_neg k2]
      by_cases k3 : x.k = 3
      · rw [if_pos k3, if_pos k3]; exact cmpL_selfD _
      · rw [if_neg k3]

theorem sameAs_dt2 (A : Nat → AD) : ∀ (n k : Nat), sameAs (fromA A n k) (fromA (twF A) n k) = true := by
  intro n k
  generalize hd : n - k = d
  induction d generalizing k with
  | zero => rw [fromA_nil (twF A) (n := n) (k := k) (by omega), fromA_nil A (n := n) (k := k) (by omega)]; rfl
  | succ d ih =>
    rw [fromA_cons (twF A) (n := n) (k := k) (by omega), fromA_cons A (n := n) (k := k) (by omega)]
    show (sameAD (A k) (twA (A k)) && _) = true
    rw [ih (k + 1) (by omega), Bool.and_true]
    unfold sameAD
    have : ((A k).m.toList == (twA (A k)).m.toList) = true := by rw [show (twA (A k)).m = (A k).m from rfl]; exact beq_self_eq_true _
    rw [this, Bool.true_and]
    exact decide_eq_true (cmpV_dt2 _)

theorem sameR_dt2 (x : RD) : sameR x (dtR x) = true := by
  unfold sameR
  show ((x.key.toList == x.key.toList) && (decide (cmpSt x.t x.i x.q x.o x.t x.i x.q x.o = 0) && (decide (x.len = x.len) && sameAs (fromA x.A x.len 0) (fromA (twF x.A) x.len 0)))) = true
  rw [sameAs_dt2, cmpSt_self]
  simp

theorem key_dt (L : List RD) : (L.map dtR).map RD.key = L.map RD.key := by rw [List.map_map]; rfl
theorem RiR.dt {L : List RD} (h : RiR L) : RiR (L.map dtR) := by unfold RiR; rw [key_dt]; exact h

/-- Two that tell each other have the same. -/
theorem meets {al bl : List RD} (ha : RiR al) (hb : RiR bl) (hno : ∀ x ∈ al, ∀ y ∈ bl, x.key = y.key → cmR x y = 0 → sameR x y = true) :
    (insAll al ((pickQ bl (wantQ al (bl.map mkK))).map dtR)).length = (insAll bl ((sendQ al (bl.map mkK)).map dtR)).length ∧
    ∀ j, j < (insAll al ((pickQ bl (wantQ al (bl.map mkK))).map dtR)).length → sameR (atD (insAll al ((pickQ bl (wantQ al (bl.map mkK))).map dtR)) j) (atD (insAll bl ((sendQ al (bl.map mkK)).map dtR)) j) = true := by
  have hF : RiR ((pickQ bl (wantQ al (bl.map mkK))).map dtR) := (hb.sub List.filter_sublist).dt
  have hS : RiR ((sendQ al (bl.map mkK)).map dtR) := (ha.sub List.filter_sublist).dt
  have mF := fun f => mem_want (al := al) hb f
  have mS := fun s => mem_send (al := al) (bl := bl) s
  generalize pickQ bl (wantQ al (bl.map mkK)) = F at *
  generalize sendQ al (bl.map mkK) = S at *
  obtain ⟨x1, -, x3⟩ := insAll_all hF ha
  obtain ⟨y1, -, y3⟩ := insAll_all hS hb
  generalize insAll al (F.map dtR) = X at *
  generalize insAll bl (S.map dtR) = Y at *
  -- the same keys
  have kX : ∀ k, k ∈ X.map RD.key ↔ (∃ x ∈ al, x.key = k) ∨ ∃ y ∈ bl, y.key = k := fun k => by
    rw [List.mem_map]
    constructor
    · rintro ⟨z, hz, rfl⟩
      rcases (x3 z).1 hz with h | ⟨h, -⟩
      · obtain ⟨f, hf, rfl⟩ := List.mem_map.1 h
        exact .inr ⟨f, ((mF f).1 hf).1, rfl⟩
      · exact .inl ⟨z, h, rfl⟩
    · rintro (⟨x, hx, rfl⟩ | ⟨y, hy, rfl⟩)
      · by_cases h : ∃ f ∈ F, f.key = x.key
        · obtain ⟨f, hf, e⟩ := h
          exact ⟨dtR f, (x3 _).2 (.inl (List.mem_map.2 ⟨f, hf, rfl⟩)), e⟩
        · refine ⟨x, (x3 _).2 (.inr ⟨hx, fun s hs e => ?_⟩), rfl⟩
          obtain ⟨f, hf, rfl⟩ := List.mem_map.1 hs
          exact h ⟨f, hf, e⟩
      · by_cases h : ∃ f ∈ F, f.key = y.key
        · obtain ⟨f, hf, e⟩ := h
          exact ⟨dtR f, (x3 _).2 (.inl (List.mem_map.2 ⟨f, hf, rfl⟩)), e⟩
        · have hx : ∃ x ∈ al, x.key = y.key := by
            apply Classical.byContradiction
            intro hn
            exact h ⟨y, (mF y).2 ⟨hy, fun x hx e => absurd ⟨x, hx, e⟩ hn⟩, rfl⟩
          obtain ⟨x, hx, e⟩ := hx
          refine ⟨x, (x3 _).2 (.inr ⟨hx, fun s hs e2 => ?_⟩), e⟩
          obtain ⟨f, hf, rfl⟩ := List.mem_map.1 hs
          exact h ⟨f, hf, e2.trans e⟩
  have kY : ∀ k, k ∈ Y.map RD.key ↔ (∃ x ∈ al, x.key = k) ∨ ∃ y ∈ bl, y.key = k := fun k => by
    rw [List.mem_map]
    constructor
    · rintro ⟨z, hz, rfl⟩
      rcases (y3 z).1 hz with h | ⟨h, -⟩
      · obtain ⟨f, hf, rfl⟩ := List.mem_map.1 h
        exact .inl ⟨f, ((mS f).1 hf).1, rfl⟩
      · exact .inr ⟨z, h, rfl⟩
    · rintro (⟨x, hx, rfl⟩ | ⟨y, hy, rfl⟩)
      · by_cases h : ∃ f ∈ S, f.key = x.key
        · obtain ⟨f, hf, e⟩ := h
          exact ⟨dtR f, (y3 _).2 (.inl (List.mem_map.2 ⟨f, hf, rfl⟩)), e⟩
        · have hy : ∃ y ∈ bl, y.key = x.key := by
            apply Classical.byContradiction
            intro hn
            exact h ⟨x, (mS x).2 ⟨hx, fun y hy e => absurd ⟨y, hy, e⟩ hn⟩, rfl⟩
          obtain ⟨y, hy, e⟩ := hy
          refine ⟨y, (y3 _).2 (.inr ⟨hy, fun s hs e2 => ?_⟩), e⟩
          obtain ⟨f, hf, rfl⟩ := List.mem_map.1 hs
          exact h ⟨f, hf, e2.trans e⟩
      · by_cases h : ∃ f ∈ S, f.key = y.key
        · obtain ⟨f, hf, e⟩ := h
          exact ⟨dtR f, (y3 _).2 (.inl (List.mem_map.2 ⟨f, hf, rfl⟩)), e⟩
        · refine ⟨y, (y3 _).2 (.inr ⟨hy, fun s hs e => ?_⟩), rfl⟩
          obtain ⟨f, hf, rfl⟩ := List.mem_map.1 hs
          exact h ⟨f, hf, e⟩
  have hkey : X.map RD.key = Y.map RD.key := rising_ext strictS x1 y1 fun k => (kX k).trans (kY k).symm
  have hlen : X.length = Y.length := by have := congrArg List.length hkey; simpa using this
  refine ⟨hlen, fun j hj => ?_⟩
  have hj2 : j < Y.length := by omega
  have ek : (X[j]).key = (Y[j]).key := by
    have h1 : (X.map RD.key)[j]? = some (X[j]).key := by rw [List.getElem?_map, List.getElem?_eq_getElem hj]; rfl
    have h2 : (Y.map RD.key)[j]? = some (Y[j]).key := by rw [List.getElem?_map, List.getElem?_eq_getElem hj2]; rfl
    rw [hkey, h2] at h1
    simpa using h1.symm
  rw [atD_lt hj, atD_lt hj2]
  have hX : X[j] ∈ X := List.getElem_mem _
  have hY : Y[j] ∈ Y := List.getElem_mem _
  generalize X[j] = z at *
  generalize Y[j] = z' at *
  rcases (x3 z).1 hX with h | ⟨h, hn⟩
  · obtain ⟨f, hf, rfl⟩ := List.mem_map.1 h
    obtain ⟨f1, f2⟩ := (mF f).1 hf
    rcases (y3 z').1 hY with h' | ⟨h', hn'⟩
    · obtain ⟨s, hs, rfl⟩ := List.mem_map.1 h'
      obtain ⟨s1, s2⟩ := (mS s).1 hs
      exfalso
      have e : f.key = s.key := ek
      have c1 := f2 s s1 e.symm
      have c2 := s2 f f1 e
      have := cmR_neg f s
      omega
    · have e : f.key = z'.key := ek
      have : f = z' := hb.one f1 h' e
      subst this
      exact sameR_dt f
  · rcases (y3 z').1 hY with h' | ⟨h', hn'⟩
    · obtain ⟨s, hs, rfl⟩ := List.mem_map.1 h'
      obtain ⟨s1, s2⟩ := (mS s).1 hs
      have e : z.key = s.key := ek
      have : z = s := ha.one h s1 e
      subst this
      exact sameR_dt2 z
    · refine hno z h z' h' ek ?_
      have c1 : ¬ cmR z z' < 0 := fun hc => by
        have : z' ∈ F := (mF z').2 ⟨h', fun x hx e => by rw [ha.one hx h (e.trans ek.symm)]; exact hc⟩
        exact hn (dtR z') (List.mem_map.2 ⟨z', this, rfl⟩) ek.symm
      have c2 : ¬ cmR z' z < 0 := fun hc => by
        have : z ∈ S := (mS z).2 ⟨h, fun y hy e => by rw [hb.one hy h' (e.trans ek)]; exact hc⟩
        exact hn' (dtR z) (List.mem_map.2 ⟨z, this, rfl⟩) ek
      have := cmR_neg z z'
      omega

end Go.Proofs.YtpdobbdbmgeoiaaGreat

namespace Go.Proofs.YtpdobbdbmgeoiaaGreat
open Go.RowKit

theorem tkR_list (L : List RD) : tkR (atD L) L.length = L := by
  unfold tkR
  apply List.ext_getElem
  · simp
  · intro i h1 h2
    rw [List.getElem_map, List.getElem_range, atD_lt h2]

/-- A table's box, stored into again. -/
abbrev boxed (w : World) (U : Nat) (v : Value) : World := (w.setCell ⟨U, 0, none⟩ (.int .i64 64)).setCell ⟨U, 1, none⟩ v

theorem box_cell {w : World} {U : Nat} {s v : Value} {t : TypeId} (hU : w.heap[U]? = some (.cells #[.int .i64 64, s] t (0, 0))) {b o : Nat} {u : Value} (h : w.cell? ⟨b, o, none⟩ = some u) (hn : ¬ (b = U ∧ o = 1)) : (boxed w U v).cell? ⟨b, o, none⟩ = some u := by
  by_cases hb : b = U
  · subst hb
    have h2 := two_setD hU (.int .i64 64) v
    obtain ⟨⟨c0, -⟩, -⟩ := twoE h2
    obtain ⟨⟨d0, -⟩, -⟩ := twoE hU
    match o, h, hn with
    | 0, h, _ => rw [d0] at h; rw [c0]; exact h
    | 1, _, hn => exact absurd ⟨rfl, rfl⟩ hn
    | o + 2, h, _ => simp [World.cell?, hU] at h
  · have e : (boxed w U v).heap[b]? = w.heap[b]? := (Below.heap_setCell _ _ _ _ (by show b ≠ U; exact hb)).trans (Below.heap_setCell _ _ _ _ (by show b ≠ U; exact hb))
    rw [← h]
    show (match (boxed w U v).heap[b]? with | _ => _) = _
    simp only [World.cell?, e]

theorem box_cell2 {w : World} {U : Nat} {a : Option Addr} {l c : Nat} {v : Value} {t : TypeId} (hU : w.heap[U]? = some (.cells #[.int .i64 64, .slice a l c] t (0, 0))) {b o : Nat} {u : Value} (h : w.cell? ⟨b, o, none⟩ = some u) (hn : ∀ a l c, u ≠ .slice a l c) : (boxed w U v).cell? ⟨b, o, none⟩ = some u := by
  refine box_cell hU h ?_
  rintro ⟨rfl, rfl⟩
  obtain ⟨⟨-, d1⟩, -⟩ := twoE hU
  rw [d1] at h
  exact hn a l c (by simpa using h.symm)

theorem boxed_size (w : World) (U : Nat) (v : Value) : (boxed w U v).heap.size = w.heap.size := by simp [boxed]

section
variable {w : World} {U : Nat} {a : Option Addr} {l c : Nat} {v : Value} {t : TypeId} {G : Nat → Prop}
theorem ReadsG.box {x : Option Addr} {n : Nat} {z : Nat → Int} (hU : w.heap[U]? = some (.cells #[.int .i64 64, .slice a l c] t (0, 0))) (h : ReadsG G w x n z) : ReadsG G (boxed w U v) x n z := by
  refine ⟨h.1, h.2.imp id ?_⟩
  rintro ⟨b, off, rfl, hg, hc⟩
  exact ⟨b, off, rfl, hg, fun j hj => box_cell2 hU (hc j hj) (fun _ _ _ e => by cases e)⟩
theorem ReadsAG.box {x : Option Addr} {n : Nat} {A : Nat → AD} (hU : w.heap[U]? = some (.cells #[.int .i64 64, .slice a l c] t (0, 0))) (h : ReadsAG G w x n A) : ReadsAG G (boxed w U v) x n A := by
  refine ⟨h.1, h.2.imp id ?_⟩
  rintro ⟨b, off, rfl, hg, hc⟩
  refine ⟨b, off, rfl, hg, fun j hj => ?_⟩
  obtain ⟨y, d, ⟨h0, h1, h2, h3, h4⟩, hr⟩ := hc j hj
  refine ⟨y, d, ⟨box_cell2 hU h0 (fun _ _ _ e => by cases e), box_cell2 hU h1 (fun _ _ _ e => by cases e), box_cell2 hU h2 (fun _ _ _ e => by cases e), box_cell2 hU h3 (fun _ _ _ e => by cases e), box_cell hU h4 (by omega)⟩, ReadsG.box hU hr⟩
theorem ReadsRG.box {x : Option Addr} {n : Nat} {R : Nat → RD} (hU : w.heap[U]? = some (.cells #[.int .i64 64, .slice a l c] t (0, 0))) (h : ReadsRG G w x n R) : ReadsRG G (boxed w U v) x n R := by
  refine ⟨h.1, h.2.imp id ?_⟩
  rintro ⟨b, off, rfl, hg, hc⟩
  refine ⟨b, off, rfl, hg, fun j hj => ?_⟩
  obtain ⟨y, d, ⟨h0, h1, h2, h3, h4, h5⟩, hr⟩ := hc j hj
  refine ⟨y, d, ⟨box_cell2 hU h0 (fun _ _ _ e => by cases e), box_cell2 hU h1 (fun _ _ _ e => by cases e), box_cell2 hU h2 (fun _ _ _ e => by cases e), box_cell2 hU h3 (fun _ _ _ e => by cases e), box_cell2 hU h4 (fun _ _ _ e => by cases e), box_cell hU h5 (by omega)⟩, ReadsAG.box hU hr⟩
end

/-- A table in its box. -/
def TabK (w : World) (U : Nat) (a : Option Addr) (c : Nat) (T : List RTd) : Prop :=
  w.heap[U]? = some (.cells #[.int .i64 64, .slice a T.length c] 30 (0, 0)) ∧ RowsQ (fun q => q < w.heap.size) w a T ∧ (a = none → c = 0) ∧ T.length ≤ c ∧ ∀ b off, a = some ⟨b, off, none⟩ → b < w.heap.size ∧ b ≠ U

theorem OwnQ.block {G : Nat → Prop} {w : World} {B : Nat} {a : Option Addr} {l c : Nat} {T : List RTd} (h : OwnQ G w B (.slice a l c) T) : ∀ b off, a = some ⟨b, off, none⟩ → B ≤ b ∧ b < w.heap.size := fun b off e => by
  subst e
  exact h.1.lt b rfl

/-- A new table. -/
theorem TabK.new {G : Nat → Prop} {w W : World} {B U : Nat} {a : Option Addr} {c : Nat} {T : List RTd} (h : OwnQ G w B (.slice a T.length c) T) (hG : ∀ q, G q → q < w.heap.size) (hb : Below w.heap.size w W) (hU : W.heap[U]? = some (.cells #[.int .i64 64, .slice a T.length c] 30 (0, 0))) (hw : w.heap.size ≤ U) : TabK W U a c T := by
  obtain ⟨h1, h2, h3⟩ := h.rows
  have hz := hb.size
  have h4 : RowsQ G W a T := h1.kept (keptNew hb) (fun _ _ h => h) (fun _ _ _ h => h)
  exact ⟨hU, ⟨h4.1, fun t ht => (h4.2 t ht).mono (fun q hq _ => by have := hG q hq; omega)⟩, h2, h3, fun b off e => by have := (h.block b off e).2; omega⟩

theorem TabK.below {w w' : World} {U : Nat} {a : Option Addr} {c : Nat} {T : List RTd} (h : TabK w U a c T) (hb : Below w.heap.size w w') : TabK w' U a c T := by
  obtain ⟨h1, h2, h3, h4, h5⟩ := h
  have hz := hb.size
  have h6 : RowsQ (fun q => q < w.heap.size) w' a T := h2.kept (keptNew hb) (fun _ _ h => h) (fun _ _ _ h => h)
  exact ⟨(hb.block _ (lt_of_block h1)).trans h1, ⟨h6.1, fun t ht => (h6.2 t ht).mono (fun q hq _ => by omega)⟩, h3, h4, fun b off e => by have := h5 b off e; exact ⟨by omega, this.2⟩⟩

/-- Another one's box is stored into. -/
theorem TabK.other {w : World} {U V : Nat} {a : Option Addr} {c : Nat} {T : List RTd} {l d : Nat} {a' : Option Addr} {v : Value} {t : TypeId} (h : TabK w U a c T) (hV : w.heap[V]? = some (.cells #[.int .i64 64, .slice a' l d] t (0, 0))) (hne : U ≠ V) (hbV : ∀ b off, a = some ⟨b, off, none⟩ → b ≠ V) : TabK (boxed w V v) U a c T := by
  obtain ⟨h1, h2, h3, h4, h5⟩ := h
  refine ⟨(Below.heap_setCell _ _ _ _ (by show U ≠ V; exact hne)).trans ((Below.heap_setCell _ _ _ _ (by show U ≠ V; exact hne)).trans h1), ⟨h2.1.imp id ?_, fun t ht => ?_⟩, h3, h4, fun b off e => by rw [boxed_size]; exact h5 b off e⟩
  · rintro ⟨b, off, rfl, hc⟩
    exact ⟨b, off, rfl, fun j u hj => box_cell hV (hc j u hj) (fun e => hbV b off rfl e.1)⟩
  · rw [boxed_size]
    exact (h2.2 t ht).box hV

/-- What Put has answered is stored. -/
theorem TabK.put {w w' : World} {U : Nat} {a a' : Option Addr} {c c' : Nat} {T T' : List RTd} (h : TabK w U a c T) (hb : Below w.heap.size w w') (ho : OwnQ (fun q => q < w.heap.size) w' w.heap.size (.slice a' T'.length c') T') : TabK (boxed w' U (.slice a' T'.length c')) U a' c' T' := by
  have hU := (h.below hb).1
  obtain ⟨g1, g2, g3⟩ := ho.rows
  have hz := hb.size
  have hlt : U < w.heap.size := lt_of_block h.1
  refine ⟨two_setD hU _ _, ⟨g1.1.imp id ?_, fun t ht => ?_⟩, g2, g3, fun b off e => ?_⟩
  · rintro ⟨b, off, rfl, hc⟩
    refine ⟨b, off, rfl, fun j u hj => box_cell hU (hc j u hj) (fun e => ?_)⟩
    have := (ho.block b off rfl).1
    omega
  · exact ((g1.2 t ht).mono (fun q hq _ => by rw [boxed_size]; omega)).box hU
  · have := ho.block b off e
    rw [boxed_size]
    omega

/-- What a table reads as. -/
theorem TabK.reads {w : World} {U : Nat} {a : Option Addr} {c : Nat} {T : List RTd} (h : TabK w U a c T) (hn : T.length ≤ 1000) : ReadsR w a T.length (atD (T.map (·.1))) := by
  obtain ⟨h1, h2, h3, h4, h5⟩ := h
  refine ⟨by unfold maxLen; omega, ?_⟩
  rcases h2.1 with ⟨-, rfl⟩ | ⟨b, off, rfl, hc⟩
  · exact .inl rfl
  · refine .inr ⟨b, off, rfl, (h5 b off rfl).1, fun j hj => ?_⟩
    have e : atD (T.map (·.1)) j = T[j].1 := by rw [atD_lt (by rw [List.length_map]; exact hj), List.getElem_map]
    have hcc : ∀ i u, i < 6 → (sixD T[j])[i]? = some u → w.cell? ⟨b, off + j * 6 + i, none⟩ = some u := fun i u hi hu => by
      rw [Nat.add_assoc]
      exact hc _ u (by rw [flat_at (m := 6) (fun t => rfl) T hj hi]; exact hu)
    rw [e]
    exact ⟨T[j].2.1, T[j].2.2, ⟨hcc 0 _ (by omega) rfl, hcc 1 _ (by omega) rfl, hcc 2 _ (by omega) rfl, hcc 3 _ (by omega) rfl, hcc 4 _ (by omega) rfl, hcc 5 _ (by omega) rfl⟩, h2.2 _ (List.getElem_mem hj)⟩

set_option maxHeartbeats 8000000 in
set_option maxRecDepth 100000 in
theorem ofRowsO_any (a : Option Addr) (n c : Nat) (R : Nat → RD) (hL : ∀ j, j < n → (R j).len ≤ 1000) (hn : n ≤ 100) (w : World) (h : ReadsR w a n R) :
    Calls Tryz.prog 25 #[.slice a n c] w fun e w' => (∃ a c T, e = .returned (.slice a n c) ∧ T.length = n ∧ T.map (·.1) = tkR R n ∧ OwnQ (fun q => q < w'.heap.size) w' w.heap.size (.slice a n c) T) ∧ Below w.heap.size w w' := by
  obtain ⟨i0, hi, hz0, hz1, hz2⟩ := info_parts rowInfo
  have und : Tryz.prog.underlying 28 = some (.slice 44) := Tryz.underlying28
  have H := Lib.hid h
  have HL := Lib.hid hL
  clear h hL
  go_enter Tryz.func25, Tryz.ntmps25
  go_wp2_with fail
  go_loopw [3, 4] (fun v i wr => ∃ (k : Nat) (va : Option Addr) (vc : Nat) (T : List (RD × Option Addr × Nat)), v = .slice va k vc ∧ i = .int .i64 k ∧ k ≤ n ∧ T.length = k ∧ Hid (T.map (·.1) = tkR R k) ∧ Hid (wr.ownsRow w.heap.size 44 6 (.slice va k vc) k (T.flatMap rowT)) ∧ Hid (∀ t ∈ T, ∀ w3, Kept (fun b => (Value.slice va k vc).ownBlock = some b) wr w3 → ReadsA w3 t.2.1 t.1.len t.1.A) ∧ Hid (Below w.heap.size w wr)) (fun _ i _ => n - (intOf i).toNat)
  case atStart => exact ⟨0, none, 0, [], rfl, rfl, Nat.zero_le _, rfl, Lib.hid rfl, Lib.hid (World.ownsRow_nil _ _ _ _), Lib.hid (fun t ht => by simp at ht), Lib.hid (Below.refl _ _)⟩
  case round =>
    obtain ⟨k, va, vc, T, rfl, rfl, hk, hTl, hM, hO, hL, hB⟩ := hrel
    by_cases hlt : k < n
    · obtain ⟨b, off, y, ce, hab, -, h6, hy⟩ := H.out.cells hlt
      subst hab
      have h6r := h6.keptS (keptNew hB.out) (fun h => h)
      have C := Lib.hid (ofR0_any (R k) y ce (HL.out k hlt) w wr hy.plain hB.out)
      have hnx : tkR R k ++ [R k] = tkR R (k + 1) := (tkR_succ R k).symm
      obtain ⟨x, hx⟩ : ∃ x, R k = x := ⟨_, rfl⟩
      rw [hx] at h6r C hnx
      have NX := Lib.hid hnx
      obtain ⟨p0, p1, p2, p3, p4, p5⟩ := h6r
      have hz := hB.out.size
      clear hx hnx hy h6
      go_wp2_with fail
      refine C.out.mono ?_
      rintro e w2 ⟨⟨y2, c2, rfl, hr2⟩, hb⟩
      have B2 := Lib.hid (hB.out.trans (hb.mono hz))
      have O2 := Lib.hid (owns_below hO.out hb)
      have hsz := hb.size
      have OLt := Lib.hid (fun q hq => hO.out.lt q hq)
      have A2 := Lib.hid hr2
      have KB := Lib.hid (keptNew hb)
      have OA := Lib.hid (show (w2.alloc (.cells #[.string x.key, .int .i64 x.t, .int .i64 x.i, .int .i64 x.q, .string x.o, .slice y2 x.len c2] 44)).ownsRow w.heap.size 44 6 (.slice va k vc) k (T.flatMap rowT) from World.ownsRow.alloc O2.out _)
      have NA := Lib.hid (news6_at w2 x y2 c2)
      have BA := Lib.hid (show w.heap.size ≤ (w2.alloc (.cells #[.string x.key, .int .i64 x.t, .int .i64 x.i, .int .i64 x.q, .string x.o, .slice y2 x.len c2] 44)).heap.size by rw [World.size_alloc]; omega)
      clear hb hr2 p0 p1 p2 p3 p4 p5 C O2
      go_wp2_with (at_builtin; refine wpList_append_new rfl _ _ 28 rfl (base := w.heap.size) und hi hz0 hz1 hz2 rfl (by decide) (.slice va k vc) k 1 1 ⟨w2.heap.size, 0, none⟩ (T.flatMap rowT) (sixC x y2 c2) rfl rfl OA.out rfl NA.out (sixC_one _ _ _) (by unfold maxLen; omega) (by omega) BA.out ?_)
      intro v6 w6 ho hg hq6
      obtain ⟨va6, c6, rfl⟩ := own_rowG ho
      have ko : Kept (fun b => (Value.slice va k vc).ownBlock = some b) w2 w6 := ((Kept.refl _ w2).alloc _).grown hg (fun q hq => .inl hq)
      have B6 := Lib.hid (B2.out.trans (ko.below (fun q hq => (OLt.out q hq).1) B2.out.size))
      have hs6 : w2.heap.size ≤ w6.heap.size := ko.size
      have KO := Lib.hid (show Kept (fun b => (Value.slice va k vc).ownBlock = some b) wr w6 from (KB.out.mono (fun _ h _ => h.elim)).trans ko (fun i hi _ => hi))
      have K2 := Lib.hid ko
      have HQ := Lib.hid (show ∀ q, (Value.slice va6 (k + 1) c6).ownBlock = some q → (Value.slice va k vc).ownBlock = some q ∨ w2.heap.size ≤ q from fun q hq => (hq6 q hq).imp id (fun h => by omega))
      have L6 := Lib.hid (show ∀ t ∈ T ++ [(x, y2, c2)], ∀ w3, Kept (fun b => (Value.slice va6 (k + 1) c6).ownBlock = some b) w6 w3 → ReadsA w3 t.2.1 t.1.len t.1.A from fun t ht w3 k3 => by
        rcases List.mem_append.1 ht with ht | ht
        · exact hL.out t ht w3 (KO.out.trans k3 (fun i hi hlt => (HQ.out i hi).elim id (fun h => by omega)))
        · rw [List.mem_singleton] at ht
          subst ht
          refine A2.out w3 (((K2.out.mono (T := fun b => w.heap.size ≤ b ∧ b < wr.heap.size) (fun b hb _ => OLt.out b hb)).trans k3 (fun i hi hlt => ?_)))
          rcases HQ.out i hi with h | h
          · exact OLt.out i h
          · omega)
      have O6 := Lib.hid (show w6.ownsRow w.heap.size 44 6 (.slice va6 (k + 1) c6) (k + 1) ((T ++ [(x, y2, c2)]).flatMap rowT) by rw [List.flatMap_append]; exact ho)
      have M6 := Lib.hid (show (T ++ [(x, y2, c2)]).map (·.1) = tkR R (k + 1) by rw [← NX.out, List.map_append, hM.out]; rfl)
      clear ho hg hq6 ko OA NA BA OLt A2 KB KO K2 HQ NX hM hO hL hB B2
      go_wp2_with fail
      go_roundw
      case rel => exact ⟨k + 1, va6, c6, T ++ [(x, y2, c2)], rfl, by go_num, by omega, by rw [List.length_append, hTl]; rfl, M6, O6, L6, B6⟩
      case measure => simp [intOf]; omega
    · obtain rfl : k = n := by omega
      have P := Lib.hid (show (∃ a c T', Ending.returned (.slice va k vc) = .returned (.slice a k c) ∧ T'.length = k ∧ T'.map (·.1) = tkR R k ∧ OwnQ (fun q => q < wr.heap.size) wr w.heap.size (.slice a k c) T') ∧ Below w.heap.size w wr from
        ⟨⟨va, vc, T, rfl, hTl, hM.out, by rw [hTl]; exact hO.out, fun t ht => ReadsAG.of (hL.out t ht wr (Kept.refl _ _))⟩, hB.out⟩)
      go_wp2_with fail
      go_ret
      exact P.out

end Go.Proofs.YtpdobbdbmgeoiaaGreat
