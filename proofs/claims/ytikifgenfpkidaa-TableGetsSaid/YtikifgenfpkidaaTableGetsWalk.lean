/-
  No statement: TableGets' walk.
-/
import Derived.Test.YtikifgenfpkidaaTbKnown
import Derived.Test.YtikifgenfpkidaaTbM2
import Derived.Test.YtikifgenfpkidaaTbRowOf
import Derived.Test.YtikifgenfpkidaaTbCmp
set_option linter.unusedVariables false
set_option linter.unusedSimpArgs false
namespace Go.Proofs.Ytikifgenfpkidaa
open Go.RowKit

theorem few_bound {x : RD} (h : FewR x) : BoundR x := ⟨⟨Nat.le_trans h.k (by omega), Nat.le_trans h.o (by omega), fun j hj => ⟨Nat.le_trans (h.f j hj).1 (by omega), Nat.le_trans (h.f j hj).2.1 (by omega)⟩⟩, fun j hj => Nat.le_trans (h.f j hj).2.2 (by omega)⟩

/-- A table on its way: made since W. -/
def TS (W w : World) (p : Nat) (L : List RD) : Prop := ∃ F, Tab w p 64 F (fun _ => False) L ∧ (∀ k, F k → W.heap.size ≤ k) ∧ Below W.heap.size W w

theorem TS.below {W w w' : World} {p : Nat} {L : List RD} (h : TS W w p L) (hb : Below w.heap.size w w') : TS W w' p L := by
  obtain ⟨F, h1, h2, h3⟩ := h
  exact ⟨F, h1.below hb, h2, h3.trans (hb.mono h3.size)⟩
theorem TS.bel {W w : World} {p : Nat} {L : List RD} (h : TS W w p L) : Below W.heap.size W w := by
  obtain ⟨F, h1, h2, h3⟩ := h
  exact h3
theorem TS.rise {W w : World} {p : Nat} {L : List RD} (h : TS W w p L) : Rising lsS (kyR L) := by
  obtain ⟨F, h1, h2, h3⟩ := h
  exact h1.rise

/-- A row of old memory is put. -/
theorem TS.put {W w : World} {p : Nat} {L : List RD} (h : TS W w p L) (hn : L.length ≤ 1000) (r : RD) (a : Option Addr) (c : Nat) (hB : BoundR r) (hr : ReadsAG (fun k => k < W.heap.size) W a r.len r.A) :
    Calls Try.prog 13 #[.pointer (some ⟨p, 0, none⟩), .agg #[.string r.key, .int .i64 r.t, .int .i64 r.i, .int .i64 r.q, .string r.o, .slice a r.len c]] w fun e w' => e = .returned (.int .i64 (putX 64 L r).1) ∧ TS W w' p (putX 64 L r).2 := by
  obtain ⟨F, h1, h2, h3⟩ := h
  refine (put_any w p 64 F _ L r a c (by unfold In64; omega) (by omega) hn hB h1 (((ReadsAG.kept (G := fun k => k < W.heap.size) hr (keptBelow h3) (fun k hk h => by omega))).mono (fun k hk _ hf => by rcases hf with hf | hf; have := h2 k hf; omega; exact hf))).mono ?_
  rintro e w' ⟨he, ht⟩
  exact ⟨he, below_turn h3 h2 ht⟩

theorem TS.get {W w : World} {p : Nat} {L : List RD} (h : TS W w p L) (hn : L.length ≤ 1000) (hF : Fix L) (k : ByteArray) :
    Calls Try.prog 16 #[.pointer (some ⟨p, 0, none⟩), .string k] w fun e w' => (∃ b d, e = .returned (.tuple #[rowV (getZ L k) b d, .bool (isT L k)]) ∧ ReadsAG (fun q => w.heap.size ≤ q) w' b (getZ L k).len (getZ L k).A) ∧ Below w.heap.size w w' := by
  obtain ⟨F, h1, h2, h3⟩ := h
  exact get_any w p 64 F _ L k hn hF h1

theorem TS.rows {W w : World} {p : Nat} {L : List RD} (h : TS W w p L) (hn : L.length ≤ 1000) (hF : Fix L) :
    Calls Try.prog 14 #[.pointer (some ⟨p, 0, none⟩)] w (RowsPost w L) := by
  obtain ⟨F, h1, h2, h3⟩ := h
  exact rows_any w p 64 F _ L hn hF h1

theorem gets_math {L L2 : List RD} {x : RD} {E : Int} (hr : Rising lsS (kyR L)) (hl : L.length ≤ 40) (h : putX 64 L x = (E, L2)) :
    (E ≠ 0 ∧ L2 = L) ∨ (E = 0 ∧ isT L2 x.key = true ∧ getZ L2 x.key = twR x ∧ (isT L x.key = true → newR x (getZ L x.key) = true) ∧
      ∀ j, j < L.length → isT L2 (atL L j).key = true ∧ ((atL L j).key ≠ x.key → getZ L2 (atL L j).key = atL L j)) := by
  have hc := putX_cases 64 L x
  rw [h] at hc
  rcases hc with ⟨h1, h2⟩ | ⟨h1, he, hN, h2⟩
  · exact .inl ⟨h1, h2⟩
  · have h3 : L2 = putT L (twR x) := by
      rcases h2 with h2 | ⟨k, _, _, h2⟩
      · exact h2
      · omega
    have hr2 : Rising lsS (kyR L2) := by rw [h3]; exact rise_putT hr _
    have hm : ∀ y ∈ L2, isT L2 y.key = true ∧ getZ L2 y.key = y := fun y hy => by
      unfold isT getZ
      rw [getT_mem hr2 hy]
      exact ⟨rfl, rfl⟩
    have hx : twR x ∈ L2 := by rw [h3]; exact mem_putT_self hr _
    have hx2 := hm _ hx
    refine .inr ⟨h1, hx2.1, hx2.2, fun hi => ?_, fun j hj => ?_⟩
    · unfold isT getZ at *
      cases hg : getT L x.key with
      | none => rw [hg] at hi; cases hi
      | some y => exact hN y hg
    · rw [atL_lt hj]
      by_cases hk : (L[j]).key = x.key
      · refine ⟨?_, fun hne => absurd hk hne⟩
        rw [hk]; exact hx2.1
      · have hmem : L[j] ∈ L2 := by rw [h3]; exact mem_putT_other hr _ (List.getElem_mem hj) hk
        exact ⟨(hm _ hmem).1, fun _ => (hm _ hmem).2⟩

theorem getZ_inv {L : List RD} (hI : InvL L) (k : ByteArray) : twR (getZ L k) = getZ L k ∧ (getZ L k).len ≤ 1000000 := by
  cases h : isT L k with
  | false => rw [getZ_no h]; exact ⟨rfl, Nat.zero_le _⟩
  | true =>
    have := getZ_fix hI.fix k h
    exact ⟨this.2, by have := this.1.1; omega⟩

theorem getZ_short {L : List RD} (hI : InvL L) (k : ByteArray) : (getZ L k).len ≤ 1000 := by
  cases h : isT L k with
  | false => rw [getZ_no h]; exact Nat.zero_le _
  | true => exact (getZ_fix hI.fix k h).1.1

theorem sameOk_any (x y : RD) (a1 a2 : Option Addr) (c1 c2 : Nat) (hn : x.len ≤ 1000000) (hs : sameR x y = true) (w : World) (h1 : ReadsA w a1 x.len x.A) (h2 : ReadsA w a2 y.len y.A) :
    Calls Try.prog 15 #[.agg #[.string x.key, .int .i64 x.t, .int .i64 x.i, .int .i64 x.q, .string x.o, .slice a1 x.len c1], .agg #[.string y.key, .int .i64 y.t, .int .i64 y.i, .int .i64 y.q, .string y.o, .slice a2 y.len c2]] w fun e w' => e = .returned (.bool true) ∧ Below w.heap.size w w' := by
  have := rowSame_any x y a1 a2 c1 c2 hn w h1 h2
  rw [hs] at this
  exact this

/-- What is there behind the put. -/
def GG (W V : World) (B3 B9 B12 p : Nat) (x Y Z : RD) (a1 : Option Addr) (c1 : Nat) (b : Option Addr) (d : Nat) (b2 : Option Addr) (d2 : Nat) (L L2 : List RD) (wa : Option Addr) : Prop :=
  Below W.heap.size W V ∧ (∃ F, Tab V p 64 F (fun _ => False) L2) ∧ (V.heap[B3]? = some (rowO x a1 c1) ∧ V.heap[B9]? = some (rowO Y b d) ∧ V.heap[B12]? = some (rowO Z b2 d2)) ∧
    (ReadsA V a1 x.len x.A ∧ ReadsA V b Y.len Y.A ∧ ReadsA V b2 Z.len Z.A) ∧ ReadsR V wa L.length (atL L)

theorem GG.below {W V V' : World} {B3 B9 B12 p : Nat} {x Y Z : RD} {a1 b b2 wa : Option Addr} {c1 d d2 : Nat} {L L2 : List RD} (h : GG W V B3 B9 B12 p x Y Z a1 c1 b d b2 d2 L L2 wa) (hb : Below V.heap.size V V') : GG W V' B3 B9 B12 p x Y Z a1 c1 b d b2 d2 L L2 wa := by
  obtain ⟨g1, ⟨F, g2⟩, ⟨g3, g4, g5⟩, ⟨g6, g7, g8⟩, g9⟩ := h
  exact ⟨g1.trans (hb.mono g1.size), ⟨F, g2.below hb⟩, ⟨(hb.block _ (lt_of_block g3)).trans g3, (hb.block _ (lt_of_block g4)).trans g4, (hb.block _ (lt_of_block g5)).trans g5⟩, ⟨g6.kept hb, g7.kept hb, g8.kept hb⟩, g9.below hb⟩

theorem field_rst (k : ByteArray) (t i q : Int) (o : ByteArray) (a : Option Addr) (n c : Nat) (w : World) : (Instr.field 34 (.agg #[.string k, .int .i64 t, .int .i64 i, .int .i64 q, .string o, .slice a n c]) 1).run Try.prog w = .ok (.agg #[.int .i64 t, .int .i64 i, .int .i64 q, .string o]) w := by
  simp [Instr.field, go_sem, asAgg]

set_option maxHeartbeats 16000000 in
set_option maxRecDepth 100000 in
theorem tableGets_walk (a : Option Addr) (n c : Nat) (R : Nat → RD) (x : RD) (a1 : Option Addr) (c1 : Nat) (g : ∀ j, j < n → GoR (R j)) (g1 : GoR x) (w : World) (hr : ReadsR w a n R) (h1 : ReadsA w a1 x.len x.A) :
    Calls Try.prog 6 #[.slice a n c, .agg #[.string x.key, .int .i64 x.t, .int .i64 x.i, .int .i64 x.q, .string x.o, .slice a1 x.len c1]] w fun e w' => e = .returned (.bool true) ∧ Below w.heap.size w w' := by
  have FR := Lib.hid (p := ∀ w', Below w.heap.size w w' → _) (fun w' hb => fewRows_any a n c R g w' (hr.below hb))
  have F1 := Lib.hid (p := ∀ w', Below w.heap.size w w' → _) (fun w' hb => few_any x a1 c1 g1.k g1.o g1.s w' (h1.kept hb))
  have HR := Lib.hid hr
  have HA := Lib.hid h1
  have HFB := Lib.hid (p := fewRs n R = true → n ≤ 70 ∧ ∀ j, j < n → BoundR (R j)) (fun h => ⟨(fewRs_all g h).1, fun j hj => few_bound ((fewRs_all g h).2 j hj)⟩)
  have HF1 := Lib.hid (p := fewR x = true → BoundR x ∧ x.len ≤ 40) (fun h => by
    obtain ⟨f1, f2, f3, f4⟩ := fewR_all h
    exact ⟨few_bound ⟨f1, f2, g1.t, g1.i, g1.q, g1.n, f4, f3⟩, f3⟩)
  obtain ⟨q1, hq1⟩ : ∃ q, fewRs n R = q := ⟨_, rfl⟩
  obtain ⟨q2, hq2⟩ : ∃ q, fewR x = q := ⟨_, rfl⟩
  rw [hq1] at FR HFB
  rw [hq2] at F1 HF1
  have hnm : n ≤ 9223372036854775807 := hr.1
  clear hr h1 g g1 hq1 hq2
  go_enter Try.func6, Try.ntmps6
  go_upto_region 1 with fail
  generalize hW : World.alloc w _ = W
  have hb : Below w.heap.size w W := by rw [← hW]; exact (Below.refl _ _).alloc (Nat.le_refl _) _
  have h0 : W.heap[w.heap.size]? = some (rowO x a1 c1) := by rw [← hW]; exact heap_alloc_new w _
  have BW := Lib.hid hb
  have X0 := Lib.hid h0
  clear hW hb h0
  go_wp2_with fail
  refine (known_any W).mono ?_
  rintro e w1 ⟨rfl, hb⟩
  have B1 := Lib.hid hb
  have hzW := BW.out.size
  have hz1 := hb.size
  clear hb
  have BA1 := Lib.hid (BW.out.trans (B1.out.mono hzW))
  go_wp2_with fail
  refine (FR.out w1 BA1.out).mono ?_
  rintro e w2 ⟨rfl, hb⟩
  have B2 := Lib.hid (B1.out.trans (hb.mono hz1))
  have hz2 := hb.size
  clear hb FR
  cases q1 with
  | false =>
    go_wp2_with fail
    go_ret
    exact ⟨rfl, BW.out.trans (B2.out.mono hzW)⟩
  | true =>
  obtain ⟨hn70, HBR⟩ := HFB.out (by trivial)
  have HBR' := Lib.hid HBR
  clear HBR HFB
  by_cases h40 : 40 < n
  · have d1 : decide ((40 : Int) < (n : Int)) = true := decide_eq_true (by omega)
    go_wp2_with fail
    go_ret
    exact ⟨rfl, BW.out.trans (B2.out.mono hzW)⟩
  have d1 : decide ((40 : Int) < (n : Int)) = false := decide_eq_false (by omega)
  have X2 := Lib.hid ((B2.out.block _ (lt_of_block X0.out)).trans X0.out)
  obtain ⟨⟨x0, x1, x2, x3, x4, x5⟩, -⟩ := six X2.out
  go_wp2_with fail
  refine (F1.out w2 (BW.out.trans (B2.out.mono hzW))).mono ?_
  rintro e w3 ⟨rfl, hb⟩
  have B3 := Lib.hid (B2.out.trans (hb.mono (by omega)))
  clear hb F1 x0 x1 x2 x3 x4 x5 X2
  cases q2 with
  | false =>
    go_wp2_with fail
    go_ret
    exact ⟨rfl, BW.out.trans (B3.out.mono hzW)⟩
  | true =>
  obtain ⟨hbx0, hxl⟩ := HF1.out (by trivial)
  have HBX := Lib.hid hbx0
  clear hbx0
  clear HF1
  go_wp2_with fail
  refine (new_any w3 64 (by omega) (by omega)).mono ?_
  rintro e w4 ⟨p, rfl, F4, hT, hF, hb⟩
  have hz3 := B3.out.size
  have T4 : Hid (TS W w4 p []) := Lib.hid ⟨F4, hT.more (Kept.refl _ _) (fun k h => h.elim), fun k hk => by have := hF k hk; omega, B3.out.trans (hb.mono hz3)⟩
  clear hT hF hb
  go_wp2_with fail
  go_loopw [7] (fun iv wr => ∃ (k : Nat) (L : List RD), iv = .int .i64 k ∧ k ≤ n ∧ L.length ≤ k ∧ Hid (InvL L) ∧ Hid (TS W wr p L)) (fun iv _ => n - (intOf iv).toNat)
  case atStart => exact ⟨0, [], rfl, Nat.zero_le _, Nat.le_refl _, Lib.hid (fun y hy => by cases hy), T4⟩
  case round =>
    obtain ⟨k, L, rfl, hk, hLk, hI, T5⟩ := hrel
    clear T4
    by_cases hlt : k < n
    · have e1 : (k : Int) < (n : Int) := by omega
      obtain ⟨b, off, y, cy, rfl, hbw, h6, hry⟩ := HR.out.cells hlt
      have HP := Lib.hid (T5.out.put (by omega) (R k) y cy (HBR'.out k hlt) ((ReadsAG.kept (G := fun k => k < w.heap.size) hry (keptBelow BW.out) (fun k hk h => by omega)).mono (fun k hk _ => by omega)))
      have HIV := Lib.hid (putX_inv (most := 64) hI.out (HBR'.out k hlt))
      have hl2 := putX_len 64 L (R k)
      obtain ⟨r, hrr⟩ : ∃ r, R k = r := ⟨_, rfl⟩
      rw [hrr] at HP HIV hl2 h6
      obtain ⟨⟨E, L2⟩, hE⟩ : ∃ q, putX 64 L r = q := ⟨_, rfl⟩
      rw [hE] at HP HIV hl2
      obtain ⟨x0, x1, x2, x3, x4, x5⟩ := (h6.keptS (keptBelow (BW.out.trans (T5.out.bel.mono hzW))) (by omega) : Cells6 wr b (off + k * 6) r y cy)
      clear hrr hE h6 hry
      go_wp2_with fail
      refine HP.out.mono ?_
      rintro e w6 ⟨rfl, ht⟩
      have T6 := Lib.hid ht
      clear ht HP x0 x1 x2 x3 x4 x5
      go_wp2_with fail
      go_roundw
      case rel => exact ⟨k + 1, L2, by go_num, by omega, by have h9 : L2.length ≤ L.length + 1 := hl2; omega, HIV, T6⟩
      case measure => simp [intOf]; omega
    · obtain rfl : k = n := by omega
      have HFX := Lib.hid hI.out.fix
      obtain ⟨F, hT, hF, hB⟩ := T5.out
      have TT := Lib.hid (And.intro hT (And.intro hF hB))
      clear hT hF hB
      go_wp2_with fail
      refine (rows_any wr p 64 F _ L (by omega) HFX.out TT.out.1).mono ?_
      rintro e w6 ⟨⟨wa, wcap, rfl, hw⟩, hb⟩
      have T6 := Lib.hid (And.intro (TT.out.1.below hb) (TT.out.2.2.trans (hb.mono TT.out.2.2.size)))
      have R6 := Lib.hid hw
      have LT := Lib.hid TT.out.1.lt
      have hz6 := hb.size
      have hzr := TT.out.2.2.size
      clear hb hw
      have X6 := Lib.hid ((T6.out.2.block _ (lt_of_block X0.out)).trans X0.out)
      obtain ⟨⟨x0, x1, x2, x3, x4, x5⟩, -⟩ := six X6.out
      obtain ⟨Y, hY⟩ : ∃ Y, getZ L x.key = Y := ⟨_, rfl⟩
      obtain ⟨hd, hhd⟩ : ∃ h, isT L x.key = h := ⟨_, rfl⟩
      have G6 := Lib.hid (get_any w6 p 64 F _ L x.key (by omega) HFX.out T6.out.1)
      rw [hY, hhd] at G6
      have HYY := Lib.hid (And.intro hY hhd)
      clear x1 x2 x3 x4 x5 hY hhd
      go_upto_region 14 with (go_at_call 16; refine G6.out.mono ?_; rintro e w7 ⟨⟨b, d, rfl, hry⟩, hb⟩; unfold rowV)
      generalize hV : World.alloc w7 _ = V
      have hb2 : Below w7.heap.size w7 V := by rw [← hV]; exact (Below.refl _ _).alloc (Nat.le_refl _) _
      have hO : V.heap[w7.heap.size]? = some (rowO Y b d) := by rw [← hV]; exact heap_alloc_new w7 _
      have hb3 := hb.trans (hb2.mono hb.size)
      have T7 := Lib.hid (And.intro (T6.out.1.below hb3) (T6.out.2.trans (hb3.mono T6.out.2.size)))
      have R7 := Lib.hid (R6.out.kept (keptNew hb3) (fun _ _ h => h))
      have Y7 := Lib.hid (hry.kept (keptNew hb2) (fun _ _ h => h))
      have O7 := Lib.hid hO
      have X7 := Lib.hid ((hb3.block _ (lt_of_block X6.out)).trans X6.out)
      have hz7 := hb.size
      clear hV hb hb2 hb3 hO hry x0 T6 R6 X6 G6
      obtain ⟨⟨x0, x1, x2, x3, x4, x5⟩, -⟩ := six X7.out
      obtain ⟨⟨E, L2⟩, hE⟩ : ∃ q, putX 64 L x = q := ⟨_, rfl⟩
      have HM := Lib.hid (gets_math TT.out.1.rise (by omega) hE)
      have HI2 := putX_inv (most := 64) hI.out HBX.out
      have hl2 := putX_len 64 L x
      have PU := Lib.hid (put_any V p 64 F _ L x a1 c1 (by unfold In64; omega) (by omega) (by omega) HBX.out T7.out.1 (((ReadsAG.of HA.out).kept (S := fun k => w.heap.size ≤ k) (keptBelow (BW.out.trans (T7.out.2.mono hzW))) (fun k hk h => by omega)).mono (fun k hk _ hf => by rcases hf with hf | hf; have := TT.out.2.1 k hf; omega; exact hf)))
      unfold PutPost at PU
      rw [hE] at PU HI2 hl2
      have HI3 := Lib.hid HI2
      clear hE HI2
      go_wp2_with fail
      refine PU.out.mono ?_
      rintro e w8 ⟨rfl, F2, ht, hg, hk8⟩
      have hFY : ∀ k, F k → k < wr.heap.size := LT.out
      have T8 := Lib.hid (And.intro ht (T7.out.2.trans (hk8.below TT.out.2.1 T7.out.2.size)))
      have R8 := Lib.hid (R7.out.kept hk8 (fun k h1 h2 => by have := hFY k h2; omega))
      have Y8 := Lib.hid (Y7.out.kept hk8 (fun k h1 h2 => by have := hFY k h2; omega))
      have O8 := Lib.hid (hk8.heap O7.out (fun h => by have := hFY _ h; omega))
      have X8 := Lib.hid (hk8.heap X7.out (fun h => by have := TT.out.2.1 _ h; have := lt_of_block X0.out; omega))
      have hz8 := hk8.size
      clear ht hg hk8 PU x0 x1 x2 x3 x4 x5 T7 R7 Y7 O7 X7
      obtain ⟨⟨x0, x1, x2, x3, x4, x5⟩, -⟩ := six X8.out
      obtain ⟨Z, hZ⟩ : ∃ Z, getZ L2 x.key = Z := ⟨_, rfl⟩
      obtain ⟨hs, hhs⟩ : ∃ h, isT L2 x.key = h := ⟨_, rfl⟩
      have G8 := Lib.hid (get_any w8 p 64 F2 _ L2 x.key (by have h9 : L2.length ≤ L.length + 1 := hl2; omega) HI3.out.fix T8.out.1)
      rw [hZ, hhs] at G8
      have HZZ := Lib.hid (And.intro hZ hhs)
      clear x1 x2 x3 x4 x5 hZ hhs
      go_upto_region 16 with (go_at_call 16; refine G8.out.mono ?_; rintro e w9 ⟨⟨b2, d2, rfl, hrz⟩, hb⟩; unfold rowV)
      generalize hV2 : World.alloc w9 _ = V2
      have hb2 : Below w9.heap.size w9 V2 := by rw [← hV2]; exact (Below.refl _ _).alloc (Nat.le_refl _) _
      have hO : V2.heap[w9.heap.size]? = some (rowO Z b2 d2) := by rw [← hV2]; exact heap_alloc_new w9 _
      have hb3 := hb.trans (hb2.mono hb.size)
      have hB9 := T8.out.2.trans (hb3.mono T8.out.2.size)
      have GS := Lib.hid (show GG W V2 w.heap.size w7.heap.size w9.heap.size p x Y Z a1 c1 b d b2 d2 L L2 wa from
        ⟨hB9, ⟨F2, T8.out.1.below hb3⟩, ⟨(hb3.block _ (lt_of_block X8.out)).trans X8.out, (hb3.block _ (lt_of_block O8.out)).trans O8.out, hO⟩,
          ⟨HA.out.kept (BW.out.trans (hB9.mono hzW)), Y8.out.plain.kept hb3, hrz.plain.kept hb2⟩, ReadsR.below (show ReadsR w8 wa L.length (atL L) from R8.out.mono (fun k _ h => h)) hb3⟩)
      clear hV2 hb hb2 hb3 hO hrz hB9 x0 T8 R8 Y8 O8 X8 G8 LT TT hFY
      obtain ⟨B3, hB3'⟩ : ∃ B, w.heap.size = B := ⟨_, rfl⟩
      obtain ⟨B9, hB9'⟩ : ∃ B, w7.heap.size = B := ⟨_, rfl⟩
      obtain ⟨B12, hB12'⟩ : ∃ B, w9.heap.size = B := ⟨_, rfl⟩
      rw [hB9', hB12', hB3'] at GS
      rw [hB9', hB12', hB3']
      have hYt := (getZ_inv hI.out x.key)
      rw [HYY.out.1] at hYt
      have HYT := Lib.hid hYt
      have hzz := (getZ_inv HI3.out x.key).2
      rw [HZZ.out.1] at hzz
      have hLl : L2.length ≤ 1000 := by have h9 : L2.length ≤ L.length + 1 := hl2; omega
      have HBXl : x.len ≤ 1000 := by omega
      clear hYt hB3' hB9' hB12' B1 BA1 B2 X0 HR HBR' HBX T5
      rcases HM.out with ⟨hE, hL2⟩ | ⟨hE, m1, m2, m3, m4⟩
      · have hE1 : (E == 0) = false := by rw [beq_eq_false_iff_ne]; exact hE
        have hE2 : (E != 0) = true := by rw [bne, hE1]; rfl
        subst hL2
        obtain rfl : Z = Y := HZZ.out.1.symm.trans HYY.out.1
        obtain rfl : hs = hd := HZZ.out.2.symm.trans HYY.out.2
        obtain ⟨⟨y0, y1, y2, y3, y4, y5⟩, -⟩ := six GS.out.2.2.1.2.1
        obtain ⟨⟨z0, z1, z2, z3, z4, z5⟩, -⟩ := six GS.out.2.2.1.2.2
        have SA := Lib.hid (sameOk_any Z Z b b2 d d2 HYT.out.2 (sameR_self HYT.out.1) V2 GS.out.2.2.2.1.2.1 GS.out.2.2.2.1.2.2)
        have hss : (hs == hs) = true := beq_self_eq_true _
        clear HM hE
        go_wp2_with fail
        refine SA.out.mono ?_
        rintro e z1' ⟨rfl, hb⟩
        have G1 := Lib.hid (GS.out.below hb)
        clear hb y0 y1 y2 y3 y4 y5 z0 z1 z2 z3 z4 z5 SA GS
        obtain ⟨F5, hT5⟩ := G1.out.2.1
        have RR := Lib.hid (rows_any z1' p 64 F5 _ L2 hLl HI3.out.fix hT5)
        clear hT5
        go_wp2_with fail
        refine RR.out.mono ?_
        rintro e z2' ⟨⟨ra, rcc, rfl, -⟩, hb⟩
        have P := Lib.hid (BW.out.trans ((G1.out.1.trans (hb.mono G1.out.1.size)).mono hzW))
        clear hb RR
        go_wp2_with fail
        go_ret
        exact ⟨rfl, P.out⟩
      · subst hE
        obtain rfl : hs = true := HZZ.out.2.symm.trans m1
        have hZx : Z = twR x := HZZ.out.1.symm.trans m2
        have hsz : sameR Z x = true := by rw [hZx]; exact sameR_tw x
        have HNW := Lib.hid (show hd = true → cmpSt Z.t Z.i Z.q Z.o Y.t Y.i Y.q Y.o = 1 from fun h => by
          have h3 := m3 (HYY.out.2.trans h)
          rw [HYY.out.1] at h3
          rw [hZx]
          unfold newR at h3
          exact (beq_iff_eq.1 h3 : cmpSt x.t x.i x.q x.o Y.t Y.i Y.q Y.o = 1))
        have HM4 := Lib.hid m4
        have SA := Lib.hid (p := ∀ V', Below V2.heap.size V2 V' → Calls Try.prog 15 #[.agg #[.string Z.key, .int .i64 Z.t, .int .i64 Z.i, .int .i64 Z.q, .string Z.o, .slice b2 Z.len d2], .agg #[.string x.key, .int .i64 x.t, .int .i64 x.i, .int .i64 x.q, .string x.o, .slice a1 x.len c1]] V' fun e w' => e = .returned (.bool true) ∧ Below V'.heap.size V' w') (fun V' hV => sameOk_any Z x b2 a1 d2 c1 hzz hsz V' (GS.out.2.2.2.1.2.2.kept hV) (GS.out.2.2.2.1.1.kept hV))
        have ON := Lib.hid (p := ∀ V', Below V2.heap.size V2 V' → Calls Try.prog 11 #[.agg #[.string Z.key, .int .i64 Z.t, .int .i64 Z.i, .int .i64 Z.q, .string Z.o, .slice b2 Z.len d2]] V' (OfRPost V' Z)) (fun V' hV => ofR_any Z b2 d2 (by rw [hZx]; exact (show x.len ≤ 1000 by have := HBXl; omega)) V' (GS.out.2.2.2.1.2.2.kept hV))
        have OO := Lib.hid (p := ∀ V', Below V2.heap.size V2 V' → Calls Try.prog 11 #[.agg #[.string Y.key, .int .i64 Y.t, .int .i64 Y.i, .int .i64 Y.q, .string Y.o, .slice b Y.len d]] V' (OfRPost V' Y)) (fun V' hV => ofR_any Y b d (by rw [← HYY.out.1]; exact getZ_short hI.out _) V' (GS.out.2.2.2.1.2.1.kept hV))
        have CM := Lib.hid (p := hd = true → ∀ V', Calls Try.prog 20 #[.agg #[.int .i64 Z.t, .int .i64 Z.i, .int .i64 Z.q, .string Z.o], .agg #[.int .i64 Y.t, .int .i64 Y.i, .int .i64 Y.q, .string Y.o]] V' fun e w' => e = .returned (.int .i64 1) ∧ Below V'.heap.size V' w') (fun h V' => by
          have := rCmpStamp_any Z.t Z.i Z.q Z.o Y.t Y.i Y.q Y.o V'
          rw [HNW.out h] at this
          exact this)
        have CELLS := Lib.hid (p := ∀ w', Below V2.heap.size V2 w' → w'.cell? ⟨B12, 0, none⟩ = some (.string Z.key) ∧ w'.cell? ⟨B12, 1, none⟩ = some (.int .i64 Z.t) ∧ w'.cell? ⟨B12, 2, none⟩ = some (.int .i64 Z.i) ∧ w'.cell? ⟨B12, 3, none⟩ = some (.int .i64 Z.q) ∧ w'.cell? ⟨B12, 4, none⟩ = some (.string Z.o) ∧ w'.cell? ⟨B12, 5, none⟩ = some (.slice b2 Z.len d2) ∧ w'.cell? ⟨B3, 0, none⟩ = some (.string x.key) ∧ w'.cell? ⟨B3, 1, none⟩ = some (.int .i64 x.t) ∧ w'.cell? ⟨B3, 2, none⟩ = some (.int .i64 x.i) ∧ w'.cell? ⟨B3, 3, none⟩ = some (.int .i64 x.q) ∧ w'.cell? ⟨B3, 4, none⟩ = some (.string x.o) ∧ w'.cell? ⟨B3, 5, none⟩ = some (.slice a1 x.len c1) ∧ w'.cell? ⟨B9, 0, none⟩ = some (.string Y.key) ∧ w'.cell? ⟨B9, 1, none⟩ = some (.int .i64 Y.t) ∧ w'.cell? ⟨B9, 2, none⟩ = some (.int .i64 Y.i) ∧ w'.cell? ⟨B9, 3, none⟩ = some (.int .i64 Y.q) ∧ w'.cell? ⟨B9, 4, none⟩ = some (.string Y.o) ∧ w'.cell? ⟨B9, 5, none⟩ = some (.slice b Y.len d)) (fun w' hb => by
          have G := GS.out.below hb
          obtain ⟨⟨z0, z1, z2, z3, z4, z5⟩, -⟩ := six G.2.2.1.2.2
          obtain ⟨⟨x0, x1, x2, x3, x4, x5⟩, -⟩ := six G.2.2.1.1
          obtain ⟨⟨y0, y1, y2, y3, y4, y5⟩, -⟩ := six G.2.2.1.2.1
          exact ⟨z0, z1, z2, z3, z4, z5, x0, x1, x2, x3, x4, x5, y0, y1, y2, y3, y4, y5⟩)
        clear HM m1 m2 m3 m4 hZx hsz HNW
        go_upto_region 18 with fail
        go_cut [111] (fun v111 wc => v111 = .bool false ∧ Hid (GG W wc B3 B9 B12 p x Y Z a1 c1 b d b2 d2 L L2 wa))
        case first =>
          have D0 := Lib.hid (p := Below V2.heap.size V2 V2.drew) (drewB V2)
          have D1 := Lib.hid (CELLS.out V2 (Below.refl _ _))
          obtain ⟨z0, z1, z2, z3, z4, z5, x0, x1, x2, x3, x4, x5, y0, y1, y2, y3, y4, y5⟩ := D1.out
          cases hd with
          | false =>
            clear CM
            go_region_with (first
              | (go_at_call 15
                 with_reducible refine (SA.out V2.drew D0.out).mono ?_
                 rintro e v1 ⟨rfl, hb⟩
                 have E1 := Lib.hid (D0.out.trans (hb.mono D0.out.size))
                 have cc1 := CELLS.out _ E1.out
                 clear hb)
              | fail)
            all_goals
              have GR := Lib.hid (GS.out.below E1.out)
              clear CELLS GS z0 z1 z2 z3 z4 z5 x0 x1 x2 x3 x4 x5 y0 y1 y2 y3 y4 y5 cc1
              go_wp2_with fail
              go_meet
              case rel => exact ⟨rfl, GR⟩
          | true =>
            have CM' := Lib.hid (CM.out rfl)
            clear CM
            go_region_held3 (fun w' => w'.cell? ⟨B12, 0, none⟩ = some (.string Z.key) ∧ w'.cell? ⟨B12, 1, none⟩ = some (.int .i64 Z.t) ∧ w'.cell? ⟨B12, 2, none⟩ = some (.int .i64 Z.i) ∧ w'.cell? ⟨B12, 3, none⟩ = some (.int .i64 Z.q) ∧ w'.cell? ⟨B12, 4, none⟩ = some (.string Z.o) ∧ w'.cell? ⟨B12, 5, none⟩ = some (.slice b2 Z.len d2) ∧ w'.cell? ⟨B3, 0, none⟩ = some (.string x.key) ∧ w'.cell? ⟨B3, 1, none⟩ = some (.int .i64 x.t) ∧ w'.cell? ⟨B3, 2, none⟩ = some (.int .i64 x.i) ∧ w'.cell? ⟨B3, 3, none⟩ = some (.int .i64 x.q) ∧ w'.cell? ⟨B3, 4, none⟩ = some (.string x.o) ∧ w'.cell? ⟨B3, 5, none⟩ = some (.slice a1 x.len c1) ∧ w'.cell? ⟨B9, 0, none⟩ = some (.string Y.key) ∧ w'.cell? ⟨B9, 1, none⟩ = some (.int .i64 Y.t) ∧ w'.cell? ⟨B9, 2, none⟩ = some (.int .i64 Y.i) ∧ w'.cell? ⟨B9, 3, none⟩ = some (.int .i64 Y.q) ∧ w'.cell? ⟨B9, 4, none⟩ = some (.string Y.o) ∧ w'.cell? ⟨B9, 5, none⟩ = some (.slice b Y.len d)) (first | assumption | exact ⟨z0, z1, z2, z3, z4, z5, x0, x1, x2, x3, x4, x5, y0, y1, y2, y3, y4, y5⟩ | exact CELLS.out _ E1.out | exact CELLS.out _ E2.out | exact CELLS.out _ E3.out | exact CELLS.out _ E4.out) (first
              | (go_at_call 15
                 with_reducible refine (SA.out V2.drew D0.out).mono ?_
                 rintro e v1 ⟨rfl, hb⟩
                 have E1 := Lib.hid (D0.out.trans (hb.mono D0.out.size))
                 have cc1 := CELLS.out _ E1.out
                 clear hb)
              | (go_at_call 11
                 with_reducible refine (ON.out v1 E1.out).mono ?_
                 rintro e v2 ⟨⟨oa, oc, rfl, -⟩, hb⟩
                 have E2 := Lib.hid (E1.out.trans (hb.mono E1.out.size))
                 have cc2 := CELLS.out _ E2.out
                 have fd2 := field_rst Z.key Z.t Z.i Z.q Z.o oa Z.len oc
                 clear hb)
              | (go_at_call 11
                 with_reducible refine (OO.out v2 E2.out).mono ?_
                 rintro e v3 ⟨⟨oa2, oc2, rfl, -⟩, hb⟩
                 have E3 := Lib.hid (E2.out.trans (hb.mono E2.out.size))
                 have cc3 := CELLS.out _ E3.out
                 have fd3 := field_rst Y.key Y.t Y.i Y.q Y.o oa2 Y.len oc2
                 clear hb)
              | (go_at_call 20
                 with_reducible refine (CM'.out v3).mono ?_
                 rintro e v4 ⟨rfl, hb⟩
                 have E4 := Lib.hid (E3.out.trans (hb.mono E3.out.size))
                 have cc4 := CELLS.out _ E4.out
                 clear hb)
              | fail)
            have GR := Lib.hid (GS.out.below E4.out)
            clear CELLS GS z0 z1 z2 z3 z4 z5 x0 x1 x2 x3 x4 x5 y0 y1 y2 y3 y4 y5 cc1 cc2 cc3 cc4 fd2 fd3
            go_wp2_with fail
            go_meet
            case rel => exact ⟨rfl, GR⟩
        case rest =>
        obtain ⟨rfl, G0⟩ := hcut
        clear GS CELLS SA ON OO CM
        go_wp2_with fail
        go_loopw [14] (fun iv ws => ∃ j : Nat, iv = .int .i64 j ∧ j ≤ L.length ∧ Hid (GG W ws B3 B9 B12 p x Y Z a1 c1 b d b2 d2 L L2 wa)) (fun iv _ => L.length - (intOf iv).toNat)
        case atStart => exact ⟨0, rfl, Nat.zero_le _, G0⟩
        case round =>
          obtain ⟨j, rfl, hj, G1⟩ := hrel
          clear G0
          by_cases hjl : j < L.length
          · have e2 : (j : Int) < (L.length : Int) := by omega
            obtain ⟨wb, woff, yt, ct, hwa, hwb, h6, hyt⟩ := G1.out.2.2.2.2.cells hjl
            obtain ⟨m4, m5⟩ := HM4.out j hjl
            obtain ⟨T, hT⟩ : ∃ T, atL L j = T := ⟨_, rfl⟩
            have hTt : twR T = T ∧ T.len ≤ 1000000 := by
              rw [← hT, atL_lt hjl]
              have := hI.out.fix _ (List.getElem_mem hjl)
              exact ⟨this.2, by have := this.1.1; omega⟩
            rw [hT] at h6 hyt m4 m5
            subst hwa
            obtain ⟨F6, hT6⟩ := G1.out.2.1
            have GT := Lib.hid (get_any _ p 64 F6 _ L2 T.key hLl HI3.out.fix hT6)
            rw [m4] at GT
            obtain ⟨U, hU⟩ : ∃ U, getZ L2 T.key = U := ⟨_, rfl⟩
            rw [hU] at GT m5
            obtain ⟨t0, t1, t2, t3, t4, t5⟩ := h6
            have HTT := Lib.hid (And.intro hTt m5)
            clear hT6 m4 m5 hTt hU
            go_upto_region 24 with (go_at_call 16; refine GT.out.mono ?_; rintro e v5 ⟨⟨b3, d3, rfl, hru⟩, hb⟩; unfold rowV)
            generalize hV5 : World.alloc v5 _ = V5
            have hb5 : Below v5.heap.size v5 V5 := by rw [← hV5]; exact (Below.refl _ _).alloc (Nat.le_refl _) _
            have hO5 : V5.heap[v5.heap.size]? = some (rowO U b3 d3) := by rw [← hV5]; exact heap_alloc_new v5 _
            have hb6 := hb.trans (hb5.mono hb.size)
            have G5 := Lib.hid (G1.out.below hb6)
            have O5 := Lib.hid (And.intro hO5 (hru.plain.kept hb5))
            obtain ⟨B15, hB15⟩ : ∃ B, v5.heap.size = B := ⟨_, rfl⟩
            rw [hB15] at O5
            rw [hB15]
            clear hV5 hb hb5 hb6 hO5 hru hB15 GT G1 t0 t1 t2 t3 t4 t5 hyt
            obtain ⟨wb', woff', yt', ct', hwa', hwb', h6', hyt'⟩ := G5.out.2.2.2.2.cells hjl
            obtain ⟨e15, e16⟩ : wb' = wb ∧ woff' = woff := by
              simp only [Option.some.injEq, Addr.mk.injEq, and_true] at hwa'
              exact ⟨hwa'.1.symm, hwa'.2.symm⟩
            subst e15 e16
            rw [hT] at h6' hyt'
            have HH6 := Lib.hid (And.intro h6' hyt'.plain)
            clear hT h6' hyt' hwa'
            have CELLS := Lib.hid (p := ∀ w', Below V5.heap.size V5 w' → w'.cell? ⟨B15, 0, none⟩ = some (.string U.key) ∧ w'.cell? ⟨B15, 1, none⟩ = some (.int .i64 U.t) ∧ w'.cell? ⟨B15, 2, none⟩ = some (.int .i64 U.i) ∧ w'.cell? ⟨B15, 3, none⟩ = some (.int .i64 U.q) ∧ w'.cell? ⟨B15, 4, none⟩ = some (.string U.o) ∧ w'.cell? ⟨B15, 5, none⟩ = some (.slice b3 U.len d3) ∧ w'.cell? ⟨wb', woff' + j * 6, none⟩ = some (.string T.key) ∧ w'.cell? ⟨wb', woff' + j * 6 + 1, none⟩ = some (.int .i64 T.t) ∧ w'.cell? ⟨wb', woff' + j * 6 + 2, none⟩ = some (.int .i64 T.i) ∧ w'.cell? ⟨wb', woff' + j * 6 + 3, none⟩ = some (.int .i64 T.q) ∧ w'.cell? ⟨wb', woff' + j * 6 + 4, none⟩ = some (.string T.o) ∧ w'.cell? ⟨wb', woff' + j * 6 + 5, none⟩ = some (.slice yt' T.len ct') ∧ w'.cell? ⟨B3, 0, none⟩ = some (.string x.key)) (fun w' hb => by
              obtain ⟨⟨u0, u1, u2, u3, u4, u5⟩, -⟩ := six ((hb.block _ (lt_of_block O5.out.1)).trans O5.out.1)
              obtain ⟨t0, t1, t2, t3, t4, t5⟩ := HH6.out.1.keptS (keptNew hb) (fun h => h)
              have G := G5.out.below hb
              obtain ⟨⟨k0, -⟩, -⟩ := six G.2.2.1.1
              exact ⟨u0, u1, u2, u3, u4, u5, t0, t1, t2, t3, t4, t5, k0⟩)
            have D0 := Lib.hid (p := Below V5.heap.size V5 V5.drew) (drewB V5)
            have D1 := Lib.hid (CELLS.out V5 (Below.refl _ _))
            obtain ⟨u0, u1, u2, u3, u4, u5, t0, t1, t2, t3, t4, t5, k0⟩ := D1.out
            go_cut [148] (fun v148 wc => v148 = .bool false ∧ Hid (GG W wc B3 B9 B12 p x Y Z a1 c1 b d b2 d2 L L2 (some ⟨wb', woff', none⟩)))
            case first =>
              cases hkk : (T.key.toList == x.key.toList) with
              | true =>
                have hk2 : (T.key.toList != x.key.toList) = false := by rw [bne, hkk]; rfl
                clear HTT
                have GQ := Lib.hid (p := ∀ q, GG W (V5.drewN q) B3 B9 B12 p x Y Z a1 c1 b d b2 d2 L L2 (some ⟨wb', woff', none⟩)) (fun q => G5.out.below ⟨rfl, rfl, rfl, Nat.le_refl _, fun _ _ => rfl⟩)
                go_wp2_with (go_quiet (fail))
                go_meet
                case rel => exact ⟨rfl, Lib.hid (GQ.out _)⟩
              | false =>
                have hk2 : (T.key.toList != x.key.toList) = true := by rw [bne, hkk]; rfl
                have hne : T.key ≠ x.key := fun h => by rw [h, beq_self_eq_true] at hkk; cases hkk
                obtain rfl : U = T := HTT.out.2 hne
                have SA := Lib.hid (p := ∀ V', Below V5.heap.size V5 V' → Calls Try.prog 15 #[.agg #[.string U.key, .int .i64 U.t, .int .i64 U.i, .int .i64 U.q, .string U.o, .slice b3 U.len d3], .agg #[.string U.key, .int .i64 U.t, .int .i64 U.i, .int .i64 U.q, .string U.o, .slice yt' U.len ct']] V' fun e w' => e = .returned (.bool true) ∧ Below V'.heap.size V' w') (fun V' hV => sameOk_any U U b3 yt' d3 ct' HTT.out.1.2 (sameR_self HTT.out.1.1) V' (O5.out.2.kept hV) (HH6.out.2.kept hV))
                clear HTT hne
                go_region_held3 (fun w' => w'.cell? ⟨B15, 0, none⟩ = some (.string U.key) ∧ w'.cell? ⟨B15, 1, none⟩ = some (.int .i64 U.t) ∧ w'.cell? ⟨B15, 2, none⟩ = some (.int .i64 U.i) ∧ w'.cell? ⟨B15, 3, none⟩ = some (.int .i64 U.q) ∧ w'.cell? ⟨B15, 4, none⟩ = some (.string U.o) ∧ w'.cell? ⟨B15, 5, none⟩ = some (.slice b3 U.len d3) ∧ w'.cell? ⟨wb', woff' + j * 6, none⟩ = some (.string U.key) ∧ w'.cell? ⟨wb', woff' + j * 6 + 1, none⟩ = some (.int .i64 U.t) ∧ w'.cell? ⟨wb', woff' + j * 6 + 2, none⟩ = some (.int .i64 U.i) ∧ w'.cell? ⟨wb', woff' + j * 6 + 3, none⟩ = some (.int .i64 U.q) ∧ w'.cell? ⟨wb', woff' + j * 6 + 4, none⟩ = some (.string U.o) ∧ w'.cell? ⟨wb', woff' + j * 6 + 5, none⟩ = some (.slice yt' U.len ct') ∧ w'.cell? ⟨B3, 0, none⟩ = some (.string x.key)) (first | assumption | exact ⟨u0, u1, u2, u3, u4, u5, t0, t1, t2, t3, t4, t5, k0⟩ | exact CELLS.out _ E1.out) (first
                  | (go_at_call 15
                     with_reducible refine (SA.out V5.drew D0.out).mono ?_
                     rintro e v1 ⟨rfl, hb⟩
                     have E1 := Lib.hid (D0.out.trans (hb.mono D0.out.size))
                     have cc1 := CELLS.out _ E1.out
                     clear hb)
                  | fail)
                have GR := Lib.hid (G5.out.below E1.out)
                clear CELLS G5 u0 u1 u2 u3 u4 u5 t0 t1 t2 t3 t4 t5 k0 cc1
                go_wp2_with fail
                go_meet
                case rel => exact ⟨rfl, GR⟩
            case rest =>
              obtain ⟨rfl, G7⟩ := hcut
              clear CELLS G5 u0 u1 u2 u3 u4 u5 t0 t1 t2 t3 t4 t5 k0 HTT HH6 O5 D0 D1
              go_wp2_with fail
              go_roundw
              case rel => exact ⟨j + 1, by go_num, by omega, G7⟩
              case measure => simp [intOf]; omega
          · obtain rfl : j = L.length := by omega
            have P := Lib.hid (BW.out.trans (G1.out.1.mono hzW))
            clear G1
            go_wp2_with fail
            go_ret
            exact ⟨rfl, P.out⟩

end Go.Proofs.Ytikifgenfpkidaa
