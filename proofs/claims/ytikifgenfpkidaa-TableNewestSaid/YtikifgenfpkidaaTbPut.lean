/-
  No statement: Put of package table.
-/
import Derived.Test.YtikifgenfpkidaaTbEld
import Derived.Test.YtikifgenfpkidaaWCheck
import Derived.Test.YtikifgenfpkidaaWSame
import Derived.Deep.Cut
import Derived.Deep.DeepCutAuto
set_option linter.unusedVariables false
set_option linter.unusedSimpArgs false
namespace Go.Proofs.Ytikifgenfpkidaa
open Go.RowKit

/-- The row of a key. -/
def getT (L : List RD) (k : ByteArray) : Option RD := L.find? (fun x => decide (x.key = k))
theorem getT_some {L : List RD} {k : ByteArray} {x : RD} (h : getT L k = some x) : x ∈ L ∧ x.key = k := by
  unfold getT at h
  exact ⟨List.mem_of_find?_eq_some h, by simpa using List.find?_some h⟩
theorem getT_none {L : List RD} {k : ByteArray} (h : getT L k = none) : k ∉ kyR L := by
  unfold getT at h
  rw [List.find?_eq_none] at h
  intro hm
  obtain ⟨x, hx, rfl⟩ := List.mem_map.1 hm
  exact h x hx (by simp)

theorem ReadsAG.lt' {G : Nat → Prop} {w : World} {a : Option Addr} {len : Nat} {A : Nat → AD} (h : ReadsAG G w a len A) : ReadsAG (fun k => G k ∧ k < w.heap.size) w a len A := h.mono (fun k h1 h2 => ⟨h1, h2⟩)

/-- The same where there is no room. -/
def fullX (r : RD) : List RD → Int × List RD
  | [] => (9, [])
  | x0 :: l => if newR r (leastK x0 (x0 :: l)) = true then (0, putT (dropT (x0 :: l) (leastK x0 (x0 :: l)).key) (twR r)) else (9, x0 :: l)
/-- What Put answers, and what is there behind it. -/
def putX (most : Int) (L : List RD) (r : RD) : Int × List RD :=
  if errR r = 0 then
    match getT L r.key with
    | some x => if newR r x = true then (0, putT L (twR r)) else (11, L)
    | none => if (L.length : Int) < most then (0, putT L (twR r)) else fullX r L
  else (errR r, L)

theorem errAs_parts : ∀ (L : List AD) (p : ByteArray), errAs p L = 0 → (∀ x ∈ L, goodB x.m.data.toList = true ∧ errV x.k x.s x.len x.z = 0) ∧ Rising lsS (p :: nmD L)
  | [], p, _ => by simp [nmD, Rising]
  | x :: r, p, h => by
    have h' : errA p x = 0 ∧ errAs x.m r = 0 := by
      by_cases h1 : errA p x = 0
      · exact ⟨h1, by have h2 : (if errA p x = 0 then errAs x.m r else errA p x) = 0 := h; rwa [if_pos h1] at h2⟩
      · have h2 : (if errA p x = 0 then errAs x.m r else errA p x) = 0 := h; rw [if_neg h1] at h2; exact absurd h2 h1
    obtain ⟨h1, h2⟩ := h'
    obtain ⟨i1, i2⟩ := errAs_parts r x.m h2
    unfold errA at h1
    by_cases g1 : goodB x.m.data.toList = false
    · rw [if_pos g1] at h1; cases h1
    · rw [if_neg g1] at h1
      by_cases g2 : lsS p x.m = false
      · rw [if_pos g2] at h1; cases h1
      · rw [if_neg g2] at h1
        have g1' : goodB x.m.data.toList = true := by simpa using g1
        have g2' : lsS p x.m = true := by simpa using g2
        refine ⟨fun y hy => ?_, List.pairwise_cons.2 ⟨fun y hy => ?_, i2⟩⟩
        · rcases List.mem_cons.1 hy with rfl | hy
          · exact ⟨g1', h1⟩
          · exact i1 y hy
        · rcases List.mem_cons.1 hy with rfl | hy
          · exact g2'
          · exact strictS.trans _ _ _ g2' ((List.pairwise_cons.1 i2).1 y hy)

theorem errR_fine {x : RD} (h : errR x = 0) : x.len ≤ 32 ∧ RiseA x.A x.len ∧ goodB x.key.data.toList = true ∧ errS x.t x.i x.q x.o = 0 ∧ ∀ j, j < x.len → goodB (x.A j).m.data.toList = true ∧ errV (x.A j).k (x.A j).s (x.A j).len (x.A j).z = 0 := by
  unfold errR at h
  by_cases g1 : goodB x.key.data.toList = false
  · rw [if_pos g1] at h; cases h
  · rw [if_neg g1] at h
    by_cases g2 : errS x.t x.i x.q x.o = 0
    · rw [if_pos g2] at h
      by_cases g3 : 32 < x.len
      · rw [if_pos g3] at h; cases h
      · rw [if_neg g3] at h
        obtain ⟨h1, h2⟩ := errAs_parts _ _ h
        refine ⟨by omega, fun i j hij hj => ?_, by simpa using g1, g2, fun j hj => h1 _ (List.mem_map.2 ⟨j, by simpa using hj, by simp⟩)⟩
        have h3 := (List.pairwise_cons.1 h2).2
        unfold nmD fromA at h3
        rw [List.map_map, List.pairwise_map] at h3
        have h4 := List.pairwise_iff_getElem.1 h3 i j (by simp; omega) (by simp; omega) hij
        simpa using h4
    · rw [if_neg g2] at h; exact absurd h g2

/-- Texts and lists that are short. -/
def BoundR (x : RD) : Prop := SmallR x ∧ ∀ j, j < x.len → (x.A j).len ≤ 1000000

theorem BoundR.fine {x : RD} (h : BoundR x) (he : errR x = 0) : FineR x := ⟨by have := (errR_fine he).1; omega, h.2, (errR_fine he).2.1⟩

theorem checkRow_any (x : RD) (a : Option Addr) (c : Nat) (h : SmallR x) (w : World) (hr : ReadsA w a x.len x.A) :
    Calls Try.prog 35 #[.agg #[.string x.key, .int .i64 x.t, .int .i64 x.i, .int .i64 x.q, .string x.o, .slice a x.len c]] w fun e w' => e = .returned (.int .i64 (errR x)) ∧ Below w.heap.size w w' :=
  wCheck_any x a c (by have := h.1; omega) (by have := h.2.1; omega) (fun j hj => ⟨by have := (h.2.2 j hj).1; omega, by have := (h.2.2 j hj).2; omega⟩) w hr

set_option maxRecDepth 100000 in
set_option maxHeartbeats 8000000 in
/-- A row that may not be. -/
theorem putBad (w : World) (p : Nat) (r : RD) (a : Option Addr) (c : Nat) (hB : SmallR r) (he : errR r ≠ 0) (ha : ReadsA w a r.len r.A) :
    Calls Try.prog 13 #[.pointer (some ⟨p, 0, none⟩), rowV r a c] w fun e w' => e = .returned (.int .i64 (errR r)) ∧ Below w.heap.size w w' := by
  have CH := Lib.hid (p := ∀ w', Below w.heap.size w w' → _) (fun w' hb => checkRow_any r a c hB w' (ha.kept hb))
  obtain ⟨E, hE⟩ : ∃ E, errR r = E := ⟨_, rfl⟩
  rw [hE] at CH he ⊢
  clear hE ha hB
  unfold rowV
  go_enter Try.func13, Try.ntmps13
  go_upto_region 1 with fail
  generalize hW : World.alloc w _ = W
  have hb : Below w.heap.size w W := by rw [← hW]; exact (Below.refl _ _).alloc (Nat.le_refl _) _
  have h0 : W.heap[w.heap.size]? = some (rowO r a c) := by rw [← hW]; exact heap_alloc_new w _
  have HX := Lib.hid hb
  obtain ⟨⟨x0, x1, x2, x3, x4, x5⟩, -⟩ := six h0
  clear hW hb h0
  go_wp2_with fail
  refine (CH.out W HX.out).mono ?_
  rintro e w1 ⟨rfl, hb⟩
  have P := Lib.hid (HX.out.trans (hb.mono HX.out.size))
  clear hb
  go_wp2_with fail
  go_ret
  exact ⟨rfl, P.out⟩

/-- The row of a key, or none. -/
def getZ (L : List RD) (k : ByteArray) : RD := (getT L k).getD zeroR
def isT (L : List RD) (k : ByteArray) : Bool := (getT L k).isSome

theorem tabGetB (w : World) (p : Nat) (most : Int) (F X : Nat → Prop) (L : List RD) (k : ByteArray) (hn : L.length ≤ 1000000) (h : Tab w p most F X L) :
    ∃ a c, RowAt w (fun k => F k ∨ X k) (getZ L k) a ∧ ∀ w', Below w.heap.size w w' → Calls Try.prog 36 #[.pointer (some ⟨p, 1, none⟩), .string k] w' fun e w'' => e = .returned (.tuple #[rowV (getZ L k) a c, .bool (isT L k)]) ∧ Below w'.heap.size w' w'' := by
  unfold getZ isT
  cases hg : getT L k with
  | some x =>
    obtain ⟨hx, rfl⟩ := getT_some hg
    exact tabGet w p most F X L x hn h hx
  | none =>
    exact ⟨none, 0, ⟨Nat.zero_le _, .inl rfl⟩, fun w' hb => tabGetNo w' p most F X L k hn (h.below hb) (getT_none hg)⟩

theorem dropT_len (L : List RD) (x : ByteArray) : (dropT L x).length ≤ L.length := by
  unfold dropT; split
  · exact List.length_eraseIdx_le _ _
  · exact Nat.le_refl _

/-- What Put leaves. -/
def PutPost (w : World) (p : Nat) (most : Int) (F X : Nat → Prop) (L : List RD) (r : RD) (e : Ending) (w' : World) : Prop :=
  e = .returned (.int .i64 (putX most L r).1) ∧ TurnT w w' p most F X (putX most L r).2

/-- What Put keeps on its way. -/
def PutS (w wc : World) (p : Nat) (most : Int) (F1 X : Nat → Prop) (L1 : List RD) (r : RD) (a : Option Addr) (c : Nat) : Prop :=
  Tab wc p most F1 (fun k => X k ∨ k = w.heap.size) L1 ∧ wc.heap[w.heap.size]? = some (rowO r a c) ∧ ReadsAG (fun k => ¬ (F1 k ∨ X k) ∧ k < w.heap.size) wc a r.len r.A

theorem PutS.below {w wc w' : World} {p : Nat} {most : Int} {F1 X : Nat → Prop} {L1 : List RD} {r : RD} {a : Option Addr} {c : Nat} (h : PutS w wc p most F1 X L1 r a c) (hb : Below wc.heap.size wc w') : PutS w w' p most F1 X L1 r a c :=
  ⟨h.1.below hb, (hb.block _ (lt_of_block h.2.1)).trans h.2.1, h.2.2.kept (keptNew hb) (fun _ _ h => h)⟩

theorem Tab.most {w : World} {p : Nat} {most : Int} {F X : Nat → Prop} {L : List RD} (h : Tab w p most F X L) : w.cell? ⟨p, 0, none⟩ = some (.int .i64 most) ∧ p < w.heap.size := by
  have hl := h.lt p h.fp
  obtain ⟨E, hE, _, ⟨kv, vv, h0, _⟩, _⟩ := h
  exact ⟨cell0_of_three h0, hl⟩

/-- A row goes out of the table. -/
theorem PutS.turn {w wc w' : World} {p : Nat} {most : Int} {F1 F2 X : Nat → Prop} {L1 L2 : List RD} {r : RD} {a : Option Addr} {c : Nat} (h : PutS w wc p most F1 X L1 r a c) (ht : Tab w' p most F2 (fun k => X k ∨ k = w.heap.size) L2) (hg : Grew wc F1 F2) (hk : Kept F1 wc w') (hs : w.heap.size ≤ wc.heap.size) : PutS w w' p most F2 X L2 r a c :=
  ⟨ht, hk.heap h.2.1 ((h.1.apart _ (.inr rfl)).1), (h.2.2.kept hk (fun k h1 h2 => h1.1 (.inl h2))).mono (fun k h1 _ => ⟨fun h2 => by
    rcases h2 with h2 | h2
    · rcases hg k h2 with h3 | h3
      · exact h1.1 (.inl h3)
      · have := h1.2; omega
    · exact h1.1 (.inr h2), h1.2⟩)⟩

set_option maxRecDepth 100000 in
set_option maxHeartbeats 16000000 in
theorem put_any (w : World) (p : Nat) (most : Int) (F X : Nat → Prop) (L : List RD) (r : RD) (a : Option Addr) (c : Nat) (hm : In64 most) (hpos : 1 ≤ most) (hn : L.length ≤ 1000) (hB : BoundR r) (h : Tab w p most F X L) (ha : ReadsAG (fun k => ¬ (F k ∨ X k)) w a r.len r.A) :
    Calls Try.prog 13 #[.pointer (some ⟨p, 0, none⟩), rowV r a c] w (PutPost w p most F X L r) := by
  by_cases he : errR r = 0
  case neg =>
    refine (putBad w p r a c hB.1 he ha.plain).mono fun e w' ⟨h1, h2⟩ => ?_
    have hp : putX most L r = (errR r, L) := by unfold putX; rw [if_neg he]
    unfold PutPost
    rw [hp]
    exact ⟨h1, F, h.below h2, Grew.refl _ _, (keptNew h2).mono (fun _ h _ => h.elim)⟩
  have hfine := hB.fine he
  have CH := Lib.hid (p := ∀ w', Below w.heap.size w w' → _) (fun w' hb => checkRow_any r a c hB.1 w' (ha.plain.kept hb))
  rw [he] at CH
  obtain ⟨ay, cy, -, G'⟩ := tabGetB w p most F X L r.key (by omega) h
  have G := Lib.hid G'
  have NW := Lib.hid (fun x w' => newer_any r x w')
  have HPX := Lib.hid (show putX most L r = if isT L r.key = true then (if newR r (getZ L r.key) = true then (0, putT L (twR r)) else (11, L)) else if (L.length : Int) < most then (0, putT L (twR r)) else fullX r L by
    unfold putX getZ isT; rw [if_pos he]
    cases getT L r.key with
    | some x => rfl
    | none => rfl)
  obtain ⟨⟨E, L'⟩, hPX⟩ : ∃ q, putX most L r = q := ⟨_, rfl⟩
  have P := Lib.hid (p := ∀ e w', e = .returned (.int .i64 E) → TurnT w w' p most F X L' → PutPost w p most F X L r e w') (fun e w' h1 h2 => by unfold PutPost; rw [hPX]; exact ⟨h1, h2⟩)
  rw [hPX] at HPX
  have HF := Lib.hid hfine
  have HB := Lib.hid hB
  have HT := Lib.hid (And.intro h ha)
  obtain ⟨Y, hY⟩ : ∃ Y, getZ L r.key = Y := ⟨_, rfl⟩
  obtain ⟨b, hb⟩ : ∃ b, isT L r.key = b := ⟨_, rfl⟩
  rw [hY, hb] at G HPX
  clear G' h ha hB he hfine hPX hY hb
  unfold rowV
  go_enter Try.func13, Try.ntmps13
  go_upto_region 1 with fail
  generalize hW : World.alloc w _ = W
  have hb : Below w.heap.size w W := by rw [← hW]; exact (Below.refl _ _).alloc (Nat.le_refl _) _
  have hk : Kept (fun _ => False) w W := by rw [← hW]; exact (Kept.refl _ _).alloc _
  have hs : W.heap.size = w.heap.size + 1 := by rw [← hW]; simp
  have h0 : W.heap[w.heap.size]? = some (rowO r a c) := by rw [← hW]; exact heap_alloc_new w _
  obtain ⟨⟨x0, x1, x2, x3, x4, x5⟩, -⟩ := six h0
  have SX := Lib.hid (show PutS w W p most F X L r a c from ⟨HT.out.1.more hk (fun k hk => ⟨by rcases hk with h | h; exact .inl h; exact .inr (by omega), by rcases hk with h | h; have := (HT.out.1.apart k h).2; omega; omega⟩), h0, (HT.out.2.lt'.kept hk (fun _ _ h => h))⟩)
  have HX := Lib.hid hb
  clear hW hb hk h0
  go_wp2_with fail
  refine (CH.out W HX.out).mono ?_
  rintro e w1 ⟨rfl, hb⟩
  have B0 := Lib.hid (HX.out.trans (hb.mono HX.out.size))
  have S1 := Lib.hid (SX.out.below hb)
  clear hb HX x0 x1 x2 x3 x4 x5 CH SX hs
  go_upto_region 4 with fail
  go_cut [6, 7] (fun v6 v7 wc => ∃ B6 : Nat, v6 = .pointer (some ⟨B6, 0, none⟩) ∧ v7 = .bool b ∧ B6 ≠ w.heap.size ∧ Hid (Below w.heap.size w wc) ∧ Hid (PutS w wc p most F X L r a c) ∧ Hid (wc.heap[B6]? = some (rowO Y ay cy)))
  case first =>
    obtain ⟨⟨x0, x1, x2, x3, x4, x5⟩, -⟩ := six S1.out.2.1
    clear x1 x2 x3 x4 x5
    have B1 := Lib.hid (p := Below w.heap.size w w1.drew) (B0.out.trans ((drewB w1).mono B0.out.size))
    have b1a := B0.out.alloc B0.out.size (.cells #[.string ⟨#[]⟩, .int .i64 0, .int .i64 0, .int .i64 0, .string ⟨#[]⟩, .slice none 0 0] 39)
    have B1a := Lib.hid (p := Below w.heap.size w (w1.alloc (.cells #[.string ⟨#[]⟩, .int .i64 0, .int .i64 0, .int .i64 0, .string ⟨#[]⟩, .slice none 0 0] 39)).drew) (b1a.trans ((drewB _).mono b1a.size))
    clear b1a
    have hlt1 := lt_of_block S1.out.2.1
    have hne1 : w.heap.size ≠ w1.heap.size := by omega
    go_region_with (first
      | (go_at_call 36
         refine (G.out _ (by with_reducible (first | exact B1.out | exact B1a.out))).mono ?_
         rintro e w2 ⟨rfl, hb2⟩
         unfold rowV
         first
           | (have hz : w2.heap[w1.heap.size]? = some (.cells #[.string ⟨#[]⟩, .int .i64 0, .int .i64 0, .int .i64 0, .string ⟨#[]⟩, .slice none 0 0] 39 (0, 0)) := (hb2.block w1.heap.size (by simp [World.drew])).trans (heap_alloc_new w1 _)
              have hbW : Hid (Below w1.heap.size w1 w2) := Lib.hid (((Below.refl w1.heap.size w1).alloc (Nat.le_refl _) _).trans ((drewT hb2).mono (by simp)))
              obtain ⟨⟨y0, y1, y2, y3, y4, y5⟩, ⟨z0, z1, z2, z3, z4, z5⟩⟩ := six hz)
           | (have hbW : Hid (Below w1.heap.size w1 w2) := Lib.hid (drewT hb2)))
      | fail)
    all_goals
      go_wp2_with fail
      go_meet
      case rel =>
        first
          | (have h6 := six_set hz (.string Y.key) (.int .i64 Y.t) (.int .i64 Y.i) (.int .i64 Y.q) (.string Y.o) (.slice ay Y.len cy)
             have hbV := six_below hbW.out (Nat.le_refl _) (.string Y.key) (.int .i64 Y.t) (.int .i64 Y.i) (.int .i64 Y.q) (.string Y.o) (.slice ay Y.len cy)
             generalize World.setCell _ (⟨w1.heap.size, 5, none⟩ : Addr) _ = V at h6 hbV ⊢
             have q1 := B0.out.trans (hbV.mono B0.out.size)
             have q2 := S1.out.below hbV
             exact ⟨w1.heap.size, rfl, rfl, hne1.symm, Lib.hid q1, Lib.hid q2, Lib.hid h6⟩)
          | (have h6 := heap_alloc_new w2 (.cells #[.string Y.key, .int .i64 Y.t, .int .i64 Y.i, .int .i64 Y.q, .string Y.o, .slice ay Y.len cy] 39)
             have hbV := hbW.out.alloc hbW.out.size (.cells #[.string Y.key, .int .i64 Y.t, .int .i64 Y.i, .int .i64 Y.q, .string Y.o, .slice ay Y.len cy] 39)
             have hne2 : w2.heap.size ≠ w.heap.size := by have := hbW.out.size; omega
             generalize World.alloc w2 _ = V at h6 hbV ⊢
             have q1 := B0.out.trans (hbV.mono B0.out.size)
             have q2 := S1.out.below hbV
             exact ⟨w2.heap.size, rfl, rfl, hne2, Lib.hid q1, Lib.hid q2, Lib.hid h6⟩)
  case rest =>
  obtain ⟨B6, rfl, rfl, hB6, B2, S2, R2⟩ := hcut
  clear G B0 S1
  go_upto_region 5 with fail
  go_cut [32] (fun v32 wd => v32 = .bool (b && !newR r Y) ∧ Hid (Below w.heap.size w wd) ∧ Hid (PutS w wd p most F X L r a c))
  case first =>
    obtain ⟨⟨x0, x1, x2, x3, x4, x5⟩, -⟩ := six S2.out.2.1
    obtain ⟨⟨y0, y1, y2, y3, y4, y5⟩, -⟩ := six R2.out
    cases b with
    | true =>
      go_wp2_with fail
      refine (NW.out Y wc).mono ?_
      rintro e w3 ⟨rfl, hb⟩
      have B3 := Lib.hid (B2.out.trans (hb.mono B2.out.size))
      have S3 := Lib.hid (S2.out.below hb)
      clear hb
      go_wp2_with fail
      go_meet
      case rel => exact ⟨by rw [Bool.true_and], B3, S3⟩
    | false =>
      go_wp2_with fail
      go_meet
      case rel => exact ⟨rfl, B2, S2⟩
  case rest =>
  obtain ⟨rfl, B3, S3⟩ := hcut
  clear B2 S2 R2
  by_cases hq : (b && !newR r Y) = true
  case pos =>
    rw [hq]
    have Q := Lib.hid (P.out (.returned (.int .i64 11)) wc (by
      have h := HPX.out
      have hb : b = true := (Bool.and_eq_true_iff.1 hq).1
      have hN : newR r Y = false := by have := (Bool.and_eq_true_iff.1 hq).2; cases hh : newR r Y; rfl; rw [hh] at this; cases this
      rw [hb, hN, if_pos rfl, if_neg (by simp)] at h
      cases h; rfl) (by
      have h := HPX.out
      have hb : b = true := (Bool.and_eq_true_iff.1 hq).1
      have hN : newR r Y = false := by have := (Bool.and_eq_true_iff.1 hq).2; cases hh : newR r Y; rfl; rw [hh] at this; cases this
      rw [hb, hN, if_pos rfl, if_neg (by simp)] at h
      cases h
      exact ⟨F, HT.out.1.below B3.out, Grew.refl _ _, (keptNew B3.out).mono (fun _ h _ => h.elim)⟩))
    clear HPX P HF HB HT
    go_wp2_with fail
    go_ret
    exact Q.out
  have hq' : (b && !newR r Y) = false := by simpa using hq
  rw [hq']
  have hmc := S3.out.1.most
  obtain ⟨mc, mp⟩ := hmc
  go_upto_region 7 with fail
  go_cut [43] (fun v43 we => v43 = .bool (!b && decide (most ≤ (L.length : Int))) ∧ Hid (Below w.heap.size w we) ∧ Hid (PutS w we p most F X L r a c))
  case first =>
    have LN := Lib.hid (fun w' hb => tabLen w' p most F (fun k => X k ∨ k = w.heap.size) L (S3.out.1.below (w' := w') hb))
    have D := Lib.hid (drewB wc)
    have DQ := Lib.hid (p := ∀ q, Below w.heap.size w (wc.drewN q) ∧ PutS w (wc.drewN q) p most F X L r a c) (fun q => ⟨B3.out.trans (show Below w.heap.size wc (wc.drewN q) from ⟨rfl, rfl, rfl, Nat.le_refl _, fun _ _ => rfl⟩), S3.out.below ⟨rfl, rfl, rfl, Nat.le_refl _, fun _ _ => rfl⟩⟩)
    cases b with
    | true =>
      go_wp2_with (go_quiet (fail))
      go_meet
      case rel => exact ⟨rfl, Lib.hid (DQ.out _).1, Lib.hid (DQ.out _).2⟩
    | false =>
      have DW := Lib.hid (And.intro (B3.out.trans ((drewB wc).mono B3.out.size)) (S3.out.below (drewB wc)))
      go_region_with (first
        | (go_at_call 23
           refine (LN.out wc.drew (drewB wc)).mono ?_
           rintro e w1 ⟨rfl, rfl⟩)
        | fail)
      all_goals
        go_wp2_with fail
        go_meet
        case rel => exact ⟨rfl, Lib.hid DW.out.1, Lib.hid DW.out.2⟩
  case rest =>
  obtain ⟨rfl, B4, S4⟩ := hcut
  clear B3 S3 mc mp
  go_upto_if 43 with fail
  go_cut [] (fun wc => ∃ (F1 : Nat → Prop) (L1 : List RD), Hid (PutS w wc p most F1 X L1 r a c) ∧ Hid (Grew w F F1 ∧ Kept F w wc) ∧ Hid ((E, L') = (0, putT L1 (twR r)) ∧ L1.length ≤ 1000))
  case first =>
    have K4 := Lib.hid (show Kept F w wc from (keptNew B4.out).mono (fun _ h _ => h.elim))
    cases b with
    | true =>
      rw [show (!true && decide (most ≤ (L.length : Int))) = false from rfl]
      have hN : newR r Y = true := by cases hh : newR r Y; rw [hh] at hq'; cases hq'; rfl
      have H5 := Lib.hid (show (E, L') = (0, putT L (twR r)) ∧ L.length ≤ 1000 from ⟨by have h := HPX.out; rw [hN, if_pos rfl, if_pos rfl] at h; exact h, hn⟩)
      go_wp2_with fail
      go_meet
      case rel => exact ⟨F, L, S4, Lib.hid ⟨Grew.refl _ _, K4.out⟩, H5⟩
    | false =>
      by_cases hl : most ≤ (L.length : Int)
      case neg =>
        have hl2 : decide (most ≤ (L.length : Int)) = false := decide_eq_false hl
        rw [show (!false && decide (most ≤ (L.length : Int))) = false by rw [hl2]; rfl]
        have H5 := Lib.hid (show (E, L') = (0, putT L (twR r)) ∧ L.length ≤ 1000 from ⟨by have h := HPX.out; rw [if_neg (by simp), if_pos (by omega)] at h; exact h, hn⟩)
        go_wp2_with fail
        go_meet
        case rel => exact ⟨F, L, S4, Lib.hid ⟨Grew.refl _ _, K4.out⟩, H5⟩
      have hl2 : decide (most ≤ (L.length : Int)) = true := decide_eq_true hl
      rw [show (!false && decide (most ≤ (L.length : Int))) = true by rw [hl2]; rfl]
      have HPY := Lib.hid (show (E, L') = fullX r L by have h := HPX.out; rw [if_neg (by simp), if_neg (by omega)] at h; exact h)
      obtain ⟨z0, l0, hL⟩ : ∃ z0 l0, L = z0 :: l0 := by
        cases L with
        | nil => simp at hl; omega
        | cons z0 l0 => exact ⟨z0, l0, rfl⟩
      obtain ⟨z, hz⟩ : ∃ z, leastK z0 L = z := ⟨_, rfl⟩
      have HPZ := Lib.hid (show (E, L') = if newR r z = true then (0, putT (dropT L z.key) (twR r)) else (9, L) by
        have h := HPY.out
        rw [hL] at h hz ⊢
        rw [← hz]
        exact h)
      have EL := Lib.hid (eldest_any wc p most F (fun k => X k ∨ k = w.heap.size) L z0 (by omega) (by rw [hL]; rfl) S4.out.1)
      rw [hz] at EL
      clear HPX HPY hL hz
      go_wp2_with fail
      refine EL.out.mono ?_
      rintro e w5 ⟨⟨az, cz, rfl⟩, hb⟩
      unfold rowV
      go_upto_region 9 with fail
      generalize hV : World.alloc w5 _ = V
      have hb2 : Below w5.heap.size w5 V := by rw [← hV]; exact (Below.refl _ _).alloc (Nat.le_refl _) _
      have h1 : V.heap[w5.heap.size]? = some (rowO z az cz) := by rw [← hV]; exact heap_alloc_new w5 _
      have hb3 := hb.trans (hb2.mono hb.size)
      have S5 := Lib.hid (S4.out.below hb3)
      have B5 := Lib.hid (B4.out.trans (hb3.mono B4.out.size))
      have R5 := Lib.hid h1
      clear hV hb2 h1 hb hb3 S4 B4 EL K4
      obtain ⟨⟨x0, x1, x2, x3, x4, x5⟩, -⟩ := six S5.out.2.1
      obtain ⟨⟨y0, y1, y2, y3, y4, y5⟩, -⟩ := six R5.out
      go_wp2_with fail
      refine (NW.out z V).mono ?_
      rintro e w6 ⟨rfl, hb⟩
      have S6 := Lib.hid (S5.out.below hb)
      have B6' := Lib.hid (B5.out.trans (hb.mono B5.out.size))
      have R6 := Lib.hid ((hb.block _ (lt_of_block R5.out)).trans R5.out)
      clear hb x0 x1 x2 x3 x4 x5 y0 y1 y2 y3 y4 y5 S5 B5 R5
      by_cases hN : newR r z = true
      case neg =>
        have hN' : newR r z = false := by simpa using hN
        rw [hN']
        have Q := Lib.hid (P.out (.returned (.int .i64 9)) w6 (by have h := HPZ.out; rw [if_neg hN] at h; cases h; rfl) (by
          have h := HPZ.out
          rw [if_neg hN] at h
          cases h
          exact ⟨F, HT.out.1.below B6'.out, Grew.refl _ _, (keptNew B6'.out).mono (fun _ h _ => h.elim)⟩))
        clear HPZ P HF HB HT
        go_wp2_with fail
        go_ret
        exact Q.out
      rw [hN]
      have H7 := Lib.hid (show (E, L') = (0, putT (dropT L z.key) (twR r)) ∧ (dropT L z.key).length ≤ 1000 from ⟨by have h := HPZ.out; rw [if_pos hN] at h; exact h, Nat.le_trans (dropT_len _ _) hn⟩)
      have S7 := Lib.hid (p := PutS w w6.drew p most F X L r a c) (S6.out.below (drewB w6))
      have B7 := Lib.hid (p := Below w.heap.size w w6.drew) (B6'.out.trans ((drewB w6).mono B6'.out.size))
      have DR := Lib.hid (tabDrop w6.drew p most F (fun k => X k ∨ k = w.heap.size) L z.key (by omega) S7.out.1)
      obtain ⟨⟨y0, y1, y2, y3, y4, y5⟩, -⟩ := six R6.out
      clear y1 y2 y3 y4 y5 HPZ hN S6
      go_upto_region 11 with fail
      go_region_with (first
        | (go_at_call 38
           refine DR.out.mono ?_
           rintro e w8 ⟨rfl, F2, ht, hg, hk⟩
           have S8 := Lib.hid (S7.out.turn ht hg hk B7.out.size)
           have G8 := Lib.hid (show Grew w F F2 ∧ Kept F w w8 from ⟨(Grew.refl w F).trans hg B7.out.size, ((keptNew B7.out).mono (T := F) (fun _ h _ => h.elim)).trans hk (fun _ h _ => h)⟩)
           clear ht hg hk)
        | fail)
      all_goals
        go_wp2_with fail
        go_meet
        case rel => exact ⟨F2, dropT L z.key, S8, G8, H7⟩
  case rest =>
  obtain ⟨F1, L1, S9, G9, H9⟩ := hcut
  clear B4 S4 HPX NW
  obtain ⟨⟨x0, x1, x2, x3, x4, x5⟩, -⟩ := six S9.out.2.1
  go_wp2_with fail
  refine (own_any r a c HF.out HB.out.1 wc S9.out.2.2.plain).mono ?_
  rintro e w10 ⟨⟨b', d', he, hr, hf, hq⟩, hb⟩
  obtain rfl : e = .returned (.agg #[.string r.key, .int .i64 r.t, .int .i64 r.i, .int .i64 r.q, .string r.o, .slice b' r.len d']) := he
  have S10 := Lib.hid (S9.out.below hb)
  have K10 := Lib.hid (show Kept F w w10 from G9.out.2.trans (keptNew hb) (fun _ h _ => h.elim))
  have R10 := Lib.hid hr
  have hz10 := hb.size
  have hwc := lt_of_block S9.out.2.1
  have HFL := Lib.hid (p := ∀ k, (F1 k ∨ (X k ∨ k = w.heap.size)) → k < wc.heap.size) (fun k h => h.elim (S9.out.1.lt k) (fun h => (S9.out.1.apart k h).2))
  clear x0 x1 x2 x3 x4 x5 hr hf hq hb S9
  obtain ⟨⟨x0, x1, x2, x3, x4, x5⟩, ⟨z0, z1, z2, z3, z4, z5⟩⟩ := six S10.out.2.1
  go_upto_region 13 with fail
  have h6 := six_set S10.out.2.1 (.string r.key) (.int .i64 r.t) (.int .i64 r.i) (.int .i64 r.q) (.string r.o) (.slice b' r.len d')
  have k6 := six_kept w10 w.heap.size (.string r.key) (.int .i64 r.t) (.int .i64 r.i) (.int .i64 r.q) (.string r.o) (.slice b' r.len d')
  generalize World.setCell _ (⟨w.heap.size, 5, none⟩ : Addr) _ = W6 at h6 k6 ⊢
  have hbB := S10.out.1.apart _ (.inr rfl)
  have T6 := Lib.hid (S10.out.1.keptX k6 (fun k hk => .inl (.inr hk)))
  have A6 := Lib.hid (p := ReadsAG (fun k => ¬ (F1 k ∨ (X k ∨ k = w.heap.size))) W6 b' r.len (twF r.A)) ((R10.out.kept k6 (fun k h1 h2 => by omega)).mono (fun k h _ hf => by have := HFL.out k hf; omega))
  have K6 := Lib.hid (show Kept F w W6 from K10.out.trans k6 (fun k h hl => by omega))
  have U6 := Lib.hid h6
  clear x0 x1 x2 x3 x4 x5 z0 z1 z2 z3 z4 z5 h6 k6 S10 R10 K10
  obtain ⟨⟨x0, x1, x2, x3, x4, x5⟩, -⟩ := six U6.out
  go_region_with (first
    | (go_at_call 40
       refine (tabPut W6.drew p most F1 (fun k => X k ∨ k = w.heap.size) L1 (twR r) b' d' (by have := H9.out.2; omega) (T6.out.below (drewB W6)) (A6.out.kept (keptNew (drewB W6)) (fun _ _ h => h))).mono ?_
       rintro e w11 ⟨rfl, F3, ht, hg, hk⟩
       have Q := Lib.hid (P.out (.returned (.int .i64 0)) w11 (by have h := H9.out.1; cases h; rfl) (by
         have h := H9.out.1
         cases h
         exact ⟨F3, ht.more (Kept.refl _ _) (fun k hx => ⟨.inl (.inl hx), (ht.apart k (.inl hx)).2⟩), G9.out.1.trans hg K6.out.size, K6.out.drew.trans hk (fun i h1 h2 => (G9.out.1 i h1).elim (fun h => h) (fun h => by omega))⟩))
       clear ht hg hk)
    | fail)
  all_goals
    clear P HF HB HT T6 A6 K6 U6 H9 G9
    go_wp2_with fail
    go_ret
    exact Q.out

end Go.Proofs.Ytikifgenfpkidaa
