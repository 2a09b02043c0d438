/-
  No statement: the walk of StampNewest (P301).
-/
import Derived.Test.YtdghknmlleffbaaDoorStAt
import Derived.Test.YtdghknmlleffbaaDoorFour
import Derived.Test.YtdghknmlleffbaaDoorSTurn
import Derived.LoopTactic
import Derived.IntWalk
import Derived.Deep.Cut
import Derived.StillTailTactics
namespace Go.Proofs.YtdghknmlleffbaaDoor
open Go.RowKit

/-- The cells of a stamp. -/
structure S4 where
  t : Int
  i : Int
  q : Int
  o : ByteArray

def S4.cmp (x y : S4) : Int := cmpSt x.t x.i x.q x.o y.t y.i y.q y.o
abbrev S4.v (x : S4) : Value := .agg #[.int .i64 x.t, .int .i64 x.i, .int .i64 x.q, .string x.o]

/-- A []stamp.Stamp reads as a row of stamps. -/
def ReadsS (w : World) (a : Option Addr) (len : Nat) (S : Nat → S4) : Prop :=
  len ≤ maxLen ∧ (len = 0 ∨ ∃ b off, a = some ⟨b, off, none⟩ ∧ ∀ j, j < len → w.cell? ⟨b, off + j * 4, none⟩ = some (.int .i64 (S j).t) ∧ w.cell? ⟨b, off + j * 4 + 1, none⟩ = some (.int .i64 (S j).i) ∧ w.cell? ⟨b, off + j * 4 + 2, none⟩ = some (.int .i64 (S j).q) ∧ w.cell? ⟨b, off + j * 4 + 3, none⟩ = some (.string (S j).o))

theorem ReadsS.kept {w w' : World} {a : Option Addr} {len : Nat} {S : Nat → S4} (h : ReadsS w a len S) (hb : Below w.heap.size w w') : ReadsS w' a len S := by
  refine ⟨h.1, h.2.imp id ?_⟩
  rintro ⟨b, off, rfl, hc⟩
  refine ⟨b, off, rfl, fun j hj => ?_⟩
  have h0 := hc j hj
  have hbB : b < w.heap.size := by have := World.block_lt_of_cell? w _ h0.1; simpa using this
  exact ⟨(hb.cell (p := ⟨b, _, none⟩) hbB).trans h0.1, (hb.cell (p := ⟨b, _, none⟩) hbB).trans h0.2.1, (hb.cell (p := ⟨b, _, none⟩) hbB).trans h0.2.2.1, (hb.cell (p := ⟨b, _, none⟩) hbB).trans h0.2.2.2⟩

theorem S4.trans {x y z : S4} (h1 : x.cmp y ≤ 0) (h2 : y.cmp z ≤ 0) : x.cmp z ≤ 0 := (ordSt x.t x.i x.q x.o y.t y.i y.q y.o z.t z.i z.q z.o h1 h2).1
theorem S4.self (x : S4) : x.cmp x ≤ 0 := by unfold S4.cmp; rw [cmpSt_self]; exact Int.le_refl _

theorem S4.bounds (x y : S4) : x.cmp y = -1 ∨ x.cmp y = 0 ∨ x.cmp y = 1 := cmpSt_bounds _ _ _ _ _ _ _ _

theorem S4.turn (x y : S4) : y.cmp x = -(x.cmp y) := cmpSt_turn _ _ _ _ _ _ _ _

theorem turn_to (tn : Nat) {i len : Nat} (hi : i < len) : ∃ j, j < len ∧ (j + tn) % len = i := by
  refine ⟨(i + (len - tn % len)) % len, Nat.mod_lt _ (by omega), ?_⟩
  have h : tn % len < len := Nat.mod_lt _ (by omega)
  rw [Nat.mod_add_mod, show i + (len - tn % len) + tn = i + len * (1 + tn / len) by
    have := Nat.div_add_mod tn len
    rw [Nat.mul_add, Nat.mul_one]
    omega, Nat.add_mul_mod_self_left, Nat.mod_eq_of_lt hi]

/-- What the walk keeps: a is the greatest of the first k, b of the first k behind the turn. -/
structure NwI (w1 wr : World) (A b off len tn : Nat) (S : Nat → S4) (p q k m : Nat) : Prop where
  bl : Below A w1 wr
  ha : StAt A (S p).t (S p).i (S p).q (S p).o wr
  hb : StAt (A + 1) (S q).t (S q).i (S q).q (S q).o wr
  pl : p < len
  ql : q < len
  da : ∀ j, j < k → (S j).cmp (S p) ≤ 0
  db : ∀ j, j < m → (S ((j + tn) % len)).cmp (S q) ≤ 0

theorem NwI.kept {w1 wr w' : World} {A b off len tn : Nat} {S : Nat → S4} {p q k m : Nat} (h : NwI w1 wr A b off len tn S p q k m) (hb : Below wr.heap.size wr w') : NwI w1 w' A b off len tn S p q k m :=
  ⟨h.bl.trans (hb.mono (Nat.le_of_lt (lt_of_block h.ha))), h.ha.kept hb, h.hb.kept hb, h.pl, h.ql, h.da, h.db⟩

/-- The four cells of a row's stamp. -/
def Cells4 (w : World) (b off k : Nat) (x : S4) : Prop := w.cell? ⟨b, off + k * 4, none⟩ = some (.int .i64 x.t) ∧ w.cell? ⟨b, off + k * 4 + 1, none⟩ = some (.int .i64 x.i) ∧ w.cell? ⟨b, off + k * 4 + 2, none⟩ = some (.int .i64 x.q) ∧ w.cell? ⟨b, off + k * 4 + 3, none⟩ = some (.string x.o)

theorem Cells4.below {A : Nat} {w w' : World} {b off k : Nat} {x : S4} (h : Cells4 w b off k x) (hb : Below A w w') (hA : b < A) : Cells4 w' b off k x :=
  ⟨(hb.cell (p := ⟨b, _, none⟩) hA).trans h.1, (hb.cell (p := ⟨b, _, none⟩) hA).trans h.2.1, (hb.cell (p := ⟨b, _, none⟩) hA).trans h.2.2.1, (hb.cell (p := ⟨b, _, none⟩) hA).trans h.2.2.2⟩

set_option maxRecDepth 100000 in
set_option maxHeartbeats 4000000 in
theorem newest_walk (a : Option Addr) (len cap : Nat) (S : Nat → S4) (hS : ∀ j, (S j).o.size ≤ maxLen) (tn : Nat) (htn : tn < 256) (w : World) (hr : ReadsS w a len S) (hw : LaidT w) :
    Calls Tryd.prog 7 #[.slice a len cap, .int .u8 tn] w fun e w' => e = .returned (.bool true) ∧ Below w.heap.size w w' := by
  have HR := Lib.hid hr
  have HS := Lib.hid hS
  clear hr hS
  go_enter Tryd.func7, Tryd.ntmps7
  go_wp2_with fail
  refine (knownS_any _ hw).mono ?_
  rintro e w1 ⟨rfl, hb⟩
  have R1 := Lib.hid (HR.out.kept hb)
  have D1 := Lib.hid hb
  clear hb HR hw
  by_cases h0 : len = 0
  · subst h0
    go_wp2_with fail
    go_ret
    exact ⟨rfl, D1.out⟩
  by_cases h40 : 40 < len
  · have h1 : ((len : Int) == 0) = false := by rw [beq_eq_false_iff_ne]; omega
    have hm := R1.out.1
    unfold maxLen at hm
    go_wp2_with fail
    go_ret
    exact ⟨rfl, D1.out⟩
  obtain ⟨-, rfl | ⟨b, off, rfl, hc⟩⟩ := R1.out
  · exact absurd rfl h0
  have HC := Lib.hid hc
  obtain ⟨c0, c1, c2, c3⟩ := hc 0 (by omega)
  have h1 : ((len : Int) == 0) = false := by rw [beq_eq_false_iff_ne]; omega
  have m0 : (0 : Int) ≤ (tn : Int) % (len : Int) := Int.emod_nonneg _ (by omega)
  have m1 : (tn : Int) % (len : Int) < (len : Int) := Int.emod_lt_of_pos _ (by omega)
  obtain ⟨p, hp⟩ : ∃ p, tn % len = p := ⟨_, rfl⟩
  have hpl : p < len := by rw [← hp]; exact Nat.mod_lt _ (by omega)
  have m2 : (tn : Int) % (len : Int) = (p : Int) := by rw [← hp]; exact (Int.natCast_emod _ _).symm
  have hbB : b < w1.heap.size := by have := World.block_lt_of_cell? w1 _ c0; simpa using this
  have hal : ∀ o, Below w1.heap.size w1 (w1.alloc o) := fun o => (Below.refl _ _).alloc (Nat.le_refl _) o
  have d0 := fun o => ((hal o).cell (p := ⟨b, _, none⟩) hbB).trans (hc p hpl).1
  have d1 := fun o => ((hal o).cell (p := ⟨b, _, none⟩) hbB).trans (hc p hpl).2.1
  have d2 := fun o => ((hal o).cell (p := ⟨b, _, none⟩) hbB).trans (hc p hpl).2.2.1
  have d3 := fun o => ((hal o).cell (p := ⟨b, _, none⟩) hbB).trans (hc p hpl).2.2.2
  clear hc hal
  rw [Nat.zero_mul, Nat.add_zero] at c0 c1 c2 c3
  go_wp2_with fail
  generalize hV : World.alloc (World.alloc w1 _) _ = V
  have I0 : Hid (NwI w1 V w1.heap.size b off len tn S 0 p 0 0) := Lib.hid (by
    refine ⟨?_, ?_, ?_, by omega, hpl, fun j h => by omega, fun j h => by omega⟩
    · rw [← hV]; exact ((Below.refl _ _).alloc (Nat.le_refl _) _).alloc (by simp) _
    · rw [← hV]; exact (Below.heap_alloc _ _ _ (by simp)).trans (World.alloc_heap_new w1 _)
    · rw [← hV]
      have := World.alloc_heap_new (w1.alloc (.cells #[.int .i64 (S 0).t, .int .i64 (S 0).i, .int .i64 (S 0).q, .string (S 0).o] 43)) (.cells #[.int .i64 (S p).t, .int .i64 (S p).i, .int .i64 (S p).q, .string (S p).o] 43)
      rwa [World.size_alloc] at this)
  obtain ⟨A, hA⟩ : ∃ A, w1.heap.size = A := ⟨_, rfl⟩
  rw [hA] at hbB I0 ⊢
  clear hV c0 c1 c2 c3 d0 d1 d2 d3 m0 m1 m2 hp hpl
  have hC4 := Lib.hid (fun k (hk : k < len) => (show Cells4 w1 b off k (S k) from HC.out k hk))
  clear HC R1
  have hln : len ≤ 40 := by omega
  go_loopw [7] (fun i wr => ∃ k p q : Nat, k ≤ len ∧ i = .int .i64 k ∧ Hid (NwI w1 wr A b off len tn S p q k k)) (fun i _ => len - (intOf i).toNat)
  case atStart => exact ⟨0, 0, p, Nat.zero_le _, rfl, I0⟩
  case round =>
    clear I0
    obtain ⟨k, p, q, hk, rfl, hI⟩ := hrel
    by_cases hlt : k < len
    · obtain ⟨c0, c1, c2, c3⟩ := (hC4.out k hlt).below hI.out.bl hbB
      obtain ⟨⟨x0, x1, x2, x3⟩, -, -, -, -⟩ := four hI.out.ha
      by_cases hbig : 100 < (S k).o.size
      · have hsz := HS.out k
        unfold maxLen at hsz
        go_wp2_with fail
        go_ret
        exact ⟨rfl, D1.out.trans (hI.out.bl.mono (by have := D1.out.size; omega))⟩
      · have hsz : (S k).o.size ≤ 100 := by omega
        have CN := stampNewer_any (S k).t (S k).i (S k).q (S k).o (S p).t (S p).i (S p).q (S p).o wr.drew
        have hcmp : cmpSt (S k).t (S k).i (S k).q (S k).o (S p).t (S p).i (S p).q (S p).o = (S k).cmp (S p) := rfl
        rw [hcmp] at CN
        have bo := S4.bounds (S k) (S p)
        have r1 : (k + tn) % len < len := Nat.mod_lt _ (by omega)
        obtain ⟨r, hr⟩ : ∃ r, (k + tn) % len = r := ⟨_, rfl⟩
        rw [hr] at r1
        have m0 : (0 : Int) ≤ ((k : Int) + (tn : Int)) % (len : Int) := Int.emod_nonneg _ (by omega)
        have m1 : ((k : Int) + (tn : Int)) % (len : Int) < (len : Int) := Int.emod_lt_of_pos _ (by omega)
        have m2 : ((k : Int) + (tn : Int)) % (len : Int) = (r : Int) := by rw [← hr]; exact (Int.natCast_emod _ _).symm
        cases hx : ((S k).cmp (S p) == 1) with
        | true =>
          rw [hx] at CN
          have CN := Lib.hid CN
          clear bo
          go_wp2_with fail
          go_still_tail 5, (by kernel_rfl)
          change wpList _ _ _ _ _ wr.drew
          go_wp2_with fail
          refine CN.out.mono ?_
          rintro e w2 ⟨rfl, hb⟩
          have hb' : Below wr.heap.size wr w2 := ((Below.refl wr.heap.size wr).drew).trans hb
          have I2 := Lib.hid (hI.out.kept hb')
          clear hb hb' CN hI c0 c1 c2 c3 x0 x1 x2 x3
          obtain ⟨c0, c1, c2, c3⟩ := (hC4.out k hlt).below I2.out.bl hbB
          obtain ⟨⟨x0, x1, x2, x3⟩, f0, f1, f2, f3⟩ := four I2.out.ha
          have NE : A + 1 ≠ A := by omega
          have bl3 := four_below I2.out.bl (Nat.le_refl A) (.int .i64 (S k).t) (.int .i64 (S k).i) (.int .i64 (S k).q) (.string (S k).o)
          have ha3 := four_set I2.out.ha (.int .i64 (S k).t) (.int .i64 (S k).i) (.int .i64 (S k).q) (.string (S k).o)
          have hb3 := (four_other (W := w2) NE (.int .i64 (S k).t) (.int .i64 (S k).i) (.int .i64 (S k).q) (.string (S k).o)).trans I2.out.hb
          have I3 := Lib.hid (NwI.mk (b := b) (off := off) (p := k) (tn := tn) (k := k + 1) (m := k) bl3 ha3 hb3 hlt I2.out.ql (fun j hj => by
            by_cases e : j = k
            · subst e; exact S4.self _
            · exact S4.trans (I2.out.da j (by omega)) (by have := S4.turn (S k) (S p); have := beq_iff_eq.1 hx; omega)) I2.out.db)
          clear ha3 hb3 bl3 NE
          go_upto_region 14 with fail
          generalize World.setCell (World.setCell (World.setCell (World.setCell w2 _ _) _ _) _ _) _ _ = W3 at I3 ⊢
          clear I2 c0 c1 c2 c3 x0 x1 x2 x3 f0 f1 f2 f3
          obtain ⟨e0, e1, e2, e3⟩ := (hC4.out r r1).below I3.out.bl hbB
          go_upto_region 15 with fail
          generalize hX : W3.heap.size = X
          generalize hW4 : World.alloc W3 _ = W4
          have hbl : Below W3.heap.size W3 W4 := by rw [← hW4]; exact (Below.refl _ _).alloc (Nat.le_refl _) _
          have hx4 : StAt X (S r).t (S r).i (S r).q (S r).o W4 := by rw [← hW4, ← hX]; exact World.alloc_heap_new W3 _
          have I4 := Lib.hid (I3.out.kept hbl)
          have X4 := Lib.hid hx4
          have nx : X ≠ A ∧ X ≠ A + 1 := by have := lt_of_block I3.out.hb; omega
          clear hbl hx4 hW4 hX e0 e1 e2 e3 I3
          obtain ⟨y0, y1, y2, y3⟩ := (four I4.out.hb).1
          obtain ⟨z0, z1, z2, z3⟩ := (four X4.out).1
          have bo2 := S4.bounds (S r) (S q)
          have CN := stampNewer_any (S r).t (S r).i (S r).q (S r).o (S q).t (S q).i (S q).q (S q).o W4
          have hcmp : cmpSt (S r).t (S r).i (S r).q (S r).o (S q).t (S q).i (S q).q (S q).o = (S r).cmp (S q) := rfl
          rw [hcmp] at CN
          clear hcmp
          cases hy : ((S r).cmp (S q) == 1) with
          | true =>
            rw [hy] at CN
            have CN := Lib.hid CN
            clear bo2
            go_wp2_with fail
            refine CN.out.mono ?_
            rintro e w5 ⟨rfl, hb⟩
            have hb' : Below W4.heap.size W4 w5 := hb
            have I5 := Lib.hid (I4.out.kept hb')
            have X5 := Lib.hid (X4.out.kept hb')
            clear hb hb' CN I4 X4 y0 y1 y2 y3 z0 z1 z2 z3
            obtain ⟨⟨y0, y1, y2, y3⟩, f0, f1, f2, f3⟩ := four I5.out.hb
            obtain ⟨z0, z1, z2, z3⟩ := (four X5.out).1
            have bl6 := four_below I5.out.bl (Nat.le_succ A) (.int .i64 (S r).t) (.int .i64 (S r).i) (.int .i64 (S r).q) (.string (S r).o)
            have hb6 := four_set I5.out.hb (.int .i64 (S r).t) (.int .i64 (S r).i) (.int .i64 (S r).q) (.string (S r).o)
            have ha6 := (four_other (W := w5) (show A ≠ A + 1 by omega) (.int .i64 (S r).t) (.int .i64 (S r).i) (.int .i64 (S r).q) (.string (S r).o)).trans I5.out.ha
            have I6 := Lib.hid (NwI.mk (b := b) (off := off) (p := k) (q := r) (tn := tn) (k := k + 1) (m := k + 1) bl6 ha6 hb6 I5.out.pl r1 I5.out.da (fun j hj => by
              by_cases e : j = k
              · subst e; rw [hr]; exact S4.self _
              · exact S4.trans (I5.out.db j (by omega)) (by have := S4.turn (S r) (S q); have := beq_iff_eq.1 hy; omega)))
            clear ha6 hb6 bl6 I5 X5
            go_upto_region 9 with fail
            generalize World.setCell (World.setCell (World.setCell (World.setCell w5 _ _) _ _) _ _) _ _ = W6 at I6 ⊢
            clear y0 y1 y2 y3 f0 f1 f2 f3 z0 z1 z2 z3
            go_wp2_with fail
            go_roundw
            case rel => exact ⟨k + 1, k, r, by omega, by go_num, I6⟩
            case measure => simp [intOf]; omega
          | false =>
            rw [hy] at CN
            have CN := Lib.hid CN
            go_wp2_with fail
            refine CN.out.mono ?_
            rintro e w5 ⟨rfl, hb⟩
            have hb' : Below W4.heap.size W4 w5 := hb
            have I5 := I4.out.kept hb'
            have I6 := Lib.hid (NwI.mk (b := b) (off := off) (p := k) (q := q) (tn := tn) (k := k + 1) (m := k + 1) I5.bl I5.ha I5.hb I5.pl I5.ql I5.da (fun j hj => by
              by_cases e : j = k
              · subst e; rw [hr]; have : ¬ (S r).cmp (S q) = 1 := fun e => by rw [e] at hy; cases hy
                omega
              · exact I5.db j (by omega)))
            clear hb hb' CN I4 X4 I5 y0 y1 y2 y3 z0 z1 z2 z3 bo2
            go_wp2_with fail
            go_roundw
            case rel => exact ⟨k + 1, k, q, by omega, by go_num, I6⟩
            case measure => simp [intOf]; omega
        | false =>
          rw [hx] at CN
          have CN := Lib.hid CN
          go_wp2_with fail
          go_still_tail 5, (by kernel_rfl)
          change wpList _ _ _ _ _ wr.drew
          go_wp2_with fail
          refine CN.out.mono ?_
          rintro e W3 ⟨rfl, hb⟩
          have hb' : Below wr.heap.size wr W3 := ((Below.refl wr.heap.size wr).drew).trans hb
          have I2 := hI.out.kept hb'
          have I3 := Lib.hid (NwI.mk (b := b) (off := off) (p := p) (tn := tn) (k := k + 1) (m := k) I2.bl I2.ha I2.hb I2.pl I2.ql (fun j hj => by
            by_cases e : j = k
            · subst e; have : ¬ (S j).cmp (S p) = 1 := fun e => by rw [e] at hx; cases hx
              omega
            · exact I2.da j (by omega)) I2.db)
          clear hb hb' CN hI I2 c0 c1 c2 c3 x0 x1 x2 x3 bo
          obtain ⟨e0, e1, e2, e3⟩ := (hC4.out r r1).below I3.out.bl hbB
          go_upto_region 15 with fail
          generalize hX : W3.heap.size = X
          generalize hW4 : World.alloc W3 _ = W4
          have hbl : Below W3.heap.size W3 W4 := by rw [← hW4]; exact (Below.refl _ _).alloc (Nat.le_refl _) _
          have hx4 : StAt X (S r).t (S r).i (S r).q (S r).o W4 := by rw [← hW4, ← hX]; exact World.alloc_heap_new W3 _
          have I4 := Lib.hid (I3.out.kept hbl)
          have X4 := Lib.hid hx4
          have nx : X ≠ A ∧ X ≠ A + 1 := by have := lt_of_block I3.out.hb; omega
          clear hbl hx4 hW4 hX e0 e1 e2 e3 I3
          obtain ⟨y0, y1, y2, y3⟩ := (four I4.out.hb).1
          obtain ⟨z0, z1, z2, z3⟩ := (four X4.out).1
          have bo2 := S4.bounds (S r) (S q)
          have CN := stampNewer_any (S r).t (S r).i (S r).q (S r).o (S q).t (S q).i (S q).q (S q).o W4
          have hcmp : cmpSt (S r).t (S r).i (S r).q (S r).o (S q).t (S q).i (S q).q (S q).o = (S r).cmp (S q) := rfl
          rw [hcmp] at CN
          clear hcmp
          cases hy : ((S r).cmp (S q) == 1) with
          | true =>
            rw [hy] at CN
            have CN := Lib.hid CN
            clear bo2
            go_wp2_with fail
            refine CN.out.mono ?_
            rintro e w5 ⟨rfl, hb⟩
            have hb' : Below W4.heap.size W4 w5 := hb
            have I5 := Lib.hid (I4.out.kept hb')
            have X5 := Lib.hid (X4.out.kept hb')
            clear hb hb' CN I4 X4 y0 y1 y2 y3 z0 z1 z2 z3
            obtain ⟨⟨y0, y1, y2, y3⟩, f0, f1, f2, f3⟩ := four I5.out.hb
            obtain ⟨z0, z1, z2, z3⟩ := (four X5.out).1
            have bl6 := four_below I5.out.bl (Nat.le_succ A) (.int .i64 (S r).t) (.int .i64 (S r).i) (.int .i64 (S r).q) (.string (S r).o)
            have hb6 := four_set I5.out.hb (.int .i64 (S r).t) (.int .i64 (S r).i) (.int .i64 (S r).q) (.string (S r).o)
            have ha6 := (four_other (W := w5) (show A ≠ A + 1 by omega) (.int .i64 (S r).t) (.int .i64 (S r).i) (.int .i64 (S r).q) (.string (S r).o)).trans I5.out.ha
            have I6 := Lib.hid (NwI.mk (b := b) (off := off) (p := p) (q := r) (tn := tn) (k := k + 1) (m := k + 1) bl6 ha6 hb6 I5.out.pl r1 I5.out.da (fun j hj => by
              by_cases e : j = k
              · subst e; rw [hr]; exact S4.self _
              · exact S4.trans (I5.out.db j (by omega)) (by have := S4.turn (S r) (S q); have := beq_iff_eq.1 hy; omega)))
            clear ha6 hb6 bl6 I5 X5
            go_upto_region 9 with fail
            generalize World.setCell (World.setCell (World.setCell (World.setCell w5 _ _) _ _) _ _) _ _ = W6 at I6 ⊢
            clear y0 y1 y2 y3 f0 f1 f2 f3 z0 z1 z2 z3
            go_wp2_with fail
            go_roundw
            case rel => exact ⟨k + 1, p, r, by omega, by go_num, I6⟩
            case measure => simp [intOf]; omega
          | false =>
            rw [hy] at CN
            have CN := Lib.hid CN
            go_wp2_with fail
            refine CN.out.mono ?_
            rintro e w5 ⟨rfl, hb⟩
            have hb' : Below W4.heap.size W4 w5 := hb
            have I5 := I4.out.kept hb'
            have I6 := Lib.hid (NwI.mk (b := b) (off := off) (p := p) (q := q) (tn := tn) (k := k + 1) (m := k + 1) I5.bl I5.ha I5.hb I5.pl I5.ql I5.da (fun j hj => by
              by_cases e : j = k
              · subst e; rw [hr]; have : ¬ (S r).cmp (S q) = 1 := fun e => by rw [e] at hy; cases hy
                omega
              · exact I5.db j (by omega)))
            clear hb hb' CN I4 X4 I5 y0 y1 y2 y3 z0 z1 z2 z3 bo2
            go_wp2_with fail
            go_roundw
            case rel => exact ⟨k + 1, p, q, by omega, by go_num, I6⟩
            case measure => simp [intOf]; omega
    · obtain rfl : k = len := by omega
      have hA : ∀ j, j < k → ((S j).cmp (S p) == 1) = false := fun j hj => by
        rw [beq_eq_false_iff_ne]; have := hI.out.da j hj; omega
      have heq : (S p).t = (S q).t ∧ (S p).i = (S q).i ∧ (S p).q = (S q).q ∧ (S p).o = (S q).o := by
        have h1 := hI.out.da q hI.out.ql
        have h2 : (S p).cmp (S q) ≤ 0 := by
          obtain ⟨j, hj, he⟩ := turn_to tn hI.out.pl
          have := hI.out.db j hj
          rwa [he] at this
        have h3 := S4.turn (S p) (S q)
        exact cmpSt_zero.1 (show (S p).cmp (S q) = 0 by omega)
      have hA := Lib.hid hA
      have hE := Lib.hid heq
      clear heq
      go_wp2_with fail
      go_loopw [9] (fun i wx => ∃ j : Nat, j ≤ k ∧ i = .int .i64 j ∧ Hid (NwI w1 wx A b off k tn S p q k k)) (fun i _ => k - (intOf i).toNat)
      case atStart => exact ⟨0, Nat.zero_le _, rfl, hI⟩
      case round =>
        clear hI
        obtain ⟨j, hj, rfl, hJ⟩ := hrel
        obtain ⟨⟨x0, x1, x2, x3⟩, -, -, -, -⟩ := four hJ.out.ha
        by_cases hlj : j < k
        · obtain ⟨c0, c1, c2, c3⟩ := (hC4.out j hlj).below hJ.out.bl hbB
          have CN := stampNewer_any (S j).t (S j).i (S j).q (S j).o (S p).t (S p).i (S p).q (S p).o wr.drew
          have hcmp : cmpSt (S j).t (S j).i (S j).q (S j).o (S p).t (S p).i (S p).q (S p).o = (S j).cmp (S p) := rfl
          rw [hcmp, hA.out j hlj] at CN
          have CN := Lib.hid CN
          clear hcmp
          go_wp2_with fail
          go_still_tail 5, (by kernel_rfl)
          change wpList _ _ _ _ _ wr.drew
          go_wp2_with fail
          refine CN.out.mono ?_
          rintro e w2 ⟨rfl, hb⟩
          have hb' : Below wr.heap.size wr w2 := ((Below.refl wr.heap.size wr).drew).trans hb
          have I2 := Lib.hid (hJ.out.kept hb')
          clear hb hb' CN hJ c0 c1 c2 c3 x0 x1 x2 x3
          go_wp2_with fail
          go_roundw
          case rel => exact ⟨j + 1, by omega, by go_num, I2⟩
          case measure => simp [intOf]; omega
        · obtain ⟨⟨y0, y1, y2, y3⟩, -, -, -, -⟩ := four hJ.out.hb
          rw [← hE.out.1] at y0
          rw [← hE.out.2.1] at y1
          rw [← hE.out.2.2.1] at y2
          rw [← hE.out.2.2.2] at y3
          have F := Lib.hid (D1.out.trans (hJ.out.bl.mono (by have := D1.out.size; omega)))
          go_wp2_with fail
          go_ret
          exact ⟨rfl, F.out⟩

end Go.Proofs.YtdghknmlleffbaaDoor
