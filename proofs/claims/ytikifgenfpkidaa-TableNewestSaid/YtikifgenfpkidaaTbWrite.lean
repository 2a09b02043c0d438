/-
  No statement: what Put of sorted.Map[string, value.Value] does to a map that lies in memory.
-/
import Derived.Test.YtikifgenfpkidaaTbRead
import Derived.Test.YtikifgenfpkidaaInsS
import Derived.Test.YtikifgenfpkidaaInsR
namespace Go.Proofs.Ytikifgenfpkidaa
open Go.RowKit

/-- What a call that turns this seat's map leaves. -/
def TurnedSR (w w' : World) (p : Nat) (most : Int) (F : Nat → Prop) (ks : List ByteArray) (vs : List RC) : Prop :=
  TurnedH 6 w w' 78 9 39 p (.int .i64 most) F (ks.map Value.string) (flatR vs)

theorem oneSSR (ks : List ByteArray) : ∀ u ∈ ks.map Value.string, u.oneCell' = true := by
  intro u hu
  obtain ⟨_, _, rfl⟩ := List.mem_map.1 hu
  rfl

theorem flatR_ins (vs : List RC) (v : RC) (I : Nat) : flatR (vs.take I ++ v :: vs.drop I) = (flatR vs).take (I * 6) ++ v.cs ++ (flatR vs).drop (I * 6) := by
  rw [flatR_append, flatR, flatR_take, flatR_drop, List.append_assoc]

set_option maxHeartbeats 2000000 in
/-- Put of a key that is new. -/
theorem putNewSR (w : World) (p : Nat) (most : Int) (F : Nat → Prop) (ks : List ByteArray) (vs : List RC) (x : ByteArray) (v : RC) (hn : ks.length ≤ 1000000) (hr : Rising lsS ks) (hx : x ∉ ks) (h : MSR w p most F ks vs) :
    Calls Try.prog 40 #[.pointer (some ⟨p, 1, none⟩), .string x, .agg #[.string v.key, .int .i64 v.t, .int .i64 v.i, .int .i64 v.q, .string v.o, .slice v.a v.len v.c]] w fun e w' => e = .returned (.bool true) ∧
      TurnedSR w w' p most F (ks.take (pos lsS ks x) ++ x :: ks.drop (pos lsS ks x)) (vs.take (pos lsS ks x) ++ v :: vs.drop (pos lsS ks x)) := by
  obtain ⟨o, ho⟩ : ∃ o, Obj.cells #[.string v.key, .int .i64 v.t, .int .i64 v.i, .int .i64 v.q, .string v.o, .slice v.a v.len v.c] 39 = o := ⟨_, rfl⟩
  have hkb : Kept (fun _ => False) w (w.alloc o) := (Kept.refl _ w).alloc o
  obtain ⟨ka0, kc0, c00, hL⟩ := lookSR (h.kept hkb (fun _ _ h => h)) hn hr x
  have hvl := h.len
  have hp := pos_le (less := lsS) ks x
  obtain ⟨I, hI⟩ : ∃ I, pos lsS ks x = I := ⟨_, rfl⟩
  have HL := Lib.hid (hL I false hI (has_no hx))
  rw [hI] at hp ⊢
  obtain ⟨ka, kc, va, vc, HF⟩ := MapInH.fields h
  have c0 := cell1_of_three HF.row
  have c1 := cell2_of_three HF.row
  have hpw := HF.plt
  simp only [List.length_map] at c0 c1 HF
  rw [hkb.cell c0 (fun h => h)] at c00
  simp only [Option.some.injEq, Value.slice.injEq] at c00
  obtain ⟨rfl, _, rfl⟩ := c00
  have HP := Lib.hid hp
  have HVL := Lib.hid hvl
  clear hI hL hr hx hp h hvl hkb
  subst ho
  generalize ks.length = n at *
  have H0 := Lib.hid HF
  clear HF
  go_enter Try.func40, Try.ntmps40
  go_wp2_with (go_at_call 58; refine HL.out.mono ?_; rintro e w' ⟨rfl, q, rfl⟩)
  obtain ⟨W, hW⟩ : ∃ W, w.alloc (.cells #[.string v.key, .int .i64 v.t, .int .i64 v.i, .int .i64 v.q, .string v.o, .slice v.a v.len v.c] 39) = W := ⟨_, rfl⟩
  have hkW : Kept (fun _ => False) w W := by rw [← hW]; exact (Kept.refl _ w).alloc _
  have hbx : W.heap[w.heap.size]? = some (.cells #[.string v.key, .int .i64 v.t, .int .i64 v.i, .int .i64 v.q, .string v.o, .slice v.a v.len v.c] 39 (0, 0)) := by rw [← hW]; exact heap_alloc_new w _
  have hsW : W.heap.size = w.heap.size + 1 := by rw [← hW]; simp
  rw [hW]
  have KW := Lib.hid (And.intro hkW hbx)
  clear hW hkW hbx c0 c1
  go_at_call 62
  have k0 : Kept (fun _ => False) w ((W.drewN q).alloc (.cells #[.string x] 9)) := (KW.out.1.drewN q).alloc _
  have F0 := H0.out.kept k0 (fun _ _ h => h)
  have hvb : ((W.drewN q).alloc (.cells #[.string x] 9)).heap[w.heap.size + 1]? = some (.cells #[.string x] 9 (0, 0)) := by
    have := heap_alloc_new (W.drewN q) (.cells #[.string x] 9)
    rwa [show (W.drewN q).heap.size = w.heap.size + 1 from hsW] at this
  refine (insS _ n I (w.heap.size + 1) (ks.map Value.string) (.string x) _ hn HP.out F0.k hvb (fun e => by have := H0.out.lt _ (H0.out.fk _ e); omega) (oneSSR ks) rfl).mono ?_
  clear hvb
  obtain ⟨X1, hX1⟩ : ∃ X1, X1 = (ks.map Value.string).take I ++ Value.string x :: (ks.map Value.string).drop I := ⟨_, rfl⟩
  obtain ⟨Y1, hY1⟩ : ∃ Y1, Y1 = (flatR vs).take (I * 6) ++ v.cs ++ (flatR vs).drop (I * 6) := ⟨_, rfl⟩
  have HX1 := Lib.hid hX1
  have HY1 := Lib.hid hY1
  have hlX : X1.length = n + 1 := by
    have h1 := owns_len H0.out.k
    have := HP.out
    rw [hX1]; simp only [List.length_append, List.length_take, List.length_cons, List.length_drop, h1]; omega
  have HLX := Lib.hid hlX
  clear hX1 hY1 hlX
  rintro e w1 hI1
  rw [← HX1.out] at hI1
  obtain ⟨kv', rfl, ho, hg, hb⟩ := hI1
  rw [HLX.out] at ho
  obtain ⟨a1, a2, -⟩ := F0.store0 hg ho hb
  obtain ⟨e0, e1, e2, e3, e4⟩ := F0.during hg F0.dk
  obtain ⟨ka', kc', rfl⟩ := owns_slice ho
  have hbx1 : w1.heap[w.heap.size]? = some (.cells #[.string v.key, .int .i64 v.t, .int .i64 v.i, .int .i64 v.q, .string v.o, .slice v.a v.len v.c] 39 (0, 0)) := by
    rw [hg.block w.heap.size (by simp; omega) (fun e => by have := H0.out.lt _ (H0.out.fk _ e.symm); omega)]
    exact (Below.heap_alloc _ _ _ (by show _ < W.heap.size; omega)).trans KW.out.2
  have hs1 := hg.size
  rw [World.size_alloc, show (W.drewN q).heap.size = w.heap.size + 1 from hsW] at hs1
  have hpb : p ≠ w.heap.size := by omega
  have hbx2 := (heap_setCell_other w1 ⟨p, 1, none⟩ w.heap.size (.slice ka' (n + 1) kc') (fun e => hpb e.symm)).trans hbx1
  have HA := Lib.hid (And.intro ho (And.intro hg hb))
  have A1 := Lib.hid a1
  obtain ⟨⟨b0, b1, b2, b3, b4, b5⟩, -⟩ := six hbx1
  have hvf : ∀ u ∈ (#[.string v.key, .int .i64 v.t, .int .i64 v.i, .int .i64 v.q, .string v.o, .slice v.a v.len v.c] : Array Value).toList, u.oneCell' = true := by
    intro u hu
    simp only [List.mem_cons, List.not_mem_nil, or_false] at hu
    rcases hu with rfl | rfl | rfl | rfl | rfl | rfl <;> rfl
  have NEWV := Lib.hid (p := ∀ (W' : World) (o : Obj), W'.heap.size = w1.heap.size → (W'.alloc o).drew.heap[w1.heap.size]? = some o) (fun W' o h => by rw [← h]; exact heap_alloc_new W' _)
  have hlt1 := A1.out.lt
  rw [World.size_setCell] at hlt1
  have CI := Lib.hid (p := ∀ w2, Kept (fun _ => False) (w1.setCell ⟨p, 1, none⟩ (.slice ka' (n + 1) kc')) w2 → w2.heap[w1.heap.size]? = some (.cells #[.string v.key, .int .i64 v.t, .int .i64 v.i, .int .i64 v.q, .string v.o, .slice v.a v.len v.c] 39 (0, 0)) →
      Calls Try.prog 63 #[.slice va n vc, .int .i64 I, .slice (some ⟨w1.heap.size, 0, none⟩) 1 1] w2 fun e w3 => ∃ vv', e = .returned vv' ∧ w3.ownsRow 0 39 6 vv' (n + 1) Y1 ∧ w2.grownBy w3 (Value.slice va n vc).ownBlock ∧ (vv'.ownBlock = (Value.slice va n vc).ownBlock ∨ ∃ b, vv'.ownBlock = some b ∧ w2.heap.size ≤ b) ∧ Kept (fun _ => False) (w1.setCell ⟨p, 1, none⟩ (.slice ka' (n + 1) kc')) w2) (fun w2 k2 h2 =>
    (insR _ n I w1.heap.size (flatR vs) #[.string v.key, .int .i64 v.t, .int .i64 v.i, .int .i64 v.q, .string v.o, .slice v.a v.len v.c] w2 hn HP.out (A1.out.kept k2 (fun _ _ h => h)).v rfl h2 (fun e => Nat.lt_irrefl _ (hlt1 _ (A1.out.fv _ e))) (flatR_one vs) hvf).mono fun e w3 ⟨vv', he, ho, hg, hb⟩ => ⟨vv', he, by rw [HY1.out]; exact ho, hg, hb, k2⟩)
  clear ho hg hb a1 a2 F0 k0 hbx1 hbx2 hlt1 hvf
  go_wp2_with fail
  go_region_with (first
    | (go_at_call 63
       refine (CI.out _ (by with_reducible (repeat (first | exact Kept.refl _ _ | refine Kept.drew ?_ | refine Kept.drewN ?_ _ | refine Kept.alloc ?_ _))) (NEWV.out _ _ (World.size_setCell _ _ _))).mono ?_
       rintro e w3 ⟨vv', rfl, ho2, hg2, hb2, k2⟩
       obtain ⟨va', vc', rfl⟩ := ownsM_slice ho2
       have F1 := A1.out.kept k2 (fun _ _ h => h)
       obtain ⟨e0', e1', e2', e3', e4'⟩ := F1.during hg2 F1.dv
       have HB := Lib.hid (And.intro ho2 (And.intro hg2 (And.intro hb2 k2)))
       clear ho2 hg2 hb2 k2 F1)
    | fail)
  all_goals
    go_wp2
    go_ret
    refine ⟨rfl, ?_⟩
    show TurnedH _ _ _ _ _ _ _ _ _ _ _
    have e5 : (ks.take I ++ x :: ks.drop I).map Value.string = X1 := by rw [HX1.out]; simp [List.map_take, List.map_drop]
    have e6 : flatR (vs.take I ++ v :: vs.drop I) = Y1 := by rw [HY1.out, flatR_ins]
    rw [e5, e6]
    exact H0.out.both ((KW.out.1.drewN q).alloc _) HA.out.2.1 HA.out.1 HA.out.2.2 HB.out.2.2.2 HB.out.2.1 HB.out.1 HB.out.2.2.1

theorem flatR_set (vs : List RC) (v : RC) (I : Nat) (hI : I < vs.length) : flatR (vs.set I v) = ((((((flatR vs).set (I * 6) (.string v.key)).set (I * 6 + 1) (.int .i64 v.t)).set (I * 6 + 2) (.int .i64 v.i)).set (I * 6 + 3) (.int .i64 v.q)).set (I * 6 + 4) (.string v.o)).set (I * 6 + 5) (.slice v.a v.len v.c) := by
  induction vs generalizing I with
  | nil => simp at hI
  | cons a r ih =>
    cases I with
    | zero => rfl
    | succ I =>
      rw [List.set_cons_succ, flatR, flatR, ih I (by simpa using hI)]
      rw [show (I + 1) * 6 = I * 6 + 1 + 1 + 1 + 1 + 1 + 1 by omega, show I * 6 + 1 + 1 + 1 + 1 + 1 + 1 + 1 = (I * 6 + 1) + 1 + 1 + 1 + 1 + 1 + 1 by omega, show I * 6 + 1 + 1 + 1 + 1 + 1 + 1 + 2 = (I * 6 + 2) + 1 + 1 + 1 + 1 + 1 + 1 by omega, show I * 6 + 1 + 1 + 1 + 1 + 1 + 1 + 3 = (I * 6 + 3) + 1 + 1 + 1 + 1 + 1 + 1 by omega, show I * 6 + 1 + 1 + 1 + 1 + 1 + 1 + 4 = (I * 6 + 4) + 1 + 1 + 1 + 1 + 1 + 1 by omega, show I * 6 + 1 + 1 + 1 + 1 + 1 + 1 + 5 = (I * 6 + 5) + 1 + 1 + 1 + 1 + 1 + 1 by omega]
      rfl

/-- One element of an owned slice overwritten, cell by cell. -/
theorem ownsM_set1 {w : World} {e : TypeId} {m g n c : Nat} {xs : List Value} (h : w.ownsRow 0 e m (.slice (some ⟨g, 0, none⟩) n c) n xs) (i : Nat) (u : Value) :
    (w.setCell ⟨g, i, none⟩ u).ownsRow 0 e m (.slice (some ⟨g, 0, none⟩) n c) n (xs.set i u) := by
  rcases ownsM_cases h with ⟨h, _⟩ | ⟨g', cap, cur, hv, _, hg, hnc, hm, hs, ht, hx⟩
  · cases h
  · simp only [Value.slice.injEq, Option.some.injEq, Addr.mk.injEq] at hv
    obtain ⟨⟨rfl, _⟩, _, rfl⟩ := hv
    refine ownsM_mk (heap_setCell_same w g i cur e u hg) hnc hm (by simpa using hs) ?_
    rw [Array.toList_setIfInBounds, List.take_set, ht]

set_option maxHeartbeats 4000000 in
/-- Put of a key that is there. -/
theorem putOldSR (w : World) (p : Nat) (most : Int) (F : Nat → Prop) (ks : List ByteArray) (vs : List RC) (x : ByteArray) (v : RC) (hn : ks.length ≤ 1000000) (hr : Rising lsS ks) (hx : x ∈ ks) (h : MSR w p most F ks vs) :
    Calls Try.prog 40 #[.pointer (some ⟨p, 1, none⟩), .string x, .agg #[.string v.key, .int .i64 v.t, .int .i64 v.i, .int .i64 v.q, .string v.o, .slice v.a v.len v.c]] w fun e w' => e = .returned (.bool false) ∧ TurnedSR w w' p most F ks (vs.set (pos lsS ks x) v) := by
  obtain ⟨o, ho⟩ : ∃ o, Obj.cells #[.string v.key, .int .i64 v.t, .int .i64 v.i, .int .i64 v.q, .string v.o, .slice v.a v.len v.c] 39 = o := ⟨_, rfl⟩
  have hkb : Kept (fun _ => False) w (w.alloc o) := (Kept.refl _ w).alloc o
  obtain ⟨ka, kc, c0, hL⟩ := lookSR (h.kept hkb (fun _ _ h => h)) hn hr x
  have hvl := h.len
  have hk := (List.getElem?_eq_some_iff.1 ((mem_iff_pos strictS hr).1 hx)).1
  obtain ⟨I, hI⟩ : ∃ I, pos lsS ks x = I := ⟨_, rfl⟩
  have HL := Lib.hid (hL I true hI ((has_iff ks x).2 hx))
  rw [hI] at hk ⊢
  have hvI : I < vs.length := by omega
  have hlt := h.lt
  obtain ⟨kv, vv, h0, h1, h2, d0, d1, d2, f0, f1, f2, f3⟩ := h
  obtain ⟨g, c, cur, rfl, hg, hs, hnc, hm, ht, hx2⟩ := ownsM_block h2 (by simp; omega)
  have c1 := cell2_of_three h0
  simp only [List.length_map] at c1
  have hpg : p ≠ g := fun e => d1 (by rw [e]; rfl)
  have hpw := lt_of_block h0
  have hgw := lt_of_block hg
  have hml : (ks.map Value.string).length = ks.length := List.length_map _
  have hc4 : ∀ r, r < 6 → ∃ u, w.cell? ⟨g, I * 6 + r, none⟩ = some u := fun r hr => by
    rw [cell_of_row w g _ cur _ (0, 0) hg, Array.getElem?_eq_getElem (by omega)]
    exact ⟨_, rfl⟩
  obtain ⟨u0, q0⟩ := hc4 0 (by omega)
  obtain ⟨u1, q1⟩ := hc4 1 (by omega)
  obtain ⟨u2, q2⟩ := hc4 2 (by omega)
  obtain ⟨u3, q3⟩ := hc4 3 (by omega)
  obtain ⟨u4, q4⟩ := hc4 4 (by omega)
  obtain ⟨u5, q5⟩ := hc4 5 (by omega)
  rw [Nat.add_zero] at q0
  have z0 := frozen_of_row w g (I * 6) cur _ hg
  have z1 := frozen_of_row w g (I * 6 + 1) cur _ hg
  have z2 := frozen_of_row w g (I * 6 + 2) cur _ hg
  have z3 := frozen_of_row w g (I * 6 + 3) cur _ hg
  have z4 := frozen_of_row w g (I * 6 + 4) cur _ hg
  have z5 := frozen_of_row w g (I * 6 + 5) cur _ hg
  have hi' : (I : Int) < (ks.length : Int) := by omega
  have h0i : (0 : Int) ≤ (I : Int) := by omega
  have HX := Lib.hid (p := ∀ W, Kept (fun _ => False) w W → TurnedSR w ((((((W.setCell ⟨g, I * 6, none⟩ (.string v.key)).setCell ⟨g, I * 6 + 1, none⟩ (.int .i64 v.t)).setCell ⟨g, I * 6 + 2, none⟩ (.int .i64 v.i)).setCell ⟨g, I * 6 + 3, none⟩ (.int .i64 v.q)).setCell ⟨g, I * 6 + 4, none⟩ (.string v.o)).setCell ⟨g, I * 6 + 5, none⟩ (.slice v.a v.len v.c)) p most F ks (vs.set I v)) (fun W k => by
    have k' : Kept F w W := k.mono (fun _ h _ => h.elim)
    have hFg : F g := f2 g rfl
    have hK : Kept F w ((((((W.setCell ⟨g, I * 6, none⟩ (.string v.key)).setCell ⟨g, I * 6 + 1, none⟩ (.int .i64 v.t)).setCell ⟨g, I * 6 + 2, none⟩ (.int .i64 v.i)).setCell ⟨g, I * 6 + 3, none⟩ (.int .i64 v.q)).setCell ⟨g, I * 6 + 4, none⟩ (.string v.o)).setCell ⟨g, I * 6 + 5, none⟩ (.slice v.a v.len v.c)) :=
      (((((k'.setCell (p := ⟨g, I * 6, none⟩) (.inl hFg) _).setCell (p := ⟨g, I * 6 + 1, none⟩) (.inl hFg) _).setCell (p := ⟨g, I * 6 + 2, none⟩) (.inl hFg) _).setCell (p := ⟨g, I * 6 + 3, none⟩) (.inl hFg) _).setCell (p := ⟨g, I * 6 + 4, none⟩) (.inl hFg) _).setCell (p := ⟨g, I * 6 + 5, none⟩) (.inl hFg) _
    have hkg : kv.ownBlock ≠ some g := fun e => d2 _ e rfl
    refine ⟨F, ⟨kv, _, ?_, ?_, ?_, d0, d1, d2, f0, f1, f2, fun k hk => Nat.lt_of_lt_of_le (f3 k hk) hK.size⟩, Grew.refl _ _, hK⟩
    · rw [heap_setCell_other _ _ _ _ (by exact hpg), heap_setCell_other _ _ _ _ (by exact hpg), heap_setCell_other _ _ _ _ (by exact hpg), heap_setCell_other _ _ _ _ (by exact hpg), heap_setCell_other _ _ _ _ (by exact hpg), heap_setCell_other _ _ _ _ (by exact hpg)]
      exact k.heap h0 (fun h => h)
    · exact ownsRow_setCell_other (a := ⟨g, I * 6 + 5, none⟩) (ownsRow_setCell_other (a := ⟨g, I * 6 + 4, none⟩) (ownsRow_setCell_other (a := ⟨g, I * 6 + 3, none⟩) (ownsRow_setCell_other (a := ⟨g, I * 6 + 2, none⟩) (ownsRow_setCell_other (a := ⟨g, I * 6 + 1, none⟩) (ownsRow_setCell_other (a := ⟨g, I * 6, none⟩) (k.owns h1 (fun _ _ h => h)) hkg _) hkg _) hkg _) hkg _) hkg _) hkg _
    · rw [flatR_set vs v I hvI]
      exact ownsM_set1 (ownsM_set1 (ownsM_set1 (ownsM_set1 (ownsM_set1 (ownsM_set1 (k.owns h2 (fun _ _ h => h)) _ _) _ _) _ _) _ _) _ _) _ _)
  have hkx : p < w.heap.size ∧ g < w.heap.size := ⟨hpw, hgw⟩
  clear h0 h1 h2 hI hg hs hnc hm ht hL hk hx2 d0 d1 d2 f0 f1 f2 f3 hr hx hc4 hvI hvl hlt hkx hml
  generalize ks.length = n at *
  subst ho
  go_enter Try.func40, Try.ntmps40
  go_wp2_with (go_at_call 58; refine HL.out.mono ?_; rintro e w' ⟨rfl, q, rfl⟩)
  go_region_with (fail)
  all_goals
    go_wp2
    go_ret
    exact ⟨rfl, HX.out _ (by with_reducible (repeat (first | exact Kept.refl _ _ | refine Kept.drew ?_ | refine Kept.drewN ?_ _ | refine Kept.alloc ?_ _)))⟩

/-- Put, of any key. -/
theorem putSR (w : World) (p : Nat) (most : Int) (F : Nat → Prop) (ks : List ByteArray) (vs : List RC) (x : ByteArray) (v : RC) (hn : ks.length ≤ 1000000) (hr : Rising lsS ks) (h : MSR w p most F ks vs) :
    Calls Try.prog 40 #[.pointer (some ⟨p, 1, none⟩), .string x, .agg #[.string v.key, .int .i64 v.t, .int .i64 v.i, .int .i64 v.q, .string v.o, .slice v.a v.len v.c]] w fun e w' => e = .returned (.bool (!has ks x)) ∧ TurnedSR w w' p most F (putK lsS ks x) (putV lsS ks vs x v) := by
  unfold putK putV
  by_cases hx : x ∈ ks
  · have hb := (has_iff ks x).2 hx
    rw [hb]
    exact putOldSR w p most F ks vs x v hn hr hx h
  · have hb := has_no hx
    rw [hb]
    exact putNewSR w p most F ks vs x v hn hr hx h

end Go.Proofs.Ytikifgenfpkidaa
