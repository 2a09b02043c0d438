/-
  No statement: what Put of sorted.Map[string, value.Value] does to a map that lies in memory.
-/
import Derived.Test.YtgcjfalgngiebaaGreatDoorReadSV
import Derived.Test.YtgcjfalgngiebaaGreatDoorInsS
namespace Go.Proofs.YtgcjfalgngiebaaGreatDoor
open Go.RowKit

/-- What a call that turns this seat's map leaves. -/
def TurnedSV (w w' : World) (p : Nat) (F : Nat → Prop) (ks : List ByteArray) (vs : List VC) : Prop :=
  TurnedM 4 w w' 103 9 28 p F (ks.map Value.string) (flatV vs)

theorem oneSSV (ks : List ByteArray) : ∀ u ∈ ks.map Value.string, u.oneCell' = true := by
  intro u hu
  obtain ⟨_, _, rfl⟩ := List.mem_map.1 hu
  rfl

theorem flatV_ins (vs : List VC) (v : VC) (I : Nat) : flatV (vs.take I ++ v :: vs.drop I) = (flatV vs).take (I * 4) ++ v.cs ++ (flatV vs).drop (I * 4) := by
  rw [flatV_append, flatV, flatV_take, flatV_drop, List.append_assoc]

set_option maxHeartbeats 2000000 in
/-- Put of a key that is new. -/
theorem putNewSV (w : World) (p : Nat) (F : Nat → Prop) (ks : List ByteArray) (vs : List VC) (x : ByteArray) (v : VC) (hn : ks.length ≤ 1000000) (hr : Rising lsS ks) (hx : x ∉ ks) (h : MSV w p F ks vs) :
    Calls Tryz.prog 24 #[.pointer (some ⟨p, 0, none⟩), .string x, .agg #[.int .i64 v.k, .int .i64 v.n, .string v.s, .slice v.y v.len v.c]] w fun e w' => e = .returned (.bool true) ∧
      TurnedSV w w' p F (ks.take (pos lsS ks x) ++ x :: ks.drop (pos lsS ks x)) (vs.take (pos lsS ks x) ++ v :: vs.drop (pos lsS ks x)) := by
  obtain ⟨o, ho⟩ : ∃ o, Obj.cells #[.int .i64 v.k, .int .i64 v.n, .string v.s, .slice v.y v.len v.c] 28 = o := ⟨_, rfl⟩
  have hkb : Kept (fun _ => False) w (w.alloc o) := (Kept.refl _ w).alloc o
  obtain ⟨ka0, kc0, c00, hL⟩ := lookSV (h.kept hkb (fun _ _ h => h)) hn hr x
  have hvl := h.len
  have hp := pos_le (less := lsS) ks x
  obtain ⟨I, hI⟩ : ∃ I, pos lsS ks x = I := ⟨_, rfl⟩
  have HL := Lib.hid (hL I false hI (has_no hx))
  rw [hI] at hp ⊢
  obtain ⟨ka, kc, va, vc, HF⟩ := MapInM.fields h
  have c0 := cell0_of_two HF.row
  have c1 := cell1_of_two HF.row
  have hpw := HF.plt
  simp only [List.length_map] at c0 c1 HF
  rw [hkb.cell c0 (fun h => h)] at c00
  simp only [Option.some.injEq, Value.slice.injEq] at c00
  obtain ⟨rfl, _, rfl⟩ := c00
  have HP := Lib.hid hp
  have HVL := Lib.hid hvl
  clear hI hL hr hx hp h hvl hkb
  subst ho
  generalize ks.length = n at *
  have H0 := Lib.hid HF
  clear HF
  go_enter Tryz.func24, Tryz.ntmps24
  go_wp2_with (go_at_call 50; refine HL.out.mono ?_; rintro e w' ⟨rfl, q, rfl⟩)
  obtain ⟨W, hW⟩ : ∃ W, w.alloc (.cells #[.int .i64 v.k, .int .i64 v.n, .string v.s, .slice v.y v.len v.c] 28) = W := ⟨_, rfl⟩
  have hkW : Kept (fun _ => False) w W := by rw [← hW]; exact (Kept.refl _ w).alloc _
  have hbx : W.heap[w.heap.size]? = some (.cells #[.int .i64 v.k, .int .i64 v.n, .string v.s, .slice v.y v.len v.c] 28 (0, 0)) := by rw [← hW]; exact heap_alloc_new w _
  have hsW : W.heap.size = w.heap.size + 1 := by rw [← hW]; simp
  rw [hW]
  have KW := Lib.hid (And.intro hkW hbx)
  clear hW hkW hbx c0 c1
  go_at_call 51
  have k0 : Kept (fun _ => False) w ((W.drewN q).alloc (.cells #[.string x] 9)) := (KW.out.1.drewN q).alloc _
  have F0 := H0.out.kept k0 (fun _ _ h => h)
  have hvb : ((W.drewN q).alloc (.cells #[.string x] 9)).heap[w.heap.size + 1]? = some (.cells #[.string x] 9 (0, 0)) := by
    have := heap_alloc_new (W.drewN q) (.cells #[.string x] 9)
    rwa [show (W.drewN q).heap.size = w.heap.size + 1 from hsW] at this
  refine (insS _ n I (w.heap.size + 1) (ks.map Value.string) (.string x) _ hn HP.out F0.k hvb (fun e => by have := H0.out.lt _ (H0.out.fk _ e); omega) (oneSSV ks) rfl).mono ?_
  clear hvb
  obtain ⟨X1, hX1⟩ : ∃ X1, X1 = (ks.map Value.string).take I ++ Value.string x :: (ks.map Value.string).drop I := ⟨_, rfl⟩
  obtain ⟨Y1, hY1⟩ : ∃ Y1, Y1 = (flatV vs).take (I * 4) ++ v.cs ++ (flatV vs).drop (I * 4) := ⟨_, rfl⟩
  have HX1 := Lib.hid hX1
  have HY1 := Lib.hid hY1
  have hlX : X1.length = n + 1 := by
    have h1 := owns_len H0.out.k
    have := HP.out
    rw [hX1]; simp only [List.length_append, List.length_take, List.length_cons, List.length_drop, h1]; omega
  have HLX := Lib.hid hlX
  clear hX1 hY1 hlX
  rintro e w1 hI1
  rw [← HX1.out] at hI1
  obtain ⟨kv', rfl, ho, hg, hb⟩ := hI1
  rw [HLX.out] at ho
  obtain ⟨a1, a2, -⟩ := F0.store0 hg ho hb
  obtain ⟨e0, e1, e2, e3, e4⟩ := F0.during hg F0.dk
  obtain ⟨ka', kc', rfl⟩ := owns_slice ho
  have hbx1 : w1.heap[w.heap.size]? = some (.cells #[.int .i64 v.k, .int .i64 v.n, .string v.s, .slice v.y v.len v.c] 28 (0, 0)) := by
    rw [hg.block w.heap.size (by simp; omega) (fun e => by have := H0.out.lt _ (H0.out.fk _ e.symm); omega)]
    exact (Below.heap_alloc _ _ _ (by show _ < W.heap.size; omega)).trans KW.out.2
  have hs1 := hg.size
  rw [World.size_alloc, show (W.drewN q).heap.size = w.heap.size + 1 from hsW] at hs1
  have hpb : p ≠ w.heap.size := by omega
  have hbx2 := (heap_setCell_other w1 ⟨p, 0, none⟩ w.heap.size (.slice ka' (n + 1) kc') (fun e => hpb e.symm)).trans hbx1
  have HA := Lib.hid (And.intro ho (And.intro hg hb))
  have A1 := Lib.hid a1
  obtain ⟨⟨b0, b1, b2, b3⟩, -⟩ := four hbx1
  have hvf : ∀ u ∈ (#[.int .i64 v.k, .int .i64 v.n, .string v.s, .slice v.y v.len v.c] : Array Value).toList, u.oneCell' = true := by
    intro u hu
    simp only [List.mem_cons, List.not_mem_nil, or_false] at hu
    rcases hu with rfl | rfl | rfl | rfl <;> rfl
  have NEWV := Lib.hid (p := ∀ (W' : World) (o : Obj), W'.heap.size = w1.heap.size → (W'.alloc o).drew.heap[w1.heap.size]? = some o) (fun W' o h => by rw [← h]; exact heap_alloc_new W' _)
  have hlt1 := A1.out.lt
  rw [World.size_setCell] at hlt1
  have CI := Lib.hid (p := ∀ w2, Kept (fun _ => False) (w1.setCell ⟨p, 0, none⟩ (.slice ka' (n + 1) kc')) w2 → w2.heap[w1.heap.size]? = some (.cells #[.int .i64 v.k, .int .i64 v.n, .string v.s, .slice v.y v.len v.c] 28 (0, 0)) →
      Calls Tryz.prog 52 #[.slice va n vc, .int .i64 I, .slice (some ⟨w1.heap.size, 0, none⟩) 1 1] w2 fun e w3 => ∃ vv', e = .returned vv' ∧ w3.ownsRow 0 28 4 vv' (n + 1) Y1 ∧ w2.grownBy w3 (Value.slice va n vc).ownBlock ∧ (vv'.ownBlock = (Value.slice va n vc).ownBlock ∨ ∃ b, vv'.ownBlock = some b ∧ w2.heap.size ≤ b) ∧ Kept (fun _ => False) (w1.setCell ⟨p, 0, none⟩ (.slice ka' (n + 1) kc')) w2) (fun w2 k2 h2 =>
    (insV _ n I w1.heap.size (flatV vs) #[.int .i64 v.k, .int .i64 v.n, .string v.s, .slice v.y v.len v.c] w2 hn HP.out (A1.out.kept k2 (fun _ _ h => h)).v rfl h2 (fun e => Nat.lt_irrefl _ (hlt1 _ (A1.out.fv _ e))) (flatV_one vs) hvf).mono fun e w3 ⟨vv', he, ho, hg, hb⟩ => ⟨vv', he, by rw [HY1.out]; exact ho, hg, hb, k2⟩)
  clear ho hg hb a1 a2 F0 k0 hbx1 hbx2 hlt1 hvf
  go_wp2_with fail
  go_region_with (first
    | (go_at_call 52
       refine (CI.out _ (by with_reducible (repeat (first | exact Kept.refl _ _ | refine Kept.drew ?_ | refine Kept.drewN ?_ _ | refine Kept.alloc ?_ _))) (NEWV.out _ _ (World.size_setCell _ _ _))).mono ?_
       rintro e w3 ⟨vv', rfl, ho2, hg2, hb2, k2⟩
       obtain ⟨va', vc', rfl⟩ := ownsM_slice ho2
       have F1 := A1.out.kept k2 (fun _ _ h => h)
       obtain ⟨e0', e1', e2', e3', e4'⟩ := F1.during hg2 F1.dv
       have HB := Lib.hid (And.intro ho2 (And.intro hg2 (And.intro hb2 k2)))
       clear ho2 hg2 hb2 k2 F1)
    | fail)
  all_goals
    go_wp2
    go_ret
    refine ⟨rfl, ?_⟩
    show TurnedM _ _ _ _ _ _ _ _ _ _
    have e5 : (ks.take I ++ x :: ks.drop I).map Value.string = X1 := by rw [HX1.out]; simp [List.map_take, List.map_drop]
    have e6 : flatV (vs.take I ++ v :: vs.drop I) = Y1 := by rw [HY1.out, flatV_ins]
    rw [e5, e6]
    exact H0.out.both ((KW.out.1.drewN q).alloc _) HA.out.2.1 HA.out.1 HA.out.2.2 HB.out.2.2.2 HB.out.2.1 HB.out.1 HB.out.2.2.1

theorem flatV_set (vs : List VC) (v : VC) (I : Nat) (hI : I < vs.length) : flatV (vs.set I v) = ((((flatV vs).set (I * 4) (.int .i64 v.k)).set (I * 4 + 1) (.int .i64 v.n)).set (I * 4 + 2) (.string v.s)).set (I * 4 + 3) (.slice v.y v.len v.c) := by
  induction vs generalizing I with
  | nil => simp at hI
  | cons a r ih =>
    cases I with
    | zero => rfl
    | succ I =>
      rw [List.set_cons_succ, flatV, flatV, ih I (by simpa using hI)]
      rw [show (I + 1) * 4 = I * 4 + 1 + 1 + 1 + 1 by omega, show I * 4 + 1 + 1 + 1 + 1 + 1 = (I * 4 + 1) + 1 + 1 + 1 + 1 by omega, show I * 4 + 1 + 1 + 1 + 1 + 2 = (I * 4 + 2) + 1 + 1 + 1 + 1 by omega, show I * 4 + 1 + 1 + 1 + 1 + 3 = (I * 4 + 3) + 1 + 1 + 1 + 1 by omega]
      rfl

/-- One element of an owned slice overwritten, cell by cell. -/
theorem ownsM_set1 {w : World} {e : TypeId} {m g n c : Nat} {xs : List Value} (h : w.ownsRow 0 e m (.slice (some ⟨g, 0, none⟩) n c) n xs) (i : Nat) (u : Value) :
    (w.setCell ⟨g, i, none⟩ u).ownsRow 0 e m (.slice (some ⟨g, 0, none⟩) n c) n (xs.set i u) := by
  rcases ownsM_cases h with ⟨h, _⟩ | ⟨g', cap, cur, hv, _, hg, hnc, hm, hs, ht, hx⟩
  · cases h
  · simp only [Value.slice.injEq, Option.some.injEq, Addr.mk.injEq] at hv
    obtain ⟨⟨rfl, _⟩, _, rfl⟩ := hv
    refine ownsM_mk (heap_setCell_same w g i cur e u hg) hnc hm (by simpa using hs) ?_
    rw [Array.toList_setIfInBounds, List.take_set, ht]

set_option maxHeartbeats 4000000 in
/-- Put of a key that is there. -/
theorem putOldSV (w : World) (p : Nat) (F : Nat → Prop) (ks : List ByteArray) (vs : List VC) (x : ByteArray) (v : VC) (hn : ks.length ≤ 1000000) (hr : Rising lsS ks) (hx : x ∈ ks) (h : MSV w p F ks vs) :
    Calls Tryz.prog 24 #[.pointer (some ⟨p, 0, none⟩), .string x, .agg #[.int .i64 v.k, .int .i64 v.n, .string v.s, .slice v.y v.len v.c]] w fun e w' => e = .returned (.bool false) ∧ TurnedSV w w' p F ks (vs.set (pos lsS ks x) v) := by
  obtain ⟨o, ho⟩ : ∃ o, Obj.cells #[.int .i64 v.k, .int .i64 v.n, .string v.s, .slice v.y v.len v.c] 28 = o := ⟨_, rfl⟩
  have hkb : Kept (fun _ => False) w (w.alloc o) := (Kept.refl _ w).alloc o
  obtain ⟨ka, kc, c0, hL⟩ := lookSV (h.kept hkb (fun _ _ h => h)) hn hr x
  have hvl := h.len
  have hk := (List.getElem?_eq_some_iff.1 ((mem_iff_pos strictS hr).1 hx)).1
  obtain ⟨I, hI⟩ : ∃ I, pos lsS ks x = I := ⟨_, rfl⟩
  have HL := Lib.hid (hL I true hI ((has_iff ks x).2 hx))
  rw [hI] at hk ⊢
  have hvI : I < vs.length := by omega
  have hlt := h.lt
  obtain ⟨kv, vv, h0, h1, h2, d0, d1, d2, f0, f1, f2, f3⟩ := h
  obtain ⟨g, c, cur, rfl, hg, hs, hnc, hm, ht, hx2⟩ := ownsM_block h2 (by simp; omega)
  have c1 := cell1_of_two h0
  simp only [List.length_map] at c1
  have hpg : p ≠ g := fun e => d1 (by rw [e]; rfl)
  have hpw := lt_of_block h0
  have hgw := lt_of_block hg
  have hml : (ks.map Value.string).length = ks.length := List.length_map _
  have hc4 : ∀ r, r < 4 → ∃ u, w.cell? ⟨g, I * 4 + r, none⟩ = some u := fun r hr => by
    rw [cell_of_row w g _ cur _ (0, 0) hg, Array.getElem?_eq_getElem (by omega)]
    exact ⟨_, rfl⟩
  obtain ⟨u0, q0⟩ := hc4 0 (by omega)
  obtain ⟨u1, q1⟩ := hc4 1 (by omega)
  obtain ⟨u2, q2⟩ := hc4 2 (by omega)
  obtain ⟨u3, q3⟩ := hc4 3 (by omega)
  rw [Nat.add_zero] at q0
  have z0 := frozen_of_row w g (I * 4) cur _ hg
  have z1 := frozen_of_row w g (I * 4 + 1) cur _ hg
  have z2 := frozen_of_row w g (I * 4 + 2) cur _ hg
  have z3 := frozen_of_row w g (I * 4 + 3) cur _ hg
  have hi' : (I : Int) < (ks.length : Int) := by omega
  have h0i : (0 : Int) ≤ (I : Int) := by omega
  have HX := Lib.hid (p := ∀ W, Kept (fun _ => False) w W → TurnedSV w ((((W.setCell ⟨g, I * 4, none⟩ (.int .i64 v.k)).setCell ⟨g, I * 4 + 1, none⟩ (.int .i64 v.n)).setCell ⟨g, I * 4 + 2, none⟩ (.string v.s)).setCell ⟨g, I * 4 + 3, none⟩ (.slice v.y v.len v.c)) p F ks (vs.set I v)) (fun W k => by
    have k' : Kept F w W := k.mono (fun _ h _ => h.elim)
    have hFg : F g := f2 g rfl
    have hK : Kept F w ((((W.setCell ⟨g, I * 4, none⟩ (.int .i64 v.k)).setCell ⟨g, I * 4 + 1, none⟩ (.int .i64 v.n)).setCell ⟨g, I * 4 + 2, none⟩ (.string v.s)).setCell ⟨g, I * 4 + 3, none⟩ (.slice v.y v.len v.c)) :=
      (((k'.setCell (p := ⟨g, I * 4, none⟩) (.inl hFg) _).setCell (p := ⟨g, I * 4 + 1, none⟩) (.inl hFg) _).setCell (p := ⟨g, I * 4 + 2, none⟩) (.inl hFg) _).setCell (p := ⟨g, I * 4 + 3, none⟩) (.inl hFg) _
    have hkg : kv.ownBlock ≠ some g := fun e => d2 _ e rfl
    refine ⟨F, ⟨kv, _, ?_, ?_, ?_, d0, d1, d2, f0, f1, f2, fun k hk => Nat.lt_of_lt_of_le (f3 k hk) hK.size⟩, Grew.refl _ _, hK⟩
    · rw [heap_setCell_other _ _ _ _ (by exact hpg), heap_setCell_other _ _ _ _ (by exact hpg), heap_setCell_other _ _ _ _ (by exact hpg), heap_setCell_other _ _ _ _ (by exact hpg)]
      exact k.heap h0 (fun h => h)
    · exact ownsRow_setCell_other (a := ⟨g, I * 4 + 3, none⟩) (ownsRow_setCell_other (a := ⟨g, I * 4 + 2, none⟩) (ownsRow_setCell_other (a := ⟨g, I * 4 + 1, none⟩) (ownsRow_setCell_other (a := ⟨g, I * 4, none⟩) (k.owns h1 (fun _ _ h => h)) hkg _) hkg _) hkg _) hkg _
    · rw [flatV_set vs v I hvI]
      exact ownsM_set1 (ownsM_set1 (ownsM_set1 (ownsM_set1 (k.owns h2 (fun _ _ h => h)) _ _) _ _) _ _) _ _)
  have hkx : p < w.heap.size ∧ g < w.heap.size := ⟨hpw, hgw⟩
  clear h0 h1 h2 hI hg hs hnc hm ht hL hk hx2 d0 d1 d2 f0 f1 f2 f3 hr hx hc4 hvI hvl hlt hkx hml
  generalize ks.length = n at *
  subst ho
  go_enter Tryz.func24, Tryz.ntmps24
  go_wp2_with (go_at_call 50; refine HL.out.mono ?_; rintro e w' ⟨rfl, q, rfl⟩)
  go_region_with (fail)
  all_goals
    go_wp2
    go_ret
    exact ⟨rfl, HX.out _ (by with_reducible (repeat (first | exact Kept.refl _ _ | refine Kept.drew ?_ | refine Kept.drewN ?_ _ | refine Kept.alloc ?_ _)))⟩

/-- Put, of any key. -/
theorem putSV (w : World) (p : Nat) (F : Nat → Prop) (ks : List ByteArray) (vs : List VC) (x : ByteArray) (v : VC) (hn : ks.length ≤ 1000000) (hr : Rising lsS ks) (h : MSV w p F ks vs) :
    Calls Tryz.prog 24 #[.pointer (some ⟨p, 0, none⟩), .string x, .agg #[.int .i64 v.k, .int .i64 v.n, .string v.s, .slice v.y v.len v.c]] w fun e w' => e = .returned (.bool (!has ks x)) ∧ TurnedSV w w' p F (putK lsS ks x) (putV lsS ks vs x v) := by
  unfold putK putV
  by_cases hx : x ∈ ks
  · have hb := (has_iff ks x).2 hx
    rw [hb]
    exact putOldSV w p F ks vs x v hn hr hx h
  · have hb := has_no hx
    rw [hb]
    exact putNewSV w p F ks vs x v hn hr hx h

end Go.Proofs.YtgcjfalgngiebaaGreatDoor
