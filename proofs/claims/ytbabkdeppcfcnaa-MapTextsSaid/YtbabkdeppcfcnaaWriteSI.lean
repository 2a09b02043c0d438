/-
  No statement: what sorted.Map[string, int].Put and Keys do to a map that lies in memory.
-/
import Derived.Test.YtbabkdeppcfcnaaReadSI
import Derived.Test.YtbabkdeppcfcnaaInsS
import Derived.Test.YtbabkdeppcfcnaaInsI
import Derived.Test.YtbabkdeppcfcnaaTwinS
namespace Go.Proofs.Ytbabkdeppcfcnaa
open Go.RowKit

/-- What a call that turns this seat's map leaves. -/
def TurnedSI (w w' : World) (p : Nat) (F : Nat → Prop) (ks : List ByteArray) (vs : List Int) : Prop :=
  Turned w w' 43 9 3 p F (ks.map (Value.string)) (vs.map (Value.int .i64))

theorem oneSSI (ks : List ByteArray) : ∀ u ∈ ks.map (Value.string), u.oneCell' = true := by
  intro u hu
  obtain ⟨_, _, rfl⟩ := List.mem_map.1 hu
  rfl
theorem oneVSI (vs : List Int) : ∀ u ∈ vs.map (Value.int .i64), u.oneCell' = true := by
  intro u hu
  obtain ⟨_, _, rfl⟩ := List.mem_map.1 hu
  rfl

set_option maxHeartbeats 1000000 in
theorem keysSI (w : World) (p : Nat) (F : Nat → Prop) (ks : List ByteArray) (vs : List Int) (hn : ks.length ≤ 1000000) (h : MSI w p F ks vs) :
    Calls Try.prog 10 #[.pointer (some ⟨p, 0, none⟩)] w fun e w' => TwinPost w w' 9 (ks.map (Value.string)) e := by
  obtain ⟨kv, vv, h0, h1, h2, _⟩ := h
  obtain ⟨ka, kc, rfl⟩ := owns_slice h1
  have c0 := cell0_of_two h0
  have HT := Lib.hid (twinS _ _ _ w (by simpa using hn) h1 (oneSSI ks))
  clear h0 h1 h2 hn
  generalize ks.map (Value.string) = X at *
  go_enter Try.func10, Try.ntmps10
  go_wp2_with fail
  go_at_call 21
  refine HT.out.mono ?_
  rintro e w' ⟨v', rfl, ho, hg, b, hb, hl⟩
  obtain ⟨a', c', rfl⟩ := owns_slice ho
  have HX := Lib.hid (p := w'.ownsRow 0 9 1 (.slice a' X.length c') X.length X ∧ w.grownBy w' none ∧ (Value.slice a' X.length c').ownBlock = some b ∧ w.heap.size ≤ b) ⟨ho, hg, hb, hl⟩
  clear ho hg hb hl
  go_wp2
  go_ret
  exact ⟨_, rfl, HX.out.1, HX.out.2.1, b, HX.out.2.2.1, HX.out.2.2.2⟩

set_option maxHeartbeats 2000000 in
/-- Put of a key that is there. -/
theorem putOldSI (w : World) (p : Nat) (F : Nat → Prop) (ks : List ByteArray) (vs : List Int) (x : ByteArray) (v : Int) (hn : ks.length ≤ 1000000) (hr : Rising lsS ks) (hx : x ∈ ks) (h : MSI w p F ks vs) :
    Calls Try.prog 7 #[.pointer (some ⟨p, 0, none⟩), .string x, .int .i64 v] w fun e w' => e = .returned (.bool false) ∧ TurnedSI w w' p F ks (vs.set (pos lsS ks x) v) := by
  obtain ⟨ka, kc, c0, hL⟩ := lookSI h hn hr x
  have hM := h
  have hk := (List.getElem?_eq_some_iff.1 ((mem_iff_pos strictS hr).1 hx)).1
  obtain ⟨I, hI⟩ : ∃ I, pos lsS ks x = I := ⟨_, rfl⟩
  have HL := Lib.hid (hL I true hI ((has_iff ks x).2 hx))
  rw [hI] at hk ⊢
  have hl := h.len
  obtain ⟨kv, vv, h0, h1, h2, d0, d1, d2, f0, f1, f2, f3⟩ := h
  obtain ⟨g, c, cur, rfl, hg, hs, hnc, hm, ht, hx2⟩ := owns_block h2 (by simp; omega)
  have c1 := cell1_of_two h0
  simp only [List.length_map] at c1
  have ci : w.cell? ⟨g, I, none⟩ = some (.int .i64 (vs[I]'(by omega))) := owns_cell hg ht (by rw [List.getElem?_map, List.getElem?_eq_getElem (by omega)]; rfl)
  have fi : w.frozen? ⟨g, I, none⟩ = false := frozen_of_row w g I cur _ hg
  have hi' : (I : Int) < (ks.length : Int) := by omega
  have h0i : (0 : Int) ≤ (I : Int) := by omega
  have hpg : p ≠ g := fun e => d1 (by rw [e]; rfl)
  have HX := Lib.hid (p := ∀ q, TurnedSI w ((w.drewN q).setCell ⟨g, I, none⟩ (.int .i64 v)) p F ks (vs.set I v)) (fun q => by
    have hK : Kept F w ((w.drewN q).setCell ⟨g, I, none⟩ (.int .i64 v)) := ((Kept.refl F w).drewN q).setCell (Or.inl (f2 g rfl)) _
    refine ⟨F, ⟨kv, _, ?_, ?_, ?_, d0, d1, d2, f0, f1, f2, fun k hk => Nat.lt_of_lt_of_le (f3 k hk) hK.size⟩, Grew.refl _ _, hK⟩
    · rw [heap_setCell_other _ _ _ _ (by exact hpg)]; exact h0
    · exact ownsRow_setCell_other (a := ⟨g, I, none⟩) (((Kept.refl (fun _ => False) w).drewN q).owns h1 (fun _ _ h => h)) (fun e => d2 _ e rfl) _
    · rw [List.map_set]
      exact owns_set (((Kept.refl (fun _ => False) w).drewN q).owns h2 (fun _ _ h => h)) (by simp; omega) I _)
  generalize vs[I]'(by omega) = old at ci
  clear h0 h1 h2 hI hg hs ht hnc hm hL hk hl hx2 d0 d1 d2 f0 f1 f2 f3 hM hr hx
  go_enter Try.func7, Try.ntmps7
  go_wp2_with (go_at_call 16; refine HL.out.mono ?_; rintro e w' ⟨rfl, q, rfl⟩)
  go_ret
  exact ⟨rfl, HX.out _⟩

set_option maxHeartbeats 1000000 in
/-- Put of a key that is new. -/
theorem putNewSI (w : World) (p : Nat) (F : Nat → Prop) (ks : List ByteArray) (vs : List Int) (x : ByteArray) (v : Int) (hn : ks.length ≤ 1000000) (hr : Rising lsS ks) (hx : x ∉ ks) (h : MSI w p F ks vs) :
    Calls Try.prog 7 #[.pointer (some ⟨p, 0, none⟩), .string x, .int .i64 v] w fun e w' => e = .returned (.bool true) ∧
      TurnedSI w w' p F (ks.take (pos lsS ks x) ++ x :: ks.drop (pos lsS ks x)) (vs.take (pos lsS ks x) ++ v :: vs.drop (pos lsS ks x)) := by
  obtain ⟨ka0, kc0, c00, hL⟩ := lookSI h hn hr x
  have hp := pos_le (less := lsS) ks x
  obtain ⟨I, hI⟩ : ∃ I, pos lsS ks x = I := ⟨_, rfl⟩
  have HL := Lib.hid (hL I false hI (has_no hx))
  rw [hI] at hp ⊢
  obtain ⟨ka, kc, va, vc, HF⟩ := MapIn.fields h
  have c0 := cell0_of_two HF.row
  have c1 := cell1_of_two HF.row
  have hpw := HF.plt
  simp only [List.length_map] at c0 c1 HF
  rw [c0] at c00
  simp only [Option.some.injEq, Value.slice.injEq] at c00
  obtain ⟨rfl, _, rfl⟩ := c00
  have HP := Lib.hid hp
  clear hI hL hr hx hp h
  generalize ks.length = n at *
  have H0 := Lib.hid HF
  clear HF
  go_enter Try.func7, Try.ntmps7
  go_wp2_with (go_at_call 16; refine HL.out.mono ?_; rintro e w' ⟨rfl, q, rfl⟩)
  go_at_call 17
  have k0 : Kept (fun _ => False) w ((w.drewN q).alloc (.cells #[.string x] 9)) := ((Kept.refl _ w).drewN q).alloc _
  have F0 := H0.out.kept k0 (fun _ _ h => h)
  refine (insS _ n I w.heap.size (ks.map (Value.string)) (.string x) _ hn HP.out F0.k (heap_alloc_new (w.drewN q) _) (fun e => Nat.lt_irrefl _ (H0.out.lt _ (H0.out.fk _ e))) (oneSSI ks) rfl).mono ?_
  obtain ⟨X1, hX1⟩ : ∃ X1, X1 = (ks.map (Value.string)).take I ++ .string x :: (ks.map (Value.string)).drop I := ⟨_, rfl⟩
  obtain ⟨Y1, hY1⟩ : ∃ Y1, Y1 = (vs.map (Value.int .i64)).take I ++ .int .i64 v :: (vs.map (Value.int .i64)).drop I := ⟨_, rfl⟩
  have HX1 := Lib.hid hX1
  have HY1 := Lib.hid hY1
  clear hX1 hY1
  rintro e w1 hI1
  rw [← HX1.out] at hI1
  obtain ⟨kv', rfl, ho, hg, hb⟩ := hI1
  obtain ⟨a1, a2, -⟩ := F0.store0 hg ho hb
  obtain ⟨e0, e1, e2, e3, e4⟩ := F0.during hg F0.dk
  obtain ⟨ka', kc', rfl⟩ := owns_slice ho
  have HA := Lib.hid (And.intro ho (And.intro hg hb))
  have A1 := Lib.hid a1
  clear ho hg hb a1 a2 F0 k0 c0 c1
  go_wp2_with fail
  go_at_call 18
  have k1 : Kept (fun _ => False) (w1.setCell ⟨p, 0, none⟩ (.slice ka' X1.length kc')) ((w1.setCell ⟨p, 0, none⟩ (.slice ka' X1.length kc')).alloc (.cells #[.int .i64 v] 3)) := (Kept.refl _ _).alloc _
  have F1 := A1.out.kept k1 (fun _ _ h => h)
  have hv1 := heap_alloc_new (w1.setCell ⟨p, 0, none⟩ (.slice ka' X1.length kc')) (.cells #[.int .i64 v] 3)
  have hlt1 := A1.out.lt
  rw [World.size_setCell] at hv1 hlt1
  refine (insI _ n I w1.heap.size (vs.map (Value.int .i64)) (.int .i64 v) _ hn HP.out F1.v hv1 (fun e => Nat.lt_irrefl _ (hlt1 _ (A1.out.fv _ e))) (oneVSI vs) rfl).mono ?_
  clear hv1 hlt1
  rintro e w3 hI2
  rw [← HY1.out] at hI2
  obtain ⟨vv', rfl, ho2, hg2, hb2⟩ := hI2
  obtain ⟨e0', e1', e2', e3', e4'⟩ := F1.during hg2 F1.dv
  obtain ⟨va', vc', rfl⟩ := owns_slice ho2
  have HB := Lib.hid (And.intro ho2 (And.intro hg2 hb2))
  clear ho2 hg2 hb2 F1 k1 e0 e1 e2 e3
  go_wp2
  go_ret
  refine ⟨rfl, ?_⟩
  show Turned _ _ _ _ _ _ _ _ _
  have hlen : X1.length = Y1.length := by
    rw [HX1.out, HY1.out]
    have h1 := owns_len H0.out.k
    have h2 := owns_len H0.out.v
    simp only [List.length_append, List.length_take, List.length_cons, List.length_drop, h1, h2]
  have e5 : (ks.take I ++ x :: ks.drop I).map (Value.string) = X1 := by rw [HX1.out]; simp [List.map_take, List.map_drop]
  have e6 : (vs.take I ++ v :: vs.drop I).map (Value.int .i64) = Y1 := by rw [HY1.out]; simp [List.map_take, List.map_drop]
  rw [e5, e6]
  have ho2 := HB.out.1
  exact H0.out.both (((Kept.refl _ w).drewN _).alloc _) HA.out.2.1 HA.out.1 HA.out.2.2 ((Kept.refl _ _).alloc _) HB.out.2.1 (by rw [hlen]; exact ho2) HB.out.2.2

/-- Put, of any key. -/
theorem putSI (w : World) (p : Nat) (F : Nat → Prop) (ks : List ByteArray) (vs : List Int) (x : ByteArray) (v : Int) (hn : ks.length ≤ 1000000) (hr : Rising lsS ks) (h : MSI w p F ks vs) :
    Calls Try.prog 7 #[.pointer (some ⟨p, 0, none⟩), .string x, .int .i64 v] w fun e w' => e = .returned (.bool (!has ks x)) ∧ TurnedSI w w' p F (putK lsS ks x) (putV lsS ks vs x v) := by
  unfold putK putV
  by_cases hx : x ∈ ks
  · have hb := (has_iff ks x).2 hx
    rw [hb]
    exact putOldSI w p F ks vs x v hn hr hx h
  · have hb := has_no hx
    rw [hb]
    exact putNewSI w p F ks vs x v hn hr hx h

end Go.Proofs.Ytbabkdeppcfcnaa
