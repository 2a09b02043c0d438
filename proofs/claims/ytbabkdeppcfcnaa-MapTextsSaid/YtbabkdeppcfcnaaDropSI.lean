/-
  No statement: what sorted.Map[string, int].Drop and Twin do to a map that lies in memory.
-/
import Derived.Test.YtbabkdeppcfcnaaWriteSI
import Derived.Test.YtbabkdeppcfcnaaDelS
import Derived.Test.YtbabkdeppcfcnaaDelI
import Derived.Test.YtbabkdeppcfcnaaTwinI
namespace Go.Proofs.Ytbabkdeppcfcnaa
open Go.RowKit

set_option maxHeartbeats 1000000 in
theorem dropOutSI (w : World) (p : Nat) (F : Nat → Prop) (ks : List ByteArray) (vs : List Int) (x : ByteArray) (hn : ks.length ≤ 1000000) (hr : Rising lsS ks) (hx : x ∉ ks) (h : MSI w p F ks vs) :
    Calls Try.prog 8 #[.pointer (some ⟨p, 0, none⟩), .string x] w fun e w' => e = .returned (.bool false) ∧ ∃ q, w' = w.drewN q := by
  obtain ⟨ka, kc, c0, hL⟩ := lookSI h hn hr x
  obtain ⟨I, hI⟩ : ∃ I, pos lsS ks x = I := ⟨_, rfl⟩
  have HL := Lib.hid (hL I false hI (has_no hx))
  clear h hI hx hL hr
  generalize ks.length = n at *
  go_enter Try.func8, Try.ntmps8
  go_wp2_with (go_at_call 16; refine HL.out.mono ?_; rintro e w' ⟨rfl, q, rfl⟩)
  go_ret
  exact ⟨rfl, _, rfl⟩

set_option maxHeartbeats 1000000 in
theorem dropInSI (w : World) (p : Nat) (F : Nat → Prop) (ks : List ByteArray) (vs : List Int) (x : ByteArray) (hn : ks.length ≤ 1000000) (hr : Rising lsS ks) (hx : x ∈ ks) (h : MSI w p F ks vs) :
    Calls Try.prog 8 #[.pointer (some ⟨p, 0, none⟩), .string x] w fun e w' => e = .returned (.bool true) ∧ TurnedSI w w' p F (ks.eraseIdx (pos lsS ks x)) (vs.eraseIdx (pos lsS ks x)) := by
  obtain ⟨ka0, kc0, c00, hL⟩ := lookSI h hn hr x
  have hp := (List.getElem?_eq_some_iff.1 ((mem_iff_pos strictS hr).1 hx)).1
  obtain ⟨I, hI⟩ : ∃ I, pos lsS ks x = I := ⟨_, rfl⟩
  have HL := Lib.hid (hL I true hI ((has_iff ks x).2 hx))
  rw [hI] at hp ⊢
  obtain ⟨ka, kc, va, vc, HF⟩ := MapIn.fields h
  have c0 := cell0_of_two HF.row
  have c1 := cell1_of_two HF.row
  have hpw := HF.plt
  simp only [List.length_map] at c0 c1 HF
  rw [c0] at c00
  simp only [Option.some.injEq, Value.slice.injEq] at c00
  obtain ⟨rfl, _, rfl⟩ := c00
  have hI1 : I ≤ 1000000 := by omega
  have HP := Lib.hid hp
  clear hI hL hr hx hp h
  generalize ks.length = n at *
  have H0 := Lib.hid HF
  clear HF
  obtain ⟨X1, hX1⟩ : ∃ X1, X1 = (ks.map (Value.string)).eraseIdx I := ⟨_, rfl⟩
  obtain ⟨Y1, hY1⟩ : ∃ Y1, Y1 = (vs.map (Value.int .i64)).eraseIdx I := ⟨_, rfl⟩
  have HX1 := Lib.hid hX1
  have HY1 := Lib.hid hY1
  clear hX1 hY1
  go_enter Try.func8, Try.ntmps8
  go_wp2_with (go_at_call 16; refine HL.out.mono ?_; rintro e w' ⟨rfl, q, rfl⟩)
  go_at_call 19
  have F0 := H0.out.kept (((Kept.refl (fun _ => False) w)).drewN q) (fun _ _ h => h)
  refine (delS _ n I (ks.map (Value.string)) _ hn HP.out F0.k (oneSSI ks)).mono ?_
  rintro e w1 hI1'
  rw [← HX1.out] at hI1'
  obtain ⟨kv', rfl, ho, hg, hb⟩ := hI1'
  obtain ⟨a1, a2, -⟩ := F0.store0 hg ho (Or.inl hb)
  obtain ⟨e0, e1, e2, e3, e4⟩ := F0.during hg F0.dk
  obtain ⟨ka', kc', rfl⟩ := owns_slice ho
  have HA := Lib.hid (And.intro ho (And.intro hg hb))
  have A1 := Lib.hid a1
  clear ho hg hb a1 a2 F0 c0 c1
  go_wp2_with fail
  go_at_call 20
  refine (delI _ n I (vs.map (Value.int .i64)) _ hn HP.out A1.out.v (oneVSI vs)).mono ?_
  rintro e w3 hI2
  rw [← HY1.out] at hI2
  obtain ⟨vv', rfl, ho2, hg2, hb2⟩ := hI2
  obtain ⟨e0', e1', e2', e3', e4'⟩ := A1.out.during hg2 A1.out.dv
  obtain ⟨va', vc', rfl⟩ := owns_slice ho2
  have HB := Lib.hid (And.intro ho2 (And.intro hg2 hb2))
  clear ho2 hg2 hb2 e0 e1 e2 e3
  go_wp2
  go_ret
  refine ⟨rfl, ?_⟩
  show Turned _ _ _ _ _ _ _ _ _
  have hlen : X1.length = Y1.length := by
    rw [HX1.out, HY1.out]
    have h1 := owns_len H0.out.k
    have h2 := owns_len H0.out.v
    rw [List.length_eraseIdx, List.length_eraseIdx, h1, h2]
  have e5 : (ks.eraseIdx I).map (Value.string) = X1 := by rw [HX1.out]; simp [List.eraseIdx_eq_take_drop_succ, List.map_take, List.map_drop]
  have e6 : (vs.eraseIdx I).map (Value.int .i64) = Y1 := by rw [HY1.out]; simp [List.eraseIdx_eq_take_drop_succ, List.map_take, List.map_drop]
  rw [e5, e6]
  have ho2 := HB.out.1
  exact H0.out.both ((Kept.refl _ w).drewN _) HA.out.2.1 HA.out.1 (Or.inl HA.out.2.2) (Kept.refl _ _) HB.out.2.1 (by rw [hlen]; exact ho2) (Or.inl HB.out.2.2)

/-- Drop, of any key. -/
theorem dropSI (w : World) (p : Nat) (F : Nat → Prop) (ks : List ByteArray) (vs : List Int) (x : ByteArray) (hn : ks.length ≤ 1000000) (hr : Rising lsS ks) (h : MSI w p F ks vs) :
    Calls Try.prog 8 #[.pointer (some ⟨p, 0, none⟩), .string x] w fun e w' => e = .returned (.bool (has ks x)) ∧ TurnedSI w w' p F (dropK lsS ks x) (dropV lsS ks vs x) := by
  unfold dropK dropV
  by_cases hx : x ∈ ks
  · rw [(has_iff ks x).2 hx]
    exact dropInSI w p F ks vs x hn hr hx h
  · rw [has_no hx]
    refine (dropOutSI w p F ks vs x hn hr hx h).mono fun e w' ⟨he, q, hw⟩ => ⟨he, ?_⟩
    subst hw
    exact ⟨F, h.kept ((Kept.refl (fun _ => False) w).drewN q) (fun _ _ h => h), Grew.refl _ _, (Kept.refl F w).drewN q⟩

/-- What is known of a map's two slices while they are copied. -/
def BothSI (w w' : World) (p : Nat) (ka : Option Addr) (n kc : Nat) (va : Option Addr) (vc : Nat) (X Y : List Value) : Prop :=
  w'.ownsRow 0 9 1 (.slice ka n kc) n X ∧ w'.ownsRow 0 3 1 (.slice va n vc) n Y ∧ w'.heap[p]? = some (.cells #[.slice ka n kc, .slice va n vc] 43 (0, 0)) ∧ Kept (fun _ => False) w w'

theorem BothSI.next {w w1 w2 : World} {p : Nat} {ka va : Option Addr} {n kc vc : Nat} {X Y : List Value} (h : BothSI w w1 p ka n kc va vc X Y) (hg : w1.grownBy w2 none) : BothSI w w2 p ka n kc va vc X Y :=
  ⟨h.1.kept hg (by cases (Value.slice ka n kc).ownBlock <;> simp), h.2.1.kept hg (by cases (Value.slice va n vc).ownBlock <;> simp), (by rw [hg.block p (lt_of_block h.2.2.1) (by simp)]; exact h.2.2.1), h.2.2.2.grown hg (fun _ h => by cases h)⟩

theorem BothSI.drew {w w1 : World} {p : Nat} {ka va : Option Addr} {n kc vc : Nat} {X Y : List Value} (h : BothSI w w1 p ka n kc va vc X Y) : BothSI w w1.drew p ka n kc va vc X Y := ⟨h.1.kept (w' := w1.drew) (row := none) ⟨rfl, rfl, rfl, Nat.le_refl _, fun _ _ _ => rfl⟩ (by cases (Value.slice ka n kc).ownBlock <;> simp), h.2.1.kept (w' := w1.drew) (row := none) ⟨rfl, rfl, rfl, Nat.le_refl _, fun _ _ _ => rfl⟩ (by cases (Value.slice va n vc).ownBlock <;> simp), h.2.2.1, h.2.2.2.drew⟩

set_option maxHeartbeats 1000000 in
theorem twinSI (w : World) (p : Nat) (F : Nat → Prop) (ks : List ByteArray) (vs : List Int) (hn : ks.length ≤ 1000000) (h : MSI w p F ks vs) :
    Calls Try.prog 9 #[.pointer (some ⟨p, 0, none⟩)] w fun e w' => ∃ b F', e = .returned (.pointer (some ⟨b, 0, none⟩)) ∧ MSI w' b F' ks vs ∧ (∀ k, F' k → w.heap.size ≤ k) ∧ Kept (fun _ => False) w w' := by
  obtain ⟨ka, kc, va, vc, HF⟩ := MapIn.fields h
  have c0 := cell0_of_two HF.row
  have c1 := cell1_of_two HF.row
  have hpw := HF.plt
  simp only [List.length_map] at c0 c1 HF
  have hB0 : BothSI w w p ka ks.length kc va vc (ks.map (Value.string)) (vs.map (Value.int .i64)) := ⟨HF.k, HF.v, HF.row, Kept.refl _ w⟩
  have B0 := Lib.hid hB0.drew
  have hXl := owns_len hB0.1
  have hYl := owns_len hB0.2.1
  have K1 := Lib.hid (oneSSI ks)
  have V1 := Lib.hid (oneVSI vs)
  clear h HF hB0
  unfold MSI
  generalize ks.map (Value.string) = X at *
  generalize vs.map (Value.int .i64) = Y at *
  generalize ks.length = n at *
  have hnX := Lib.hid hXl
  have hnY := Lib.hid hYl
  clear hXl hYl
  go_enter Try.func9, Try.ntmps9
  go_wp2_with fail
  go_region_with (first
    | (go_at_call 21; refine (twinS _ n X _ hn (by first | exact B0.out.1 | exact (B0.out.next G2.out.2.1).1) K1.out).mono ?_; rintro e w1 ⟨v1, rfl, o1, g1, q1⟩; obtain ⟨a1, z1, rfl⟩ := owns_slice o1; have G1 := Lib.hid (And.intro o1 (And.intro g1 q1)); clear o1 g1 q1; first | (have M1 := B0.out.next G1.out.2.1; have d0 := cell0_of_two M1.2.2.1; have d1 := cell1_of_two M1.2.2.1; clear M1) | skip)
    | (go_at_call 22; refine (twinI _ n Y _ hn (by first | exact B0.out.2.1 | exact (B0.out.next G1.out.2.1).2.1) V1.out).mono ?_; rintro e w2 ⟨v2, rfl, o2, g2, q2⟩; obtain ⟨a2, z2, rfl⟩ := owns_slice o2; have G2 := Lib.hid (And.intro o2 (And.intro g2 q2)); clear o2 g2 q2; first | (have M2 := B0.out.next G2.out.2.1; have d0' := cell0_of_two M2.2.2.1; have d1' := cell1_of_two M2.2.2.1; clear M2) | skip))
  all_goals
    go_wp2
    go_ret
    obtain ⟨F', hm, hs, hk⟩ := mapIn_twin (T := 43) ((Kept.refl (fun _ => False) w).drew) G1.out.2.1 G1.out.1 G1.out.2.2 G2.out.2.1 (by rw [hnX.out, ← hnY.out]; exact G2.out.1) G2.out.2.2
    exact ⟨_, F', rfl, hm, hs, hk⟩

end Go.Proofs.Ytbabkdeppcfcnaa
