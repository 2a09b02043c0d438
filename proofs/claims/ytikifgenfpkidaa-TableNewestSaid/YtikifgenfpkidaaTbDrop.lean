/-
  No statement: what Drop of sorted.Map[string, value.Value] does to a map that lies in memory.
-/
import Derived.Test.YtikifgenfpkidaaTbWrite
import Derived.Test.YtikifgenfpkidaaDelS
import Derived.Test.YtikifgenfpkidaaDelR
namespace Go.Proofs.Ytikifgenfpkidaa
open Go.RowKit

set_option maxHeartbeats 1000000 in
theorem dropOutSR (w : World) (p : Nat) (most : Int) (F : Nat → Prop) (ks : List ByteArray) (vs : List RC) (x : ByteArray) (hn : ks.length ≤ 1000000) (hr : Rising lsS ks) (hx : x ∉ ks) (h : MSR w p most F ks vs) :
    Calls Try.prog 38 #[.pointer (some ⟨p, 1, none⟩), .string x] w fun e w' => e = .returned (.bool false) ∧ ∃ q, w' = w.drewN q := by
  obtain ⟨ka, kc, c0, hL⟩ := lookSR h hn hr x
  obtain ⟨I, hI⟩ : ∃ I, pos lsS ks x = I := ⟨_, rfl⟩
  have HL := Lib.hid (hL I false hI (has_no hx))
  clear h hI hx hL hr
  generalize ks.length = n at *
  go_enter Try.func38, Try.ntmps38
  go_wp2_with (go_at_call 58; refine HL.out.mono ?_; rintro e w' ⟨rfl, q, rfl⟩)
  go_ret
  exact ⟨rfl, _, rfl⟩

theorem flatR_del (vs : List RC) (I : Nat) : flatR (vs.eraseIdx I) = (flatR vs).take (I * 6) ++ (flatR vs).drop (I * 6 + 6) := by
  rw [List.eraseIdx_eq_take_drop_succ, flatR_append, flatR_take, flatR_drop, show (I + 1) * 6 = I * 6 + 6 by omega]

set_option maxHeartbeats 1000000 in
theorem dropInSR (w : World) (p : Nat) (most : Int) (F : Nat → Prop) (ks : List ByteArray) (vs : List RC) (x : ByteArray) (hn : ks.length ≤ 1000000) (hr : Rising lsS ks) (hx : x ∈ ks) (h : MSR w p most F ks vs) :
    Calls Try.prog 38 #[.pointer (some ⟨p, 1, none⟩), .string x] w fun e w' => e = .returned (.bool true) ∧ TurnedSR w w' p most F (ks.eraseIdx (pos lsS ks x)) (vs.eraseIdx (pos lsS ks x)) := by
  obtain ⟨ka0, kc0, c00, hL⟩ := lookSR h hn hr x
  have hp := (List.getElem?_eq_some_iff.1 ((mem_iff_pos strictS hr).1 hx)).1
  obtain ⟨I, hI⟩ : ∃ I, pos lsS ks x = I := ⟨_, rfl⟩
  have HL := Lib.hid (hL I true hI ((has_iff ks x).2 hx))
  rw [hI] at hp ⊢
  obtain ⟨ka, kc, va, vc, HF⟩ := MapInH.fields h
  have c0 := cell1_of_three HF.row
  have c1 := cell2_of_three HF.row
  have hpw := HF.plt
  simp only [List.length_map] at c0 c1 HF
  rw [c0] at c00
  simp only [Option.some.injEq, Value.slice.injEq] at c00
  obtain ⟨rfl, _, rfl⟩ := c00
  have hI1 : I ≤ 1000000 := by omega
  have HP := Lib.hid hp
  clear hI hL hr hx hp h
  generalize ks.length = n at *
  have H0 := Lib.hid HF
  clear HF
  obtain ⟨X1, hX1⟩ : ∃ X1, X1 = (ks.map Value.string).eraseIdx I := ⟨_, rfl⟩
  obtain ⟨Y1, hY1⟩ : ∃ Y1, Y1 = (flatR vs).take (I * 6) ++ (flatR vs).drop (I * 6 + 6) := ⟨_, rfl⟩
  have hlX : X1.length = n - 1 := by rw [hX1, List.length_eraseIdx, owns_len H0.out.k, if_pos HP.out]
  have HLX := Lib.hid hlX
  have HX1 := Lib.hid hX1
  have HY1 := Lib.hid hY1
  clear hX1 hY1 hlX
  go_enter Try.func38, Try.ntmps38
  go_wp2_with (go_at_call 58; refine HL.out.mono ?_; rintro e w' ⟨rfl, q, rfl⟩)
  go_at_call 59
  have F0 := H0.out.kept (((Kept.refl (fun _ => False) w)).drewN q) (fun _ _ h => h)
  refine (delS _ n I (ks.map Value.string) _ hn HP.out F0.k (oneSSR ks)).mono ?_
  rintro e w1 hI1'
  rw [← HX1.out] at hI1'
  obtain ⟨kv', rfl, ho, hg, hb⟩ := hI1'
  rw [HLX.out] at ho
  obtain ⟨a1, a2, -⟩ := F0.store0 hg ho (Or.inl hb)
  obtain ⟨e0, e1, e2, e3, e4⟩ := F0.during hg F0.dk
  obtain ⟨ka', kc', rfl⟩ := owns_slice ho
  have HA := Lib.hid (And.intro ho (And.intro hg hb))
  have A1 := Lib.hid a1
  clear ho hg hb a1 a2 F0 c0 c1
  go_wp2_with fail
  go_at_call 60
  refine (delR _ n I (flatR vs) _ hn HP.out A1.out.v (flatR_one vs)).mono ?_
  rintro e w3 hI2
  rw [← HY1.out] at hI2
  obtain ⟨vv', rfl, ho2, hg2, hb2⟩ := hI2
  obtain ⟨e0', e1', e2', e3', e4'⟩ := A1.out.during hg2 A1.out.dv
  obtain ⟨va', vc', rfl⟩ := ownsM_slice ho2
  have HB := Lib.hid (And.intro ho2 (And.intro hg2 hb2))
  clear ho2 hg2 hb2 e0 e1 e2 e3
  go_wp2
  go_ret
  refine ⟨rfl, ?_⟩
  show TurnedH _ _ _ _ _ _ _ _ _ _ _
  have e5 : (ks.eraseIdx I).map Value.string = X1 := by rw [HX1.out]; simp [List.eraseIdx_eq_take_drop_succ, List.map_take, List.map_drop]
  have e6 : flatR (vs.eraseIdx I) = Y1 := by rw [HY1.out, flatR_del]
  rw [e5, e6]
  exact H0.out.both ((Kept.refl _ w).drewN _) HA.out.2.1 HA.out.1 (Or.inl HA.out.2.2) (Kept.refl _ _) HB.out.2.1 HB.out.1 (Or.inl HB.out.2.2)

/-- Drop, of any key. -/
theorem dropSR (w : World) (p : Nat) (most : Int) (F : Nat → Prop) (ks : List ByteArray) (vs : List RC) (x : ByteArray) (hn : ks.length ≤ 1000000) (hr : Rising lsS ks) (h : MSR w p most F ks vs) :
    Calls Try.prog 38 #[.pointer (some ⟨p, 1, none⟩), .string x] w fun e w' => e = .returned (.bool (has ks x)) ∧ TurnedSR w w' p most F (dropK lsS ks x) (dropV lsS ks vs x) := by
  unfold dropK dropV
  by_cases hx : x ∈ ks
  · rw [(has_iff ks x).2 hx]
    exact dropInSR w p most F ks vs x hn hr hx h
  · rw [has_no hx]
    refine (dropOutSR w p most F ks vs x hn hr hx h).mono fun e w' ⟨he, q, hw⟩ => ⟨he, ?_⟩
    subst hw
    exact ⟨F, h.kept ((Kept.refl (fun _ => False) w).drewN q) (fun _ _ h => h), Grew.refl _ _, (Kept.refl F w).drewN q⟩

end Go.Proofs.Ytikifgenfpkidaa
