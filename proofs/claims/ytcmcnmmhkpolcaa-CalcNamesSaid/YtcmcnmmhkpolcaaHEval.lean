/-
  No statement: contracts of apply, number, eval and Eval of package calc (P1001).
-/
import Derived.Test.YtcmcnmmhkpolcaaHMath
import Derived.Test.YtcmcnmmhkpolcaaHW5
namespace Go.Proofs.Ytcmcnmmhkpolcaa
open Go.RowKit

/-- What names have in attributes. -/
structure GetOK (A : Nat → Wr.AD) (n : Nat) (g : ByteArray → Option Int) : Prop where
  yes : ∀ j, j < n → g (A j).m = if (A j).k = 1 then some (A j).n else none
  no : ∀ x, (∀ j, j < n → (A j).m ≠ x) → g x = none
  fit : ∀ x v, g x = some v → In64 v

set_option maxHeartbeats 8000000 in
theorem pApply_any (o : ByteArray) (a b : Int) (ha : In64 a) (hb : In64 b) (h4 : isTwo o = true) (w : World) : Calls Try.prog 45 #[.string o, .int .i64 a, .int .i64 b] w fun e w' => e = .returned (.tuple #[.int .i64 ((applyB o a b).getD 0), .bool (applyB o a b).isSome]) ∧ w = w' := by
  have A1 := Lib.hid (vAdd_any a b w ha hb)
  have A2 := Lib.hid (vSub_any a b w ha hb)
  have A3 := Lib.hid (vMul_any a b w ha hb)
  unfold isTwo at h4
  unfold applyB
  cases h1 : (o.data.toList == [43]) with
  | true =>
    have g1 := op_yes h1
    rw [if_pos rfl]
    simp only [Option.getD_some, Option.isSome_some]
    clear h1 h4
    go_enter Try.func45, Try.ntmps45
    go_wp2_with fail
    refine A1.out.mono ?_
    rintro e w1 ⟨rfl, rfl⟩
    go_wp2_with fail
    go_ret2
    exact ⟨rfl, rfl⟩
  | false =>
    have g1 := op_not h1
    rw [if_neg (by decide)]
    cases h2 : (o.data.toList == [45]) with
    | true =>
      have g2 := op_yes h2
      rw [if_pos rfl]
      simp only [Option.getD_some, Option.isSome_some]
      clear h1 h4 h2
      go_enter Try.func45, Try.ntmps45
      go_wp2_with fail
      refine A2.out.mono ?_
      rintro e w1 ⟨rfl, rfl⟩
      go_wp2_with fail
      go_ret2
      exact ⟨rfl, rfl⟩
    | false =>
      have g2 := op_not h2
      rw [if_neg (by decide)]
      cases h3 : (o.data.toList == [42]) with
      | true =>
        have g3 := op_yes h3
        rw [if_pos rfl]
        simp only [Option.getD_some, Option.isSome_some]
        clear h1 h4 h2 h3
        go_enter Try.func45, Try.ntmps45
        go_wp2_with fail
        refine A3.out.mono ?_
        rintro e w1 ⟨rfl, rfl⟩
        go_wp2_with fail
        go_ret2
        exact ⟨rfl, rfl⟩
      | false =>
        have g3 := op_not h3
        rw [if_neg (by decide)]
        cases h5 : (o.data.toList == [47]) with
        | true =>
          have g4 := op_yes h5
          rw [if_pos rfl]
          by_cases hz : b = 0
          · subst hz
            have A4 := Lib.hid (vDiv_nought a w)
            rw [if_pos rfl]
            simp only [Option.getD_none, Option.isSome_none]
            clear h1 h4 h2 h3 h5
            go_enter Try.func45, Try.ntmps45
            go_wp2_with fail
            refine A4.out.mono ?_
            rintro e w1 ⟨rfl, rfl⟩
            go_wp2_with fail
            go_ret2
            exact ⟨rfl, rfl⟩
          · have A4 := Lib.hid (vDiv_any a b w ha hb hz)
            rw [if_neg hz]
            simp only [Option.getD_some, Option.isSome_some]
            clear h1 h4 h2 h3 h5 hz
            go_enter Try.func45, Try.ntmps45
            go_wp2_with fail
            refine A4.out.mono ?_
            rintro e w1 ⟨rfl, rfl⟩
            go_wp2_with fail
            go_ret2
            exact ⟨rfl, rfl⟩
        | false =>
          have g4 := op_not h5
          rw [if_neg (by decide)]
          have g5 := op_yes (o := o) (x := [37]) (by rw [h1, h2, h3, h5] at h4; simpa using h4)
          by_cases hz : b = 0
          · subst hz
            have A4 := Lib.hid (vMod_nought a w)
            rw [if_pos rfl]
            simp only [Option.getD_none, Option.isSome_none]
            clear h1 h4 h2 h3 h5
            go_enter Try.func45, Try.ntmps45
            go_wp2_with fail
            refine A4.out.mono ?_
            rintro e w1 ⟨rfl, rfl⟩
            go_wp2_with fail
            go_ret2
            exact ⟨rfl, rfl⟩
          · have A4 := Lib.hid (vMod_any a b w ha hb hz)
            rw [if_neg hz]
            simp only [Option.getD_some, Option.isSome_some]
            clear h1 h4 h2 h3 h5 hz
            go_enter Try.func45, Try.ntmps45
            go_wp2_with fail
            refine A4.out.mono ?_
            rintro e w1 ⟨rfl, rfl⟩
            go_wp2_with fail
            go_ret2
            exact ⟨rfl, rfl⟩

/-- Found where it is, of rising names. -/
theorem found_get {A : Nat → Wr.AD} {n : Nat} {g : ByteArray → Option Int} (hg : GetOK A n g) (hR : Wr.RiseA A n) (x : ByteArray) :
    (has (Wr.nmD (Wr.twsA A n)) x = true → pos lsS (Wr.nmD (Wr.twsA A n)) x < n → g x = if (A (pos lsS (Wr.nmD (Wr.twsA A n)) x)).k = 1 then some (A (pos lsS (Wr.nmD (Wr.twsA A n)) x)).n else none) ∧
    (¬ has (Wr.nmD (Wr.twsA A n)) x = true → g x = none) := by
  have hr := Wr.rising_nm hR
  refine ⟨fun h hp => ?_, fun h => hg.no x fun j hj e => h ?_⟩
  · have h1 := (mem_iff_pos strictS hr).1 ((has_iff _ _).1 h)
    rw [Wr.nm_at A hp] at h1
    have h2 := hg.yes _ hp
    rw [Option.some.inj h1] at h2
    exact h2
  · rw [has_iff]
    exact e ▸ List.mem_of_getElem? (Wr.nm_at A hj)

set_option maxHeartbeats 8000000 in
theorem number_any {A : Nat → Wr.AD} {n : Nat} {g : ByteArray → Option Int} (hg : GetOK A n g) (hR : Wr.RiseA A n) (hn : n ≤ 1000) (hl : ∀ j, j < n → (A j).len ≤ 1000000) (a : Option Addr) (c : Nat) (x : ByteArray) (w : World) (h : Wr.ReadsA w a n A) :
    Calls Try.prog 43 #[.slice a n c, .string x] w fun e w' => e = .returned (.tuple #[.int .i64 ((g x).getD 0), .bool (g x).isSome]) ∧ Below w.heap.size w w' := by
  have C := Lib.hid (Wr.getL_any a n c A x hn hl hR w h)
  obtain ⟨F1, F2⟩ := found_get hg hR x
  by_cases hh : has (Wr.nmD (Wr.twsA A n)) x = true
  · have C1 := Lib.hid (p := Calls Try.prog 55 #[.slice a n c, .string x] w fun e w' => (∃ (v : Wr.AD) (a : Option Addr) (c : Nat), g x = (if v.k = 1 then some v.n else none) ∧ e = .returned (.tuple #[.agg #[.int .i64 v.k, .int .i64 (Wr.twN v.k v.n), .string (Wr.twS v.k v.s), .slice a (Wr.twL v.k v.len) c], .bool true])) ∧ Below w.heap.size w w') (C.out.mono fun e w' ⟨he, hb⟩ => by
      rw [if_pos hh] at he
      obtain ⟨v, a2, c2, hp, rfl, he, -⟩ := he
      exact ⟨⟨_, a2, c2, F1 hh hp, he⟩, hb⟩)
    clear F1 F2 C h hh
    go_enter Try.func43, Try.ntmps43
    go_wp2_with fail
    refine C1.out.mono ?_
    rintro e w1 ⟨⟨v, a2, c2, hv, rfl⟩, hb⟩
    have B1 := Lib.hid hb
    have HV := Lib.hid hv
    have tw1 : v.k = 1 → Wr.twN v.k v.n = v.n := fun h => by rw [h]; rfl
    obtain ⟨N, hN⟩ : ∃ N, Wr.twN v.k v.n = N := ⟨_, rfl⟩
    obtain ⟨Z, hZ⟩ : ∃ Z, Wr.twS v.k v.s = Z := ⟨_, rfl⟩
    obtain ⟨L, hL⟩ : ∃ L, Wr.twL v.k v.len = L := ⟨_, rfl⟩
    rw [hN] at tw1
    rw [hN, hZ, hL]
    obtain ⟨k, hk⟩ : ∃ k, v.k = k := ⟨_, rfl⟩
    rw [hk] at HV tw1 ⊢
    clear hb hv hN hZ hL hk C1
    by_cases h1 : k = 1
    · have TW := Lib.hid (tw1 h1)
      subst h1
      have HG := Lib.hid (show g x = some v.n by rw [HV.out, if_pos rfl])
      clear HV tw1
      have B2 := Lib.hid (B1.out.trans (((Below.refl w1.heap.size w1).alloc (Nat.le_refl _) (.cells #[.int .i64 1, .int .i64 N, .string Z, .slice a2 L c2] 49)).mono B1.out.size))
      go_wp2_with fail
      go_ret2
      exact ⟨by rw [HG.out, TW.out]; rfl, B2.out⟩
    · have HG := Lib.hid (show g x = none by rw [HV.out, if_neg h1])
      have e1 : (k == 1) = false := by simpa using h1
      have e2 : (k != 1) = true := by simpa using h1
      clear HV tw1
      have B2 := Lib.hid (B1.out.trans (((Below.refl w1.heap.size w1).alloc (Nat.le_refl _) (.cells #[.int .i64 k, .int .i64 N, .string Z, .slice a2 L c2] 49)).mono B1.out.size))
      go_wp2_with fail
      go_ret2
      rw [HG.out]
      exact ⟨rfl, B2.out⟩
  · have HG := Lib.hid (F2 hh)
    have C1 := Lib.hid (p := Calls Try.prog 55 #[.slice a n c, .string x] w fun e w' => e = .returned (.tuple #[.agg #[.int .i64 0, .int .i64 0, .string ⟨#[]⟩, .slice none 0 0], .bool false]) ∧ Below w.heap.size w w') (C.out.mono fun e w' ⟨he, hb⟩ => by
      rw [if_neg hh] at he
      exact ⟨he, hb⟩)
    clear F1 F2 C h hh
    go_enter Try.func43, Try.ntmps43
    go_wp2_with fail
    refine C1.out.mono ?_
    rintro e w1 ⟨rfl, hb⟩
    have B2 := Lib.hid (hb.trans (((Below.refl w1.heap.size w1).alloc (Nat.le_refl _) (.cells #[.int .i64 0, .int .i64 0, .string ⟨#[]⟩, .slice none 0 0] 49)).mono hb.size))
    clear hb C1
    go_wp2_with fail
    go_ret2
    rw [HG.out]
    exact ⟨rfl, B2.out⟩

end Go.Proofs.Ytcmcnmmhkpolcaa
