/-
  No statement: the contracts of Compare and Same of package value.
-/
import Derived.Test.YtpdobbdbmgeoiaaGreatVCheck
import Derived.WalkLawsBesides
import Derived.Test.YtpdobbdbmgeoiaaGreatKeys
namespace Go.Proofs.YtpdobbdbmgeoiaaGreat
open Go.RowKit

/-- -1, 0, 1: of two numbers. -/
def cmpI (a b : Int) : Int := if a < b then -1 else if b < a then 1 else 0
/-- Of two texts, by bytes. -/
def cmpS (a b : ByteArray) : Int := if Op.bytesLess a.toList b.toList then -1 else if Op.bytesLess b.toList a.toList then 1 else 0

set_option maxHeartbeats 1000000 in
theorem cmp64_any (a b : Int) (w : World) : Calls Tryz.prog 56 #[.int .i64 a, .int .i64 b] w fun e w' => e = .returned (.int .i64 (cmpI a b)) ∧ w = w' := by
  have hc : a < b ∨ b < a ∨ a = b := by omega
  rcases hc with h | h | rfl
  · rw [show cmpI a b = -1 by unfold cmpI; rw [if_pos h]]
    go_enter Tryz.func56, Tryz.ntmps56
    go_wp2
    go_ret
    exact ⟨rfl, rfl⟩
  · rw [show cmpI a b = 1 by unfold cmpI; rw [if_neg (by omega), if_pos h]]
    go_enter Tryz.func56, Tryz.ntmps56
    go_wp2
    go_ret
    exact ⟨rfl, rfl⟩
  · rw [show cmpI a a = 0 by unfold cmpI; rw [if_neg (by omega), if_neg (by omega)]]
    go_enter Tryz.func56, Tryz.ntmps56
    go_wp2
    go_ret
    exact ⟨rfl, rfl⟩

set_option maxHeartbeats 1000000 in
theorem cmpInt_any (a b : Int) (w : World) : Calls Tryz.prog 149 #[.int .i64 a, .int .i64 b] w fun e w' => e = .returned (.int .i64 (cmpI a b)) ∧ w = w' := by
  have hc : a < b ∨ b < a ∨ a = b := by omega
  rcases hc with h | h | rfl
  · rw [show cmpI a b = -1 by unfold cmpI; rw [if_pos h]]
    go_enter Tryz.func149, Tryz.ntmps149
    go_wp2
    go_ret
    exact ⟨rfl, rfl⟩
  · rw [show cmpI a b = 1 by unfold cmpI; rw [if_neg (by omega), if_pos h]]
    go_enter Tryz.func149, Tryz.ntmps149
    go_wp2
    go_ret
    exact ⟨rfl, rfl⟩
  · rw [show cmpI a a = 0 by unfold cmpI; rw [if_neg (by omega), if_neg (by omega)]]
    go_enter Tryz.func149, Tryz.ntmps149
    go_wp2
    go_ret
    exact ⟨rfl, rfl⟩

set_option maxHeartbeats 1000000 in
theorem cmpStr_any (a b : ByteArray) (w : World) : Calls Tryz.prog 57 #[.string a, .string b] w fun e w' => e = .returned (.int .i64 (cmpS a b)) ∧ w = w' := by
  by_cases h : Op.bytesLess a.toList b.toList = true
  · rw [show cmpS a b = -1 by unfold cmpS; rw [if_pos h]]
    go_enter Tryz.func57, Tryz.ntmps57
    go_wp2
    go_ret
    exact ⟨rfl, rfl⟩
  · have h' : Op.bytesLess a.toList b.toList = false := by simpa using h
    by_cases k : Op.bytesLess b.toList a.toList = true
    · rw [show cmpS a b = 1 by unfold cmpS; rw [if_neg h, if_pos k]]
      have q : (a.toList == b.toList) = false := by
        rw [beq_eq_false_iff_ne]; intro e
        rw [e, bytesLess_irrefl] at k; cases k
      clear h
      go_enter Tryz.func57, Tryz.ntmps57
      go_wp2
      go_ret
      exact ⟨rfl, rfl⟩
    · have k' : Op.bytesLess b.toList a.toList = false := by simpa using k
      rw [show cmpS a b = 0 by unfold cmpS; rw [if_neg h, if_neg k]]
      obtain rfl : a = b := bytes_eq (bytesLess_total _ _ h' k')
      clear h k k'
      go_enter Tryz.func57, Tryz.ntmps57
      go_wp2
      go_ret
      exact ⟨rfl, rfl⟩

/-- Of two lists, number by number; a front is less. -/
def cmpL : List Int → List Int → Int
  | [], [] => 0
  | [], _ :: _ => -1
  | _ :: _, [] => 1
  | a :: r, b :: q => if cmpI a b = 0 then cmpL r q else cmpI a b

theorem cmpI_self (a : Int) : cmpI a a = 0 := by unfold cmpI; rw [if_neg (by omega), if_neg (by omega)]

theorem cmpI_ne {a b : Int} (h : ¬ a = b) : ¬ cmpI a b = 0 := by
  unfold cmpI
  split
  · omega
  · split <;> omega

theorem cmpL_drop (k : Nat) : ∀ (l m : List Int), k ≤ l.length → k ≤ m.length → (∀ j, j < k → l.getD j 0 = m.getD j 0) → cmpL l m = cmpL (l.drop k) (m.drop k) := by
  induction k with
  | zero => intro l m _ _ _; rfl
  | succ k ih =>
    intro l m hl hm h
    cases l with
    | nil => simp at hl
    | cons a l => cases m with
      | nil => simp at hm
      | cons b m =>
        have e : a = b := by simpa using h 0 (by omega)
        subst e
        rw [cmpL, cmpI_self, if_pos rfl, List.drop_succ_cons, List.drop_succ_cons]
        exact ih l m (by simpa using hl) (by simpa using hm) (fun j hj => by simpa using h (j + 1) (by omega))

/-- What slices.Compare answers when it stands at k. -/
theorem cmp_at {z1 z2 : Nat → Int} {n1 n2 k : Nat} (h : ∀ j, j < k → z1 j = z2 j) (h1 : k ≤ n1) (h2 : k ≤ n2) :
    cmpL (upTo z1 n1) (upTo z2 n2) = cmpL ((upTo z1 n1).drop k) ((upTo z2 n2).drop k) :=
  cmpL_drop k _ _ (by rw [upTo_len]; exact h1) (by rw [upTo_len]; exact h2) (fun j hj => by rw [upTo_at z1 (by omega), upTo_at z2 (by omega)]; exact h j hj)

theorem upTo_drop (z : Nat → Int) {n k : Nat} (h : k < n) : (upTo z n).drop k = z k :: (upTo z n).drop (k + 1) := by
  rw [List.drop_eq_getElem_cons (by rw [upTo_len]; exact h)]
  congr 1
  simp [upTo]

theorem upTo_done (z : Nat → Int) {n k : Nat} (h : n ≤ k) : (upTo z n).drop k = [] := List.drop_of_length_le (by rw [upTo_len]; exact h)

set_option maxHeartbeats 2000000 in
theorem cmpList_any (a1 a2 : Option Addr) (n1 c1 n2 c2 : Nat) (z1 z2 : Nat → Int) (w : World) (h1 : Reads w a1 n1 z1) (h2 : Reads w a2 n2 z2) :
    Calls Tryz.prog 150 #[.slice a1 n1 c1, .slice a2 n2 c2] w fun e w' => e = .returned (.int .i64 (cmpL (upTo z1 n1) (upTo z2 n2))) ∧ w = w' := by
  obtain ⟨m1, h1⟩ := h1
  obtain ⟨m2, h2⟩ := h2
  unfold maxLen at m1 m2
  rcases h1 with rfl | ⟨b1, o1, rfl, hc1⟩
  · by_cases h0 : n2 = 0
    · subst h0
      go_enter Tryz.func150, Tryz.ntmps150
      go_wp2
      go_loop [11] (fun i => i = .int .i64 0) (fun _ => 0)
      case atStart => rfl
      case round =>
        subst hrel
        go_wp2
        go_ret
        exact ⟨rfl, rfl⟩
    · have R := Lib.hid (show cmpL (upTo z1 0) (upTo z2 n2) = -1 by
        have : (upTo z2 n2).drop 0 = _ := upTo_drop z2 (Nat.pos_of_ne_zero h0)
        rw [List.drop_zero] at this; rw [this]; rfl)
      have hp : 0 < n2 := Nat.pos_of_ne_zero h0
      clear h0 h2
      go_enter Tryz.func150, Tryz.ntmps150
      go_wp2
      go_loop [11] (fun i => i = .int .i64 0) (fun _ => 0)
      case atStart => rfl
      case round =>
        subst hrel
        go_wp2
        go_ret
        exact ⟨ret_i64 R.out.symm, rfl⟩
  · have H1 := Lib.hid hc1
    have H2 := Lib.hid h2
    clear hc1 h2
    go_enter Tryz.func150, Tryz.ntmps150
    go_wp2
    go_loop [11] (fun i => ∃ k : Nat, k ≤ n1 ∧ k ≤ n2 ∧ i = .int .i64 k ∧ Hid (∀ j, j < k → z1 j = z2 j)) (fun i => n1 - (intOf i).toNat)
    case atStart => exact ⟨0, Nat.zero_le _, Nat.zero_le _, rfl, Lib.hid (fun j h => by omega)⟩
    case round =>
      obtain ⟨k, hk1, hk2, rfl, he⟩ := hrel
      have R := Lib.hid (cmp_at he.out hk1 hk2)
      by_cases hlt : k < n1
      · have g1 := H1.out k hlt
        by_cases hl2 : k < n2
        · rcases H2.out with h | ⟨b2, o2, rfl, hc2⟩
          · omega
          · have g2 := hc2 k hl2
            clear hc2
            have C := cmp64_any (z1 k) (z2 k)
            obtain ⟨x, hx⟩ : ∃ x, z1 k = x := ⟨_, rfl⟩
            obtain ⟨y, hy⟩ : ∃ y, z2 k = y := ⟨_, rfl⟩
            have R2 := Lib.hid (R.out.trans (by rw [upTo_drop z1 hlt, upTo_drop z2 hl2, hx, hy]))
            rw [hx] at g1 C
            rw [hy] at g2 C
            have he2 := Lib.hid (show x = y → ∀ j, j < k + 1 → z1 j = z2 j from fun exy j hj => by
              by_cases e : j = k
              · subst e; rw [hx, hy, exy]
              · exact he.out j (by omega))
            have C1 := Lib.hid C
            clear C hx hy R he
            by_cases hxy : x = y
            · subst hxy
              rw [cmpI_self] at C1
              have he3 := Lib.hid (he2.out rfl)
              clear he2
              go_wp2_with (go_at_call 56; refine (C1.out _).mono ?_; rintro e w' ⟨rfl, rfl⟩)
              go_round
              case rel => exact ⟨k + 1, by omega, by omega, by go_num, he3⟩
              case measure => simp [intOf]; omega
            · have hne := cmpI_ne hxy
              obtain ⟨v, hv⟩ : ∃ v, cmpI x y = v := ⟨_, rfl⟩
              have R3 := Lib.hid (show cmpL (upTo z1 n1) (upTo z2 n2) = v by rw [R2.out, cmpL, if_neg hne, hv])
              rw [hv] at C1 hne
              have hn1 : (v != 0) = true := by simpa using hne
              clear hv R2 hne
              go_wp2_with (go_at_call 56; refine (C1.out _).mono ?_; rintro e w' ⟨rfl, rfl⟩)
              go_ret
              exact ⟨ret_i64 R3.out.symm, rfl⟩
        · have R2 := Lib.hid (R.out.trans (by rw [upTo_drop z1 hlt, upTo_done z2 (by omega)]))
          clear R
          go_wp2
          go_ret
          exact ⟨ret_i64 (by rw [R2.out, cmpL]), rfl⟩
      · by_cases hl2 : k < n2
        · have R2 := Lib.hid (R.out.trans (by rw [upTo_done z1 (by omega), upTo_drop z2 hl2]))
          clear R
          go_wp2
          go_ret
          exact ⟨ret_i64 (by rw [R2.out, cmpL]), rfl⟩
        · have R2 := Lib.hid (R.out.trans (by rw [upTo_done z1 (by omega), upTo_done z2 (by omega)]))
          clear R
          go_wp2
          go_ret
          exact ⟨ret_i64 (by rw [R2.out, cmpL]), rfl⟩

/-- Of two values. -/
def cmpV (k1 n1 : Int) (s1 : ByteArray) (l1 : Nat) (z1 : Nat → Int) (k2 n2 : Int) (s2 : ByteArray) (l2 : Nat) (z2 : Nat → Int) : Int :=
  if k1 = k2 then (if k1 = 1 then cmpI n1 n2 else if k1 = 2 then cmpS s1 s2 else if k1 = 3 then cmpL (upTo z1 l1) (upTo z2 l2) else 0) else cmpI k1 k2

set_option maxHeartbeats 2000000 in
theorem compare_any (k1 n1 : Int) (s1 : ByteArray) (a1 : Option Addr) (l1 c1 : Nat) (z1 : Nat → Int) (k2 n2 : Int) (s2 : ByteArray) (a2 : Option Addr) (l2 c2 : Nat) (z2 : Nat → Int) (w : World) (h1 : Reads w a1 l1 z1) (h2 : Reads w a2 l2 z2) :
    Calls Tryz.prog 131 #[val k1 n1 s1 (.slice a1 l1 c1), val k2 n2 s2 (.slice a2 l2 c2)] w fun e w' => e = .returned (.int .i64 (cmpV k1 n1 s1 l1 z1 k2 n2 s2 l2 z2)) ∧ Below w.heap.size w w' := by
  unfold val
  have bl : ∀ o1 o2, Below w.heap.size w ((w.alloc o1).alloc o2) := fun o1 o2 => ((Below.refl _ _).alloc (Nat.le_refl _) _).alloc (by simp) _
  have r1 := Lib.hid (fun o1 o2 => h1.kept (bl o1 o2))
  have r2 := Lib.hid (fun o1 o2 => h2.kept (bl o1 o2))
  clear h1 h2 bl
  by_cases hk : k1 = k2
  · subst hk
    have R : cmpV k1 n1 s1 l1 z1 k1 n2 s2 l2 z2 = if k1 = 1 then cmpI n1 n2 else if k1 = 2 then cmpS s1 s2 else if k1 = 3 then cmpL (upTo z1 l1) (upTo z2 l2) else 0 := by unfold cmpV; rw [if_pos rfl]
    rw [R]
    clear R
    by_cases e1 : k1 = 1
    · subst e1; rw [if_pos rfl]
      go_enter Tryz.func131, Tryz.ntmps131
      go_wp2_with (go_at_call 56; refine (cmp64_any _ _ _).mono ?_; rintro e w' ⟨rfl, rfl⟩)
      go_ret
      exact ⟨rfl, (((Below.refl _ _).alloc (Nat.le_refl _) _).alloc (by simp) _)⟩

    have q1 : (k1 == 1) = false := by simpa using e1
    rw [if_neg e1]
    by_cases e2 : k1 = 2
    · subst e2; rw [if_pos rfl]
      go_enter Tryz.func131, Tryz.ntmps131
      go_wp2_with (go_at_call 57; refine (cmpStr_any _ _ _).mono ?_; rintro e w' ⟨rfl, rfl⟩)
      go_ret
      exact ⟨rfl, (((Below.refl _ _).alloc (Nat.le_refl _) _).alloc (by simp) _)⟩

    have q2 : (k1 == 2) = false := by simpa using e2
    rw [if_neg e2]
    by_cases e3 : k1 = 3
    · subst e3; rw [if_pos rfl]
      go_enter Tryz.func131, Tryz.ntmps131
      go_wp2_with (go_at_call 150; refine (cmpList_any a1 a2 l1 c1 l2 c2 z1 z2 _ (r1.out _ _) (r2.out _ _)).mono ?_; rintro e w' ⟨rfl, rfl⟩)
      go_ret
      exact ⟨rfl, (((Below.refl _ _).alloc (Nat.le_refl _) _).alloc (by simp) _)⟩

    have q3 : (k1 == 3) = false := by simpa using e3
    rw [if_neg e3]
    clear e1 e2 e3
    go_enter Tryz.func131, Tryz.ntmps131
    go_wp2_with fail
    go_ret
    exact ⟨rfl, (((Below.refl _ _).alloc (Nat.le_refl _) _).alloc (by simp) _)⟩
  · have R : cmpV k1 n1 s1 l1 z1 k2 n2 s2 l2 z2 = cmpI k1 k2 := by unfold cmpV; rw [if_neg hk]
    rw [R]
    have q : (k1 == k2) = false := by simpa using hk
    have q' : (k1 != k2) = true := by simpa using hk
    clear R hk
    go_enter Tryz.func131, Tryz.ntmps131
    go_wp2_with (go_at_call 149; refine (cmpInt_any _ _ _).mono ?_; rintro e w' ⟨rfl, rfl⟩)
    go_ret
    exact ⟨rfl, (((Below.refl _ _).alloc (Nat.le_refl _) _).alloc (by simp) _)⟩

set_option maxHeartbeats 2000000 in
theorem same_any (k1 n1 : Int) (s1 : ByteArray) (a1 : Option Addr) (l1 c1 : Nat) (z1 : Nat → Int) (k2 n2 : Int) (s2 : ByteArray) (a2 : Option Addr) (l2 c2 : Nat) (z2 : Nat → Int) (w : World) (h1 : Reads w a1 l1 z1) (h2 : Reads w a2 l2 z2) :
    Calls Tryz.prog 118 #[val k1 n1 s1 (.slice a1 l1 c1), val k2 n2 s2 (.slice a2 l2 c2)] w fun e w' => e = .returned (.bool (decide (cmpV k1 n1 s1 l1 z1 k2 n2 s2 l2 z2 = 0))) ∧ Below w.heap.size w w' := by
  have bl : ∀ o1 o2, Below w.heap.size w ((w.alloc o1).alloc o2) := fun o1 o2 => ((Below.refl _ _).alloc (Nat.le_refl _) _).alloc (by simp) _
  have C := fun o1 o2 => compare_any k1 n1 s1 a1 l1 c1 z1 k2 n2 s2 a2 l2 c2 z2 _ (h1.kept (bl o1 o2)) (h2.kept (bl o1 o2))
  obtain ⟨x, hx⟩ : ∃ x, cmpV k1 n1 s1 l1 z1 k2 n2 s2 l2 z2 = x := ⟨_, rfl⟩
  rw [hx] at C ⊢
  unfold val at C ⊢
  have C1 := Lib.hid C
  have bl1 := Lib.hid bl
  clear C bl hx h1 h2
  by_cases h : x = 0
  · subst h
    go_enter Tryz.func118, Tryz.ntmps118
    go_wp2_with (go_at_call 131; refine (C1.out _ _).mono ?_; rintro e w1 ⟨rfl, hb⟩; have hb1 := Lib.hid hb; clear hb)
    go_ret
    exact ⟨rfl, (bl1.out _ _).trans (hb1.out.mono (by simp; omega))⟩
  · have q : (x == 0) = false := by simpa using h
    rw [show decide (x = 0) = false by simpa using h]
    clear h
    go_enter Tryz.func118, Tryz.ntmps118
    go_wp2_with (go_at_call 131; refine (C1.out _ _).mono ?_; rintro e w1 ⟨rfl, hb⟩; have hb1 := Lib.hid hb; clear hb)
    go_ret
    exact ⟨by rw [← q]; rfl, (bl1.out _ _).trans (hb1.out.mono (by simp; omega))⟩

/-- Of three that rise the first is not above the last; it is below it just where one step rises. -/
def Ord3 (x y z : Int) : Prop := x ≤ 0 → y ≤ 0 → z ≤ 0 ∧ (z < 0 ↔ x < 0 ∨ y < 0)

theorem ordI (a b c : Int) : Ord3 (cmpI a b) (cmpI b c) (cmpI a c) := by
  unfold Ord3 cmpI; omega

theorem cmpS_lt {a b : ByteArray} (h : Op.bytesLess a.toList b.toList = true) : cmpS a b = -1 := by unfold cmpS; rw [if_pos h]
theorem cmpS_self (a : ByteArray) : cmpS a a = 0 := by unfold cmpS; rw [bytesLess_irrefl]; rfl
theorem cmpS_le {a b : ByteArray} (h : cmpS a b ≤ 0) : Op.bytesLess a.toList b.toList = true ∨ a = b := by
  cases e : Op.bytesLess a.toList b.toList with
  | true => exact .inl rfl
  | false =>
    right
    cases e2 : Op.bytesLess b.toList a.toList with
    | true => unfold cmpS at h; rw [e, e2] at h; simp at h
    | false => exact bytes_eq (bytesLess_total _ _ e e2)

theorem ordS (a b c : ByteArray) : Ord3 (cmpS a b) (cmpS b c) (cmpS a c) := by
  intro h1 h2
  rcases cmpS_le h1 with k1 | rfl
  · rcases cmpS_le h2 with k2 | rfl
    · rw [cmpS_lt (bytesLess_trans _ _ _ k1 k2), cmpS_lt k1]
      exact ⟨by decide, fun _ => .inl (by decide), fun _ => by decide⟩
    · rw [cmpS_lt k1]
      exact ⟨by decide, fun _ => .inl (by decide), fun _ => by decide⟩
  · rw [cmpS_self]
    exact ⟨h2, fun h => .inr h, fun h => h.resolve_left (by decide)⟩

end Go.Proofs.YtpdobbdbmgeoiaaGreat
