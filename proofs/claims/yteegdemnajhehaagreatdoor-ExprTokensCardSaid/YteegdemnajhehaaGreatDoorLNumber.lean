/-
  No statement: the contract of the document's Number.
-/
import Derived.Test.YteegdemnajhehaaGreatDoorALex
import Derived.LoopTactic
import Derived.IntWalk
namespace Go.Proofs.YteegdemnajhehaaGreatDoor
open Go.RowKit

/-- What Number answers. -/
def numV : Option Int → Value
  | some v => .tuple #[.int .i64 v, .bool true]
  | none => .tuple #[.int .i64 0, .bool false]

theorem bytes_at (D : ByteArray) {j : Nat} (h : j < D.size) : D.data.toList[j]? = some D[j] := List.getElem?_eq_getElem (by simpa using h)

theorem ok_not_empty {neg : Bool} {D : ByteArray} (h : D.size = 0) : ¬ okD neg D.data.toList := fun ⟨h1, _⟩ => h1 (List.length_eq_zero_iff.1 (by simpa using h))
theorem ok_not_long {neg : Bool} {D : ByteArray} (h : 19 < D.size) : ¬ okD neg D.data.toList := fun ⟨_, h1, _⟩ => by simp at h1; omega
theorem ok_not_digit {neg : Bool} {D : ByteArray} {j : Nat} (hj : j < D.size) (h : ¬ isD D[j]) : ¬ okD neg D.data.toList := fun ⟨_, _, h1, _⟩ => h (h1 _ (List.mem_of_getElem? (bytes_at D hj)))
theorem ok_not_nought {neg : Bool} {D : ByteArray} (h0 : 0 < D.size) (h : D[0] = 48) (h1 : 1 < D.size ∨ neg = true) : ¬ okD neg D.data.toList := fun ⟨_, _, _, h4⟩ => by
  have e := bytes_at D h0
  rw [h] at e
  cases hl : D.data.toList with
  | nil => rw [hl] at e; simp at e
  | cons c r =>
    rw [hl] at e
    have : c = 48 := by simpa using e
    subst this
    have h5 := h4 r hl
    rcases h1 with h1 | h1
    · have : D.data.toList.length = D.size := by simp
      rw [hl, h5.1] at this; simp at this; omega
    · rw [h5.2] at h1; cases h1

/-- What is read when the walk stands at k. -/
theorem val_step {D : ByteArray} {k : Nat} (h : k < D.size) : valD (D.data.toList.take (k + 1)) = 10 * valD (D.data.toList.take k) + (D[k].toNat - 48) := by
  have : D.data.toList.take (k + 1) = D.data.toList.take k ++ [D[k]] := List.take_succ_eq_append_getElem (by simpa using h)
  rw [this, valD_snoc]

theorem ok_all {neg : Bool} {D : ByteArray} (h1 : 1 ≤ D.size) (h19 : D.size ≤ 19) (hd : ∀ j (hj : j < D.size), isD D[j]) (h0 : D[0] = 48 → D.size = 1 ∧ neg = false) : okD neg D.data.toList := by
  have hl : D.data.toList.length = D.size := by simp
  refine ⟨fun e => by rw [e] at hl; simp at hl; omega, by omega, fun c hc => ?_, fun r e => ?_⟩
  · obtain ⟨j, hj, rfl⟩ := List.mem_iff_getElem.1 hc
    exact hd j (by simpa using hj)
  · have e2 := bytes_at D h1
    rw [e] at e2
    have : D[0] = 48 := by simpa using e2.symm
    obtain ⟨h3, h4⟩ := h0 this
    refine ⟨?_, h4⟩
    rw [e] at hl
    exact List.length_eq_zero_iff.1 (by simp at hl; omega)

set_option maxRecDepth 100000 in
set_option maxHeartbeats 8000000 in
theorem rNumber_neg (s : ByteArray) (h1 : 1 ≤ s.size) (h0 : s[0] = 45) (hm : s.size ≤ 2000) (w : World) :
    Calls Tryz.prog 36 #[.string s] w fun e w' => e = .returned (numV (numOf s.data.toList)) ∧ w = w' := by
  have e0 : ((s[0].toNat : Int) == 45) = true := by rw [h0]; decide
  obtain ⟨D, hD⟩ : ∃ D, s.extract 1 s.size = D := ⟨_, rfl⟩
  have hDs : D.size = s.size - 1 := by rw [← hD]; simp
  have hl : s.data.toList = 45 :: D.data.toList := by
    rw [← hD, ByteArray.data_extract, Array.toList_extract]
    have h00 : s.data.toList[0]? = some s[0] := List.getElem?_eq_getElem (by simp; omega)
    cases e : s.data.toList with
    | nil => rw [e] at h00; simp at h00
    | cons c r =>
      rw [e] at h00
      have : c = s[0] := by simpa using h00
      rw [this, h0]
      have hlen : s.data.toList.length = s.size := by simp
      rw [e] at hlen
      show _ = 45 :: ((c :: r).drop 1).take (s.size - 1)
      rw [List.drop_one, List.tail_cons, List.take_of_length_le (by simp at hlen; omega)]
  rw [hl]
  clear hl h0
  have hDm : D.size ≤ 2000 := by omega
  clear hDs
  by_cases c0 : D.size = 0
  · rw [none_neg (fun h => ok_not_empty c0 h.1)]
    go_enter Tryz.func36, Tryz.ntmps36
    go_wp2_with fail
    go_ret2
    exact ⟨rfl, rfl⟩
  by_cases c19 : 19 < D.size
  · rw [none_neg (fun h => ok_not_long c19 h.1)]
    have q0 : ((D.size : Int) == 0) = false := by rw [beq_eq_false_iff_ne]; omega
    go_enter Tryz.func36, Tryz.ntmps36
    go_wp2_with fail
    go_ret2
    exact ⟨rfl, rfl⟩
  have c1 : 1 ≤ D.size := by omega
  by_cases c48 : D[0] = 48
  · rw [none_neg (fun h => ok_not_nought (by omega) c48 (.inr rfl) h.1)]
    have q : ((D[0].toNat : Int) == 48) = true := by rw [c48]; decide
    clear c48
    have q0 : ((D.size : Int) == 0) = false := by rw [beq_eq_false_iff_ne]; omega
    by_cases c2 : 1 < D.size
    · go_enter Tryz.func36, Tryz.ntmps36
      go_wp2_with fail
      go_ret2
      exact ⟨rfl, rfl⟩
    · go_enter Tryz.func36, Tryz.ntmps36
      go_wp2_with fail
      go_ret2
      exact ⟨rfl, rfl⟩
  have q : ((D[0].toNat : Int) == 48) = false := by
    rw [beq_eq_false_iff_ne]; intro e; apply c48
    apply UInt8.toNat_inj.1
    have : D[0].toNat = 48 := by omega
    rw [this]; rfl
  have C48 := Lib.hid c48
  have q0 : ((D.size : Int) == 0) = false := by rw [beq_eq_false_iff_ne]; omega
  clear c48 c0
  go_enter Tryz.func36, Tryz.ntmps36
  go_wp2_with fail
  go_loop [6, 7] (fun v i => ∃ k u : Nat, k ≤ D.size ∧ i = .int .i64 k ∧ v = .int .u64 u ∧ Hid (u = valD (D.data.toList.take k)) ∧ Hid (∀ j (hj : j < D.size), j < k → isD D[j])) (fun _ i => D.size - (intOf i).toNat)
  case atStart => exact ⟨0, 0, Nat.zero_le _, rfl, rfl, Lib.hid rfl, Lib.hid (fun j _ h => by omega)⟩
  case round =>
    obtain ⟨k, u, hk, rfl, rfl, hu, hok⟩ := hrel
    have hdk : ∀ c ∈ D.data.toList.take k, isD c := fun c hc => by
      obtain ⟨j, hj, rfl⟩ := List.mem_iff_getElem.1 hc
      have hj2 : j < k := by simp at hj; omega
      have hj3 : j < D.size := by omega
      have := hok.out j hj3 hj2
      rw [List.getElem_take]; exact this
    have hub0 := val_lt k (D.data.toList.take k) (by simp; omega) hdk
    rw [← hu.out] at hub0
    clear hdk
    by_cases hlt : k < D.size
    · have hub : u < 1000000000000000000 := Nat.lt_of_lt_of_le hub0 (Nat.le_trans (Nat.pow_le_pow_right (by omega) (show k ≤ 18 by omega)) (by decide))
      clear hub0
      obtain ⟨m, hm'⟩ : ∃ m, D[k].toNat = m := ⟨_, rfl⟩
      have hcase : (48 ≤ m ∧ m ≤ 57) ∨ m < 48 ∨ (48 ≤ m ∧ 57 < m) := by omega
      rcases hcase with ⟨g1, g2⟩ | g1 | ⟨g1, g2⟩
      · have hok1 := Lib.hid (show ∀ j (hj : j < D.size), j < k + 1 → isD D[j] from fun j hj hjk => by
          by_cases e : j = k
          · subst e; unfold isD; omega
          · exact hok.out j hj (by omega))
        have hu1 := Lib.hid (show 10 * u + (m - 48) = valD (D.data.toList.take (k + 1)) by rw [val_step hlt, ← hu.out, hm'])
        go_wp2_with fail
        exact ⟨⟨k + 1, 10 * u + (m - 48), by omega, by go_num, by go_num, hu1, hok1⟩, by simp [intOf]; omega⟩
      · have R := Lib.hid (none_neg (fun h => ok_not_digit hlt (by unfold isD; omega) h.1))
        go_wp2_with fail
        go_ret2
        exact ⟨by rw [R.out]; rfl, rfl⟩
      · have R := Lib.hid (none_neg (fun h => ok_not_digit hlt (by unfold isD; omega) h.1))
        go_wp2_with fail
        go_ret2
        exact ⟨by rw [R.out]; rfl, rfl⟩
    · obtain rfl : k = D.size := by omega
      have hub : u < 10000000000000000000 := Nat.lt_of_lt_of_le hub0 (Nat.le_trans (Nat.pow_le_pow_right (by omega) (show D.size ≤ 19 by omega)) (by decide))
      have huv : u = valD D.data.toList := by rw [hu.out, List.take_of_length_le (by simp)]
      have ok : okD true D.data.toList := ok_all c1 (by omega) (fun j hj => hok.out j hj hj) (fun h => absurd h C48.out)
      clear hub0 hu hok hk
      by_cases u1 : u = 9223372036854775808
      · have R0 := num_neg ok (by omega)
        rw [← huv] at R0
        have R := Lib.hid R0
        clear R0
        have q1 : ((u : Int) == 9223372036854775808) = true := by rw [beq_iff_eq]; omega
        clear ok huv
        subst u1
        go_wp2_with fail
        go_ret2
        exact ⟨by rw [R.out]; rfl, rfl⟩
      have q1 : ((u : Int) == 9223372036854775808) = false := by rw [beq_eq_false_iff_ne]; omega
      by_cases u2 : 9223372036854775808 < u
      · have R := Lib.hid (none_neg (d := D.data.toList) (fun h => by have := h.2; omega))
        have u4 : decide ((9223372036854775808 : Int) ≤ (u : Int)) = true := decide_eq_true (by omega)
        clear ok huv u1 u2 hub
        go_wp2_with fail
        go_ret2
        exact ⟨by rw [R.out]; rfl, rfl⟩
      · have R0 := num_neg ok (by omega)
        rw [← huv] at R0
        have R := Lib.hid R0
        clear R0
        have u3 : (u : Int) < 9223372036854775808 := by omega
        have u4 : decide ((9223372036854775808 : Int) ≤ (u : Int)) = false := decide_eq_false (by omega)
        have u5 : IntKind.i64.wrap (u : Int) = (u : Int) := IntWalk.i64_in _ (by omega)
        have u6 : IntKind.i64.wrap (-(u : Int)) = -(u : Int) := IntWalk.i64_in _ (by omega)
        clear ok huv u1 u2 hub
        go_wp2_with fail
        go_ret2
        exact ⟨by rw [R.out]; simp [numV], rfl⟩

set_option maxRecDepth 100000 in
set_option maxHeartbeats 8000000 in
theorem rNumber_pos (s : ByteArray) (h0 : s.size = 0 ∨ ∃ h : 0 < s.size, ¬ s[0] = 45) (hm : s.size ≤ 2000) (w : World) :
    Calls Tryz.prog 36 #[.string s] w fun e w' => e = .returned (numV (numOf s.data.toList)) ∧ w = w' := by
  have HH : ∀ r, ¬ s.data.toList = 45 :: r := by
    intro r e
    rcases h0 with h | ⟨h, h'⟩
    · have hlen : s.data.toList.length = s.size := by simp
      rw [e] at hlen; simp at hlen; omega
    · have h00 : s.data.toList[0]? = some s[0] := List.getElem?_eq_getElem (by simp; omega)
      rw [e] at h00
      exact h' (by simpa using h00.symm)
  have HH := Lib.hid HH
  by_cases c0 : s.size = 0
  · have R := Lib.hid (none_pos HH.out (fun h => ok_not_empty c0 h.1))
    rw [R.out]
    have e : s = ⟨#[]⟩ := by cases s with | mk d => simp [ByteArray.size] at c0; simp [c0]
    subst e
    clear h0 HH R
    go_enter Tryz.func36, Tryz.ntmps36
    go_wp2_with fail
    go_ret2
    exact ⟨rfl, rfl⟩
  have e45 : (((s[0]'(by omega)).toNat : Int) == 45) = false := by
    rw [beq_eq_false_iff_ne]; intro e
    rcases h0 with h | ⟨h, h'⟩
    · exact c0 h
    · apply h'
      apply UInt8.toNat_inj.1
      have : s[0].toNat = 45 := by omega
      rw [this]; rfl
  clear h0
  by_cases c19 : 19 < s.size
  · rw [none_pos HH.out (fun h => ok_not_long c19 h.1)]
    have q0 : ((s.size : Int) == 0) = false := by rw [beq_eq_false_iff_ne]; omega
    go_enter Tryz.func36, Tryz.ntmps36
    go_wp2_with fail
    go_ret2
    exact ⟨rfl, rfl⟩
  have c1 : 1 ≤ s.size := by omega
  by_cases c48 : s[0] = 48 ∧ 1 < s.size
  · obtain ⟨c48, c2⟩ := c48
    rw [none_pos HH.out (fun h => ok_not_nought (by omega) c48 (.inl c2) h.1)]
    have q : ((s[0].toNat : Int) == 48) = true := by rw [c48]; decide
    have q0 : ((s.size : Int) == 0) = false := by rw [beq_eq_false_iff_ne]; omega
    clear c48
    go_enter Tryz.func36, Tryz.ntmps36
    go_wp2_with fail
    go_ret2
    exact ⟨rfl, rfl⟩
  have OKE := Lib.hid (show s[0] = 48 → s.size = 1 from fun h => by have : ¬ 1 < s.size := fun h2 => c48 ⟨h, h2⟩; omega)
  have q0 : ((s.size : Int) == 0) = false := by rw [beq_eq_false_iff_ne]; omega
  have hq : ((s[0].toNat : Int) == 48) = false ∨ (((s[0].toNat : Int) == 48) = true ∧ s.size = 1) := by
    cases e : ((s[0].toNat : Int) == 48) with
    | false => exact .inl rfl
    | true =>
      right
      refine ⟨rfl, OKE.out ?_⟩
      apply UInt8.toNat_inj.1
      have := beq_iff_eq.1 e
      have : s[0].toNat = 48 := by omega
      rw [this]; rfl
  clear c48
  rcases hq with q | ⟨q, q2⟩
  · go_enter Tryz.func36, Tryz.ntmps36
    go_wp2_with fail
    go_loop [6, 7] (fun v i => ∃ k u : Nat, k ≤ s.size ∧ i = .int .i64 k ∧ v = .int .u64 u ∧ Hid (u = valD (s.data.toList.take k)) ∧ Hid (∀ j (hj : j < s.size), j < k → isD s[j])) (fun _ i => s.size - (intOf i).toNat)
    case atStart => exact ⟨0, 0, Nat.zero_le _, rfl, rfl, Lib.hid rfl, Lib.hid (fun j _ h => by omega)⟩
    case round =>
      obtain ⟨k, u, hk, rfl, rfl, hu, hok⟩ := hrel
      have hdk : ∀ c ∈ s.data.toList.take k, isD c := fun c hc => by
        obtain ⟨j, hj, rfl⟩ := List.mem_iff_getElem.1 hc
        have hj2 : j < k := by simp at hj; omega
        have hj3 : j < s.size := by omega
        have := hok.out j hj3 hj2
        rw [List.getElem_take]; exact this
      have hub0 := val_lt k (s.data.toList.take k) (by simp; omega) hdk
      rw [← hu.out] at hub0
      clear hdk
      by_cases hlt : k < s.size
      · have hub : u < 1000000000000000000 := Nat.lt_of_lt_of_le hub0 (Nat.le_trans (Nat.pow_le_pow_right (by omega) (show k ≤ 18 by omega)) (by decide))
        clear hub0
        obtain ⟨m, hm'⟩ : ∃ m, s[k].toNat = m := ⟨_, rfl⟩
        have hcase : (48 ≤ m ∧ m ≤ 57) ∨ m < 48 ∨ (48 ≤ m ∧ 57 < m) := by omega
        rcases hcase with ⟨g1, g2⟩ | g1 | ⟨g1, g2⟩
        · have hok1 := Lib.hid (show ∀ j (hj : j < s.size), j < k + 1 → isD s[j] from fun j hj hjk => by
            by_cases e : j = k
            · subst e; unfold isD; omega
            · exact hok.out j hj (by omega))
          have hu1 := Lib.hid (show 10 * u + (m - 48) = valD (s.data.toList.take (k + 1)) by rw [val_step hlt, ← hu.out, hm'])
          go_wp2_with fail
          exact ⟨⟨k + 1, 10 * u + (m - 48), by omega, by go_num, by go_num, hu1, hok1⟩, by simp [intOf]; omega⟩
        · have R := Lib.hid (none_pos HH.out (fun h => ok_not_digit hlt (by unfold isD; omega) h.1))
          go_wp2_with fail
          go_ret2
          exact ⟨by rw [R.out]; rfl, rfl⟩
        · have R := Lib.hid (none_pos HH.out (fun h => ok_not_digit hlt (by unfold isD; omega) h.1))
          go_wp2_with fail
          go_ret2
          exact ⟨by rw [R.out]; rfl, rfl⟩
      · obtain rfl : k = s.size := by omega
        have hub : u < 10000000000000000000 := Nat.lt_of_lt_of_le hub0 (Nat.le_trans (Nat.pow_le_pow_right (by omega) (show s.size ≤ 19 by omega)) (by decide))
        have huv : u = valD s.data.toList := by rw [hu.out, List.take_of_length_le (by simp)]
        have ok : okD false s.data.toList := ok_all c1 (by omega) (fun j hj => hok.out j hj hj) (fun h => ⟨OKE.out h, rfl⟩)
        clear hub0 hu hok hk
        by_cases u2 : 9223372036854775808 ≤ u
        · have R := Lib.hid (none_pos HH.out (fun h => by have := h.2; omega))
          have u4 : decide ((9223372036854775808 : Int) ≤ (u : Int)) = true := decide_eq_true (by omega)
          clear ok huv u2 hub
          go_wp2_with fail
          go_ret2
          exact ⟨by rw [R.out]; rfl, rfl⟩
        · have R0 := num_pos ok (by omega)
          rw [← huv] at R0
          have R := Lib.hid R0
          clear R0
          have u3 : (u : Int) < 9223372036854775808 := by omega
          have u4 : decide ((9223372036854775808 : Int) ≤ (u : Int)) = false := decide_eq_false (by omega)
          have u5 : IntKind.i64.wrap (u : Int) = (u : Int) := IntWalk.i64_in _ (by omega)
          have u6 : IntKind.i64.wrap (-(u : Int)) = -(u : Int) := IntWalk.i64_in _ (by omega)
          clear ok huv u2 hub
          go_wp2_with fail
          go_ret2
          exact ⟨by rw [R.out]; simp [numV], rfl⟩
  · have q3 : decide ((1 : Int) < (s.size : Int)) = false := decide_eq_false (by omega)
    go_enter Tryz.func36, Tryz.ntmps36
    go_wp2_with fail
    go_loop [6, 7] (fun v i => ∃ k u : Nat, k ≤ s.size ∧ i = .int .i64 k ∧ v = .int .u64 u ∧ Hid (u = valD (s.data.toList.take k)) ∧ Hid (∀ j (hj : j < s.size), j < k → isD s[j])) (fun _ i => s.size - (intOf i).toNat)
    case atStart => exact ⟨0, 0, Nat.zero_le _, rfl, rfl, Lib.hid rfl, Lib.hid (fun j _ h => by omega)⟩
    case round =>
      obtain ⟨k, u, hk, rfl, rfl, hu, hok⟩ := hrel
      have hdk : ∀ c ∈ s.data.toList.take k, isD c := fun c hc => by
        obtain ⟨j, hj, rfl⟩ := List.mem_iff_getElem.1 hc
        have hj2 : j < k := by simp at hj; omega
        have hj3 : j < s.size := by omega
        have := hok.out j hj3 hj2
        rw [List.getElem_take]; exact this
      have hub0 := val_lt k (s.data.toList.take k) (by simp; omega) hdk
      rw [← hu.out] at hub0
      clear hdk
      by_cases hlt : k < s.size
      · have hub : u < 1000000000000000000 := Nat.lt_of_lt_of_le hub0 (Nat.le_trans (Nat.pow_le_pow_right (by omega) (show k ≤ 18 by omega)) (by decide))
        clear hub0
        obtain ⟨m, hm'⟩ : ∃ m, s[k].toNat = m := ⟨_, rfl⟩
        have hcase : (48 ≤ m ∧ m ≤ 57) ∨ m < 48 ∨ (48 ≤ m ∧ 57 < m) := by omega
        rcases hcase with ⟨g1, g2⟩ | g1 | ⟨g1, g2⟩
        · have hok1 := Lib.hid (show ∀ j (hj : j < s.size), j < k + 1 → isD s[j] from fun j hj hjk => by
            by_cases e : j = k
            · subst e; unfold isD; omega
            · exact hok.out j hj (by omega))
          have hu1 := Lib.hid (show 10 * u + (m - 48) = valD (s.data.toList.take (k + 1)) by rw [val_step hlt, ← hu.out, hm'])
          go_wp2_with fail
          exact ⟨⟨k + 1, 10 * u + (m - 48), by omega, by go_num, by go_num, hu1, hok1⟩, by simp [intOf]; omega⟩
        · have R := Lib.hid (none_pos HH.out (fun h => ok_not_digit hlt (by unfold isD; omega) h.1))
          go_wp2_with fail
          go_ret2
          exact ⟨by rw [R.out]; rfl, rfl⟩
        · have R := Lib.hid (none_pos HH.out (fun h => ok_not_digit hlt (by unfold isD; omega) h.1))
          go_wp2_with fail
          go_ret2
          exact ⟨by rw [R.out]; rfl, rfl⟩
      · obtain rfl : k = s.size := by omega
        have hub : u < 10000000000000000000 := Nat.lt_of_lt_of_le hub0 (Nat.le_trans (Nat.pow_le_pow_right (by omega) (show s.size ≤ 19 by omega)) (by decide))
        have huv : u = valD s.data.toList := by rw [hu.out, List.take_of_length_le (by simp)]
        have ok : okD false s.data.toList := ok_all c1 (by omega) (fun j hj => hok.out j hj hj) (fun h => ⟨OKE.out h, rfl⟩)
        clear hub0 hu hok hk
        by_cases u2 : 9223372036854775808 ≤ u
        · have R := Lib.hid (none_pos HH.out (fun h => by have := h.2; omega))
          have u4 : decide ((9223372036854775808 : Int) ≤ (u : Int)) = true := decide_eq_true (by omega)
          clear ok huv u2 hub
          go_wp2_with fail
          go_ret2
          exact ⟨by rw [R.out]; rfl, rfl⟩
        · have R0 := num_pos ok (by omega)
          rw [← huv] at R0
          have R := Lib.hid R0
          clear R0
          have u3 : (u : Int) < 9223372036854775808 := by omega
          have u4 : decide ((9223372036854775808 : Int) ≤ (u : Int)) = false := decide_eq_false (by omega)
          have u5 : IntKind.i64.wrap (u : Int) = (u : Int) := IntWalk.i64_in _ (by omega)
          have u6 : IntKind.i64.wrap (-(u : Int)) = -(u : Int) := IntWalk.i64_in _ (by omega)
          clear ok huv u2 hub
          go_wp2_with fail
          go_ret2
          exact ⟨by rw [R.out]; simp [numV], rfl⟩

theorem rNumber_any (s : ByteArray) (hm : s.size ≤ 2000) (w : World) :
    Calls Tryz.prog 36 #[.string s] w fun e w' => e = .returned (numV (numOf s.data.toList)) ∧ w = w' := by
  by_cases h : s.size = 0 ∨ ∃ h : 0 < s.size, ¬ s[0] = 45
  · exact rNumber_pos s h hm w
  · have h0 : ¬ s.size = 0 := fun e => h (.inl e)
    exact rNumber_neg s (by omega) (Classical.byContradiction fun e => h (.inr ⟨by omega, e⟩)) hm w

end Go.Proofs.YteegdemnajhehaaGreatDoor
