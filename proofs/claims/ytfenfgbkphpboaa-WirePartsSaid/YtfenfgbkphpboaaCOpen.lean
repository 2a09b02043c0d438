/-
  No statement: Open of package codec.
-/
import Derived.Test.YtfenfgbkphpboaaCBuf
import Derived.Lib.EndianBits
namespace Go.Proofs.Ytfenfgbkphpboaa
open Go.RowKit

/-- The number that bytes are, the lowest first. -/
def valB : List UInt8 → Nat
  | [] => 0
  | c :: r => c.toNat + 256 * valB r

theorem valB_lt : ∀ l, valB l < 2 ^ (8 * l.length)
  | [] => by decide
  | c :: r => by
    have := valB_lt r
    have := byte_lt c
    rw [List.length_cons, show 8 * (r.length + 1) = 8 * r.length + 8 by omega, Nat.pow_add]
    unfold valB
    omega

theorem valB_snoc : ∀ l c, valB (l ++ [c]) = valB l + c.toNat * 2 ^ (8 * l.length)
  | [], c => by simp [valB]
  | d :: r, c => by
    rw [List.cons_append, valB, valB_snoc r c, valB, List.length_cons, show 8 * (r.length + 1) = 8 * r.length + 8 by omega, Nat.pow_add, show (2 : Nat) ^ 8 = 256 by rfl]
    have : 256 * (c.toNat * 2 ^ (8 * r.length)) = c.toNat * (2 ^ (8 * r.length) * 256) := by rw [Nat.mul_left_comm, Nat.mul_comm 256]
    omega

theorem pow_int32 (j : Nat) : ((2 ^ j : Nat) : Int) = (2 : Int) ^ j := by simp

theorem or_next32 (t x k : Nat) (ht : t < 2 ^ (8 * k)) (hx : x < 256) (hk : k ≤ 3) : bits .or .u32 (t : Int) ((x : Int) * 2 ^ (8 * k) % 4294967296) = ((t + x * 2 ^ (8 * k) : Nat) : Int) := by
  have hp : 256 * 2 ^ (8 * k) ≤ 4294967296 := by
    rcases (show k = 0 ∨ k = 1 ∨ k = 2 ∨ k = 3 by omega) with rfl | rfl | rfl | rfl <;> decide
  have hm : x * 2 ^ (8 * k) ≤ 255 * 2 ^ (8 * k) := Nat.mul_le_mul_right _ (by omega)
  have e : (x : Int) * 2 ^ (8 * k) = ((x * 2 ^ (8 * k) : Nat) : Int) := by rw [← pow_int32]; simp
  rw [e, Int.emod_eq_of_lt (by omega) (by omega)]
  have hmod : ((x * 2 ^ (8 * k) : Nat) : Int) % 2 ^ (8 * k) = 0 := by
    rw [← pow_int32]; exact_mod_cast Nat.mul_mod_left _ _
  have := bits_join_low .u32 32 (by decide) wraps_u32 (8 * k) t ((x * 2 ^ (8 * k) : Nat) : Int) (by omega) (by rw [← pow_int32]; exact_mod_cast ht) (by omega) (by omega) hmod (by omega)
  rw [this]
  omega

/-- What Open answers of bytes p with four more behind them. -/
def OpenPost (w : World) (p q : List UInt8) (e : Ending) (w' : World) : Prop :=
  (if valB q = crc p then ∃ a c, e = .returned (.tuple #[.slice a p.length c, .int .i64 0]) ∧ OwnB w' w.heap.size (.slice a p.length c) p else e = .returned (.tuple #[.slice none 0 0, .int .i64 10])) ∧ Below w.heap.size w w'

theorem BR.front {w : World} {b off c : Nat} {p q : List UInt8} (h : BR w (some ⟨b, off, none⟩) c (p ++ q)) : BR w (some ⟨b, off, none⟩) c p := by
  refine ⟨by have := h.1; rw [List.length_append] at this; omega, h.2.1, ?_⟩
  rcases h.2.2 with ⟨h, _⟩ | ⟨h, _⟩ | ⟨b', off', hx, hc⟩
  · cases h
  · exact .inr (.inl ⟨by simpa using (List.append_eq_nil_iff.1 h).1, _, rfl⟩)
  · refine .inr (.inr ⟨b', off', hx, fun j hj => ?_⟩)
    have := hc j (by rw [List.length_append]; omega)
    rwa [List.getElem_append_left hj] at this

theorem openShort_any (a : Option Addr) (n c : Nat) (h4 : n < 4) (w : World) :
    Calls Try.prog 78 #[.slice a n c] w fun e w' => e = .returned (.tuple #[.slice none 0 0, .int .i64 3]) ∧ w' = w := by
  go_enter Try.func78, Try.ntmps78
  go_wp2_with fail
  go_ret2
  exact ⟨rfl, rfl⟩

set_option maxHeartbeats 2000000 in
set_option maxRecDepth 100000 in
theorem open_any (a : Option Addr) (m c : Nat) (p q : List UInt8) (hp : p.length = m) (hq : q.length = 4) (hm : m ≤ 100000000000) (w : World) (h : BR w a c (p ++ q)) :
    Calls Try.prog 78 #[.slice a (m + 4) c] w (OpenPost w p q) := by
  have hl : (p ++ q).length = m + 4 := by rw [List.length_append, hp, hq]
  have hcap := h.1
  rw [hl] at hcap
  have hcm : c ≤ 9223372036854775807 := by have := h.2.1; unfold maxLen at this; omega
  obtain ⟨b, off, rfl, hc⟩ := h.cells (by omega)
  have HC := Lib.hid (p := ∀ (k : Nat) (hk : k < q.length), w.cell? ⟨b, off + m + k, none⟩ = some (.int .u8 q[k].toNat)) (fun k hk => by
    have := hc (m + k) (by omega)
    rwa [List.getElem_append_right (by omega), show off + (m + k) = off + m + k by omega, getElem_congr rfl (show m + k - p.length = k by omega)] at this)
  have hF := h.front
  have SU := Lib.hid (fun w' (hb : Below w.heap.size w w') => sum_any _ c p w' (hF.kept hb))
  have CL := Lib.hid (fun w' (hb : Below w.heap.size w w') => clone_any _ c p (by omega) w' (hF.kept hb))
  rw [hp] at SU CL
  obtain ⟨s, hs⟩ : ∃ s, crc p = s := ⟨_, rfl⟩
  have HS := Lib.hid hs
  rw [hs] at SU
  have HL := Lib.hid (And.intro hp hq)
  clear h hl hc hF hp hq hs
  go_enter Try.func78, Try.ntmps78
  go_wp2_with fail
  go_loop [5, 17] (fun t i => ∃ k tn : Nat, i = .int .i64 k ∧ k ≤ 4 ∧ t = .int .u32 tn ∧ Hid (tn = valB (q.take k))) (fun _ i => 4 - (intOf i).toNat)
  case atStart => exact ⟨0, 0, rfl, by omega, rfl, Lib.hid rfl⟩
  case round =>
    obtain ⟨k, tn, rfl, hk, rfl, hT⟩ := hrel
    by_cases hlt : k < 4
    · have hkq : k < q.length := by have := HL.out.2; omega
      have c0 := HC.out k hkq
      have hx := byte_lt q[k]
      have hsn := valB_snoc (q.take k) q[k]
      have htl := valB_lt (q.take k)
      rw [List.length_take_of_le (by omega)] at hsn htl
      rw [← take_more q k hkq, ← hT.out] at hsn
      rw [← hT.out] at htl
      have e := or_next32 tn q[k].toNat k htl hx (by omega)
      have HN := Lib.hid hsn
      obtain ⟨x, hx'⟩ : ∃ x, q[k].toNat = x := ⟨_, rfl⟩
      rw [hx'] at c0 hx e HN
      clear hsn htl hx' hkq
      go_wp2_with fail
      go_round
      case rel => exact ⟨k + 1, _, by go_num, by omega, rfl, Lib.hid HN.out.symm⟩
      case measure => simp [intOf]; omega
    · obtain rfl : k = 4 := by omega
      have hT4 : tn = valB q := by rw [hT.out, List.take_of_length_le (by have := HL.out.2; omega)]
      have HT := Lib.hid hT4
      clear hT4 hT HC
      by_cases hEq : tn = s
      · subst hEq
        go_wp2_with fail
        refine (SU.out _ (Below.refl _ _)).mono ?_
        rintro e w2 ⟨rfl, rfl⟩
        go_wp2_with fail
        refine (CL.out _ (Below.refl _ _)).mono ?_
        rintro e w3 ⟨a3, c3, rfl, ho, hb⟩
        have P := Lib.hid (show OpenPost w2 p q (.returned (.tuple #[.slice a3 p.length c3, .int .i64 0])) w3 from ⟨by rw [if_pos (by rw [← HT.out, HS.out])]; exact ⟨a3, c3, rfl, ho⟩, hb⟩)
        clear ho hb
        go_wp2_with fail
        go_ret2
        exact P.out
      · have hEq' : ((tn : Int) == (s : Int)) = false := by rw [beq_eq_false_iff_ne]; omega
        have P := Lib.hid (show OpenPost w p q (.returned (.tuple #[.slice none 0 0, .int .i64 10])) w from ⟨by rw [if_neg (by rw [← HT.out, HS.out]; exact hEq)], Below.refl _ _⟩)
        clear hEq
        go_wp2_with fail
        refine (SU.out _ (Below.refl _ _)).mono ?_
        rintro e w2 ⟨rfl, rfl⟩
        go_wp2_with fail
        go_ret2
        exact P.out

end Go.Proofs.Ytfenfgbkphpboaa
