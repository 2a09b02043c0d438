/-
  No statement: an Enc of package codec, as it lies in memory; Int.
-/
import Derived.Test.YtfenfgbkphpboaaCBuf
import Derived.Test.YtfenfgbkphpboaaCFold
import Derived.Test.YtfenfgbkphpboaaAppS
import Derived.Test.YtfenfgbkphpboaaMapDef
namespace Go.Proofs.Ytfenfgbkphpboaa
open Go.RowKit

/-- At block p lies an Enc that holds l; all its blocks are among F. -/
def EncH (w : World) (p : Nat) (F : Nat → Prop) (l : List UInt8) : Prop :=
  ∃ v, w.heap[p]? = some (.cells #[v] 38 (0, 0)) ∧ w.ownsRow 0 5 1 v l.length (bC l) ∧ v.ownBlock ≠ some p ∧ F p ∧ (∀ b, v.ownBlock = some b → F b) ∧ ∀ k, F k → k < w.heap.size

theorem EncH.kept {w w' : World} {p : Nat} {F S : Nat → Prop} {l : List UInt8} (h : EncH w p F l) (hk : Kept S w w') (hS : ∀ k, F k → ¬ S k) : EncH w' p F l := by
  obtain ⟨v, h0, h1, h2, h3, h4, h5⟩ := h
  exact ⟨v, hk.heap h0 (hS p h3), hk.owns h1 (fun b hb => hS b (h4 b hb)), h2, h3, h4, fun k hf => Nat.lt_of_lt_of_le (h5 k hf) hk.size⟩

/-- What became of an Enc since w0. -/
def EncS (w0 : World) (F0 : Nat → Prop) (p : Nat) (w : World) (l : List UInt8) : Prop := ∃ F, EncH w p F l ∧ Grew w0 F0 F ∧ Kept F0 w0 w

theorem EncS.start {w : World} {F : Nat → Prop} {p : Nat} {l : List UInt8} (h : EncH w p F l) : EncS w F p w l := ⟨F, h, Grew.refl _ _, Kept.refl _ _⟩

/-- An Enc opened: its field, and what becomes of it behind an append and a store. -/
theorem EncS.open {w0 w : World} {F0 : Nat → Prop} {p : Nat} {l : List UInt8} (h : EncS w0 F0 p w l) :
    ∃ a m c, m = l.length ∧ w.cell? ⟨p, 0, none⟩ = some (.slice a m c) ∧ w.ownsRow 0 5 1 (.slice a m c) m (bC l) ∧ p < w.heap.size ∧
      ∀ W1 v' w5 m' l', Kept (fun _ => False) w W1 → w5.ownsRow 0 5 1 v' m' (bC l') → W1.grownBy w5 (Value.slice a m c).ownBlock → (v'.ownBlock = (Value.slice a m c).ownBlock ∨ v'.ownBlock = some W1.heap.size) →
        w5.cell? ⟨p, 0, none⟩ = some (.slice a m c) ∧ w5.frozen? ⟨p, 0, none⟩ = false ∧ EncS w0 F0 p (w5.setCell ⟨p, 0, none⟩ v') l' := by
  obtain ⟨F, ⟨v, h0, h1, h2, h3, h4, h5⟩, hg0, hk0⟩ := h
  obtain ⟨a, c, rfl⟩ := owns_slice h1
  have hp := lt_of_block h0
  refine ⟨a, l.length, c, rfl, by simp [World.cell?, h0], h1, hp, fun W1 v' w5 m' l' hk1 ho hg hb => ?_⟩
  have hb5 : w5.heap[p]? = some (.cells #[.slice a l.length c] 38 (0, 0)) := by
    rw [hg.block p (Nat.lt_of_lt_of_le hp hk1.size) (fun e => h2 e.symm)]
    exact hk1.heap h0 (fun h => h)
  have hm : m' = l'.length := by have := ho.1; rw [bC_len] at this; omega
  subst hm
  have hvp : v'.ownBlock ≠ some p := by
    rcases hb with hb | hb
    · rw [hb]; exact h2
    · rw [hb]; intro e; cases e; have := hk1.size; omega
  have hp5 : p < w5.heap.size := lt_of_block hb5
  have kF : Kept F w (w5.setCell ⟨p, 0, none⟩ v') := by
    have k1 : Kept F w w5 := (hk1.mono (fun _ h => h.elim)).grown hg (fun k hk => .inl (h4 k hk))
    exact k1.setCell (p := ⟨p, 0, none⟩) (.inl h3) v'
  have hs5 : w.heap.size ≤ w5.heap.size := Nat.le_trans hk1.size hg.size
  refine ⟨by simp [World.cell?, hb5], frozen_of_row w5 p 0 _ _ hb5, fun k => F k ∨ v'.ownBlock = some k, ⟨v', ?_, ?_, hvp, .inl h3, fun b hb => .inr hb, ?_⟩, ?_, ?_⟩
  · have := heap_setCell_same w5 p 0 #[.slice a l.length c] 38 v' hb5
    simpa using this
  · refine ⟨ho.1, ?_⟩
    rcases ho.2 with hn | ⟨g, cap, cur, rfl, hz, hgg, rest⟩
    · exact .inl hn
    · refine .inr ⟨g, cap, cur, rfl, hz, ?_, rest⟩
      have : g ≠ p := fun e => hvp (by rw [e]; rfl)
      rw [Below.heap_setCell _ ⟨p, 0, none⟩ _ g this]
      exact hgg
  · intro k hk
    have : (w5.setCell ⟨p, 0, none⟩ v').heap.size = w5.heap.size := by simp [World.setCell]
    rw [this]
    rcases hk with hk | hk
    · exact Nat.lt_of_lt_of_le (h5 k hk) hs5
    · exact (ho.lt k hk).2
  · intro k hk
    rcases hk with hk | hk
    · exact hg0 k hk
    · rcases hb with hb | hb
      · rw [hb] at hk; exact hg0 k (h4 k hk)
      · rw [hb] at hk; cases hk; right; exact Nat.le_trans hk0.size hk1.size
  · exact hk0.trans kF (fun i hi hlt => by
      rcases hg0 i hi with h | h
      · exact h
      · omega)

/-- A []int64 reads as numbers, in a block that is not among F. -/
def RI (w : World) (a : Option Addr) (zs : List Int) (F : Nat → Prop) : Prop :=
  zs.length ≤ maxLen ∧ (zs = [] ∨ ∃ b off, a = some ⟨b, off, none⟩ ∧ ¬ F b ∧ ∀ j (h : j < zs.length), w.cell? ⟨b, off + j, none⟩ = some (.int .i64 zs[j]))

theorem RI.kept {w w' : World} {a : Option Addr} {zs : List Int} {F : Nat → Prop} (h : RI w a zs F) (hk : Kept F w w') : RI w' a zs F := by
  refine ⟨h.1, h.2.imp id ?_⟩
  rintro ⟨b, off, rfl, hb, hc⟩
  exact ⟨b, off, rfl, hb, fun j hj => hk.cell (hc j hj) hb⟩

/-- Numbers, one behind the other. -/
def encs (zs : List Int) : List UInt8 := zs.flatMap encI

theorem encs_take (zs : List Int) {k : Nat} (h : k < zs.length) : encs (zs.take (k + 1)) = encs (zs.take k) ++ encI zs[k] := by
  unfold encs
  rw [List.take_succ_eq_append_getElem h, List.flatMap_append]
  simp

theorem encI_len {n : Int} (h0 : -9223372036854775808 ≤ n) (h1 : n ≤ 9223372036854775807) : (encI n).length ≤ 10 := Lib.uvarint_length64 (zig_lt h0 h1)

def EncPost (w0 : World) (F0 : Nat → Prop) (p : Nat) (l : List UInt8) (e : Ending) (w' : World) : Prop := e = .returned (.tuple #[]) ∧ EncS w0 F0 p w' l

theorem EncS.kept {w0 w : World} {F0 : Nat → Prop} {p : Nat} {l : List UInt8} (h : EncS w0 F0 p w l) : Kept F0 w0 w := by obtain ⟨_, _, _, h⟩ := h; exact h

set_option maxHeartbeats 4000000 in
set_option maxRecDepth 100000 in
theorem encInt_any (p : Nat) (F : Nat → Prop) (l : List UInt8) (a : Option Addr) (zs : List Int) (c : Nat) (w : World) (hz : ∀ z ∈ zs, -9223372036854775808 ≤ z ∧ z ≤ 9223372036854775807) (hsz : l.length + 10 * zs.length ≤ 100000000000)
    (h : EncH w p F l) (hr : RI w a zs F) : Calls Try.prog 33 #[.pointer (some ⟨p, 0, none⟩), .slice a zs.length c] w (EncPost w F p (l ++ encs zs)) := by
  obtain ⟨i0, hi, hz0, hz1, hz2⟩ := info_parts infoB
  have und := undB
  have HZ := Lib.hid (fun (k : Nat) (hk : k < zs.length) => hz _ (List.getElem_mem hk))
  have HR := Lib.hid hr
  have S0 := Lib.hid (EncS.start h)
  clear hz hr h
  go_enter Try.func33, Try.ntmps33
  go_wp2_with fail
  go_loopw [9] (fun i wr => ∃ k : Nat, i = .int .i64 k ∧ k ≤ zs.length ∧ (l ++ encs (zs.take k)).length ≤ l.length + 10 * k ∧ Hid (EncS w F p wr (l ++ encs (zs.take k)))) (fun i _ => zs.length - (intOf i).toNat)
  case atStart => exact ⟨0, rfl, Nat.zero_le _, by simp [encs], Lib.hid (by simpa [encs] using S0.out)⟩
  case round =>
    obtain ⟨k, rfl, hk, hlen, hS⟩ := hrel
    by_cases hlt : k < zs.length
    · obtain ⟨b, off, rfl, hbF, hc⟩ := (HR.out.kept hS.out.kept).2.resolve_left (fun h => by rw [h] at hlt; simp at hlt)
      have c0 := hc k hlt
      have het := encs_take zs hlt
      have hzk := HZ.out k hlt
      obtain ⟨z, hz'⟩ : ∃ z, zs[k] = z := ⟨_, rfl⟩
      rw [hz'] at c0 het hzk
      obtain ⟨o, ho'⟩ : ∃ o, l ++ encs (zs.take k) = o := ⟨_, rfl⟩
      have hnx : l ++ encs (zs.take (k + 1)) = o ++ encI z := by rw [het, ← List.append_assoc, ho']
      rw [ho'] at hlen hS
      have NX := Lib.hid hnx
      have HL := Lib.hid (encI_len hzk.1 hzk.2)
      have HLo := Lib.hid hlen
      have FO := Lib.hid (fun w' => fold_any z hzk.1 hzk.2 w')
      have hzl := zig_lt hzk.1 hzk.2
      obtain ⟨u0, hu0⟩ : ∃ u0, Lib.zigzag z = u0 := ⟨_, rfl⟩
      have HU := Lib.hid (show encI z = Lib.uvarint u0 by unfold encI; rw [hu0])
      rw [hu0] at FO hzl
      have hob : o.length ≤ 100000000000 := by omega
      clear hc hz' ho' hnx het hu0 hzk
      go_wp2_with fail
      refine (FO.out _).mono ?_
      rintro e w2 ⟨rfl, rfl⟩
      go_wp2_with fail
      go_loopw [6] (fun u wr => ∃ (un : Nat) (pre : List UInt8), u = .int .u64 un ∧ un < 18446744073709551616 ∧ pre.length ≤ 10 ∧ Hid (pre ++ Lib.uvarint un = Lib.uvarint u0) ∧ Hid (EncS w F p wr (o ++ pre))) (fun u _ => (intOf u).toNat)
      case atStart => exact ⟨u0, [], rfl, hzl, by simp, Lib.hid rfl, Lib.hid (by simpa using hS.out)⟩
      case round =>
        obtain ⟨un, pre, rfl, hun, hpl, hP, hE⟩ := hrel
        obtain ⟨a5, m5, c5, hm5, hcell, hown, hpw, hnext⟩ := hE.out.open
        have hm5b : m5 ≤ 100000000020 := by rw [hm5, List.length_append]; omega
        have HN := Lib.hid hnext
        have HO := Lib.hid hown
        clear hm5 hnext hown
        by_cases h128 : 128 ≤ un
        · obtain ⟨y, hy, hyb⟩ : ∃ y : UInt8, bits .or .u8 ((un : Int) % 256) 128 = (y.toNat : Nat) ∧ Lib.uvarint un = y :: Lib.uvarint (un / 128) := ⟨(un % 128 + 128).toUInt8, by
            rw [Lib.u8_or128_any _ (by omega) (by omega), Lib.toUInt8_toNat (by omega)]; omega, Lib.uvarint_big h128⟩
          have HY := Lib.hid hyb
          have hP2 := hP.out
          rw [hyb, List.append_cons] at hP2
          have HP2 := Lib.hid hP2
          have hpl2 := Lib.hid (show (pre ++ [y]).length ≤ 10 by
            have h1 := HL.out
            rw [HU.out, ← hP2, List.length_append] at h1
            omega)
          clear hyb hP2
          go_wp2_with (at_builtin; refine wpList_append_src rfl _ _ 36 36 rfl und hi hz0 hz1 hz2 rfl _ _ m5 1 _ (bC [y]) rfl rfl (HO.out.alloc _) ((from_one (by simp)).src und (bC_one _)) (by unfold maxLen; omega) (by omega) (Nat.zero_le _) ?_)
          intro v' w5 ho hg hb
          rw [← bC_app, List.append_assoc] at ho
          obtain ⟨va', vc', rfl⟩ := own_row_slice ho
          obtain ⟨g1, g2, g3⟩ := HN.out _ _ w5 _ _ ((Kept.refl _ _).alloc _) ho hg (by simpa using hb)
          have G3 := Lib.hid g3
          clear ho hg hb g3 hy
          go_wp2_with fail
          go_roundw
          case rel => exact ⟨un / 128, pre ++ [y], by simp, by omega, hpl2.out, HP2, G3⟩
          case measure => simp [intOf]; omega
        · obtain ⟨y, rfl⟩ : ∃ y : UInt8, un = y.toNat := ⟨un.toUInt8, by rw [Lib.toUInt8_toNat (by omega)]⟩
          have hyb : Lib.uvarint y.toNat = [y] := by rw [Lib.uvarint_small (by omega)]; simp
          have hP2 := hP.out
          rw [hyb] at hP2
          have HP2 := Lib.hid (show o ++ encI z = o ++ (pre ++ [y]) by rw [HU.out, hP2])
          clear hyb hP2
          go_wp2_with (at_builtin; refine wpList_append_src rfl _ _ 36 36 rfl und hi hz0 hz1 hz2 rfl _ _ m5 1 _ (bC [y]) rfl rfl (HO.out.alloc _) ((from_one (by simp)).src und (bC_one _)) (by unfold maxLen; omega) (by omega) (Nat.zero_le _) ?_)
          intro v' w5 ho hg hb
          rw [← bC_app, List.append_assoc, ← HP2.out, ← NX.out] at ho
          obtain ⟨va', vc', rfl⟩ := own_row_slice ho
          obtain ⟨g1, g2, g3⟩ := HN.out _ _ w5 _ _ ((Kept.refl _ _).alloc _) ho hg (by simpa using hb)
          have G3 := Lib.hid g3
          have GL := Lib.hid (show (l ++ encs (zs.take (k + 1))).length ≤ l.length + 10 * (k + 1) by
            rw [NX.out, List.length_append]; have := HL.out; have := HLo.out; omega)
          clear ho hg hb g3
          go_wp2_with fail
          go_roundw
          case rel => exact ⟨k + 1, by go_num, by omega, GL.out, G3⟩
          case measure => simp [intOf]; omega
    · obtain rfl : k = zs.length := by omega
      have P := Lib.hid (show EncPost w F p (l ++ encs zs) (.returned (.tuple #[])) wr from ⟨rfl, by have := hS.out; rwa [List.take_length] at this⟩)
      clear hS hlen
      go_wp2_with fail
      go_end0
      exact P.out

end Go.Proofs.Ytfenfgbkphpboaa
