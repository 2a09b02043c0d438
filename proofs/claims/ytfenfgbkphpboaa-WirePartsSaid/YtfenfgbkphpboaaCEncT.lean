/-
  No statement: Text and Bytes of an Enc of package codec.
-/
import Derived.Test.YtfenfgbkphpboaaCEnc
namespace Go.Proofs.Ytfenfgbkphpboaa
open Go.RowKit

/-- A []string reads as texts, in a block that is not among F. -/
def RS (w : World) (a : Option Addr) (ts : List (List UInt8)) (F : Nat → Prop) : Prop :=
  ts.length ≤ maxLen ∧ (ts = [] ∨ ∃ b off, a = some ⟨b, off, none⟩ ∧ ¬ F b ∧ ∀ j (h : j < ts.length), w.cell? ⟨b, off + j, none⟩ = some (.string ⟨ts[j].toArray⟩))

theorem RS.kept {w w' : World} {a : Option Addr} {ts : List (List UInt8)} {F : Nat → Prop} (h : RS w a ts F) (hk : Kept F w w') : RS w' a ts F := by
  refine ⟨h.1, h.2.imp id ?_⟩
  rintro ⟨b, off, rfl, hb, hc⟩
  exact ⟨b, off, rfl, hb, fun j hj => hk.cell (hc j hj) hb⟩

/-- Texts, one behind the other. -/
def encts (ts : List (List UInt8)) : List UInt8 := ts.flatMap encT

theorem encts_take (ts : List (List UInt8)) {k : Nat} (h : k < ts.length) : encts (ts.take (k + 1)) = encts (ts.take k) ++ encT ts[k] := by
  unfold encts
  rw [List.take_succ_eq_append_getElem h, List.flatMap_append]
  simp

theorem strBytes (l : List UInt8) : byteCells (⟨l.toArray⟩ : ByteArray) = bC l := by simp [byteCells, Lib.byteCells]
theorem strSize (l : List UInt8) : (⟨l.toArray⟩ : ByteArray).size = l.length := by simp [ByteArray.size]

theorem EncS.trans {w0 w1 w2 : World} {F0 : Nat → Prop} {p : Nat} {l : List UInt8} (h1 : EncS w0 F0 p w1 l) {m : List UInt8} (h : ∀ F, EncH w1 p F l → EncS w1 F p w2 m) : EncS w0 F0 p w2 m := by
  obtain ⟨F, hE, hg, hk⟩ := h1
  obtain ⟨F', hE', hg', hk'⟩ := h F hE
  exact ⟨F', hE', hg.trans hg' hk.size, hk.trans hk' (fun i hi hlt => by
    rcases hg i hi with h | h
    · exact h
    · omega)⟩

/-- Int of one number, at an Enc as it is since w0. -/
theorem encOne_any {w0 w : World} {F0 : Nat → Prop} {p : Nat} {l : List UInt8} (h : EncS w0 F0 p w l) (n : Int) (h0 : -9223372036854775808 ≤ n) (h1 : n ≤ 9223372036854775807) (hl : l.length ≤ 10000000000) :
    Calls Try.prog 33 #[.pointer (some ⟨p, 0, none⟩), .slice (some ⟨w.heap.size, 0, none⟩) 1 1] (w.alloc (.cells #[.int .i64 n] 2)) (EncPost w0 F0 p (l ++ encI n)) := by
  obtain ⟨F, hE, hg, hk⟩ := h
  have hE1 : EncH (w.alloc (.cells #[.int .i64 n] 2)) p F l := hE.kept ((Kept.refl (fun _ => False) w).alloc _) (fun _ _ h => h)
  have hlt : ∀ k, F k → k < w.heap.size := by obtain ⟨_, _, _, _, _, _, h5⟩ := hE; exact h5
  have := encInt_any p F l (some ⟨w.heap.size, 0, none⟩) [n] 1 _ (by simp; omega) (by simp; omega) hE1 ⟨by unfold maxLen; simp, .inr ⟨_, _, rfl, fun h => by have := hlt _ h; omega, fun j hj => by
    have : j = 0 := by simpa using hj
    subst this
    rw [cell_of_row _ _ _ _ _ (0, 0) (heap_alloc_new w _)]
    rfl⟩⟩
  refine this.mono fun e w' ⟨he, hS⟩ => ⟨he, ?_⟩
  have hx : encs [n] = encI n := by simp [encs]
  rw [hx] at hS
  have hS1 : EncS w0 F0 p (w.alloc (.cells #[.int .i64 n] 2)) l := ⟨F, hE1, hg, hk.alloc _⟩
  obtain ⟨F', hE', hg', hk'⟩ := hS
  refine ⟨F', hE', hg.trans (fun k hk2 => (hg' k hk2).imp id (fun h => by simp at h; omega)) hk.size, (hk.alloc _).trans hk' (fun i hi hlt2 => by
    rcases hg i hi with h | h
    · exact h
    · omega)⟩

set_option maxHeartbeats 4000000 in
set_option maxRecDepth 100000 in
theorem encText_any (p : Nat) (F : Nat → Prop) (l : List UInt8) (a : Option Addr) (ts : List (List UInt8)) (c : Nat) (w : World) (hz : ∀ t ∈ ts, t.length ≤ 1000000) (hsz : ts.length ≤ 100) (hl : l.length ≤ 1000000000)
    (h : EncH w p F l) (hr : RS w a ts F) : Calls Try.prog 34 #[.pointer (some ⟨p, 0, none⟩), .slice a ts.length c] w (EncPost w F p (l ++ encts ts)) := by
  obtain ⟨i0, hi, hz0, hz1, hz2⟩ := info_parts infoB
  have und := undB
  have HZ := Lib.hid (fun (k : Nat) (hk : k < ts.length) => hz _ (List.getElem_mem hk))
  have HR := Lib.hid hr
  have S0 := Lib.hid (EncS.start h)
  clear hz hr h
  go_enter Try.func34, Try.ntmps34
  go_wp2_with fail
  go_loopw [8] (fun i wr => ∃ k : Nat, i = .int .i64 k ∧ k ≤ ts.length ∧ (l ++ encts (ts.take k)).length ≤ l.length + 1000010 * k ∧ Hid (EncS w F p wr (l ++ encts (ts.take k)))) (fun i _ => ts.length - (intOf i).toNat)
  case atStart => exact ⟨0, rfl, Nat.zero_le _, by simp [encts], Lib.hid (by simpa [encts] using S0.out)⟩
  case round =>
    obtain ⟨k, rfl, hk, hlen, hS⟩ := hrel
    by_cases hlt : k < ts.length
    · obtain ⟨b, off, rfl, hbF, hc⟩ := (HR.out.kept hS.out.kept).2.resolve_left (fun h => by rw [h] at hlt; simp at hlt)
      have c0 := hc k hlt
      have het := encts_take ts hlt
      have htk := HZ.out k hlt
      obtain ⟨t, ht'⟩ : ∃ t, ts[k] = t := ⟨_, rfl⟩
      rw [ht'] at c0 het htk
      obtain ⟨o, ho'⟩ : ∃ o, l ++ encts (ts.take k) = o := ⟨_, rfl⟩
      have hnx : l ++ encts (ts.take (k + 1)) = o ++ encI (t.length : Nat) ++ t := by rw [het, ← List.append_assoc, ho', List.append_assoc]; rfl
      rw [ho'] at hlen hS
      have NX := Lib.hid hnx
      have hob : o.length ≤ 1100100000 := by omega
      have HIL := Lib.hid (encI_len (n := (t.length : Nat)) (by omega) (by omega))
      have EO := Lib.hid (encOne_any hS.out (t.length : Nat) (by omega) (by omega) (by omega))
      have hsz1 : (⟨t.toArray⟩ : ByteArray).size = t.length := strSize t
      have HLo := Lib.hid hlen
      obtain ⟨s, hs⟩ : ∃ s : ByteArray, (⟨t.toArray⟩ : ByteArray) = s := ⟨_, rfl⟩
      have SB := Lib.hid (show byteCells s = bC t by rw [← hs]; exact strBytes t)
      rw [hs] at c0 hsz1
      have HSz := Lib.hid hsz1
      rw [← hsz1] at EO htk
      clear hc ho' hnx het hs ht' hsz1 hlen
      go_wp2_with fail
      refine EO.out.mono ?_
      rintro e w2 ⟨rfl, hS2⟩
      obtain ⟨a5, m5, c5, hm5, hcell, hown, hpw, hnext⟩ := hS2.open
      have hm5b : m5 ≤ 1100100010 := by
        have h1 := HIL.out; have h2 := HSz.out
        rw [← h2] at h1
        rw [hm5, List.length_append]; omega
      have HN := Lib.hid hnext
      have HO := Lib.hid hown
      clear hm5 hnext hown hS2
      go_wp2_with (at_builtin; refine wpList_append_src rfl _ _ 36 9 rfl und hi hz0 hz1 hz2 rfl _ _ m5 s.size _ (byteCells s) rfl rfl HO.out (Src.ofString w2 Try.underlying9 s) (by unfold maxLen; omega) (by omega) (Nat.zero_le _) ?_)
      intro v' w5 ho hg hb
      obtain ⟨va', vc', rfl⟩ := own_row_slice ho
      rw [SB.out, ← bC_app, show o ++ encI (s.size : Nat) ++ t = l ++ encts (ts.take (k + 1)) by rw [NX.out, HSz.out]] at ho
      obtain ⟨g1, g2, g3⟩ := HN.out _ _ w5 _ _ (Kept.refl _ _) ho hg hb
      have G3 := Lib.hid g3
      have GL := Lib.hid (show (l ++ encts (ts.take (k + 1))).length ≤ l.length + 1000010 * (k + 1) by
        have h1 := HIL.out; have h2 := HSz.out; have h3 := HLo.out
        rw [NX.out, List.length_append, List.length_append]; omega)
      clear ho hg hb g3
      go_wp2_with fail
      go_roundw
      case rel => exact ⟨k + 1, by go_num, by omega, GL.out, G3⟩
      case measure => simp [intOf]; omega
    · obtain rfl : k = ts.length := by omega
      have P := Lib.hid (show EncPost w F p (l ++ encts ts) (.returned (.tuple #[])) wr from ⟨rfl, by have := hS.out; rwa [List.take_length] at this⟩)
      clear hS hlen
      go_wp2_with fail
      go_end0
      exact P.out

set_option maxHeartbeats 1000000 in
theorem encBytes_any (p : Nat) (F : Nat → Prop) (l : List UInt8) (hl : l.length ≤ 100000000000) (w : World) (h : EncH w p F l) : Calls Try.prog 17 #[.pointer (some ⟨p, 0, none⟩)] w (OutB w l) := by
  obtain ⟨v, h0, h1, -⟩ := h
  obtain ⟨a, c, rfl⟩ := owns_slice h1
  have hb : BR w a c l := OwnB.br (B := 0) h1
  have CL := Lib.hid (clone_any a c l hl w hb)
  have c0 : w.cell? ⟨p, 0, none⟩ = some (.slice a l.length c) := by simp [World.cell?, h0]
  clear h0 h1 hb
  go_enter Try.func17, Try.ntmps17
  go_wp2_with fail
  refine CL.out.mono ?_
  rintro e w2 ⟨a2, c2, rfl, ho, hb⟩
  have P := Lib.hid (show OutB w l (.returned (.slice a2 l.length c2)) w2 from ⟨a2, c2, rfl, ho, hb⟩)
  clear ho hb
  go_wp2_with fail
  go_ret
  exact P.out

end Go.Proofs.Ytfenfgbkphpboaa
