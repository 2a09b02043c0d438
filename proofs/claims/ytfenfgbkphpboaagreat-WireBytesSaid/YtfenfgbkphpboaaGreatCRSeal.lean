/-
  No statement: the document's own Seal and Open.
-/
import Derived.Test.YtfenfgbkphpboaaGreatCSeal
import Derived.Test.YtfenfgbkphpboaaGreatCOpen
import Derived.Test.YtfenfgbkphpboaaGreatCRSum
import Derived.Laws.IdiomStrings
import Derived.Laws.BytesArg
import Derived.Deep.RegionWith
namespace Go.Proofs.YtfenfgbkphpboaaGreat
open Go.RowKit

theorem strB {w : World} {a : Option Addr} {c : Nat} {l : List UInt8} (h : BR w a c l) : (convert 29 9 (.slice a l.length c)).run Tryz.prog w = .ok (.string ⟨l.toArray⟩) w := by
  rcases h.2.2 with ⟨rfl, rfl⟩ | ⟨rfl, x, rfl⟩ | ⟨b, off, rfl, hc⟩
  · have h0 : l = [] := List.length_eq_zero_iff.1 (by have := h.1; omega)
    subst h0
    exact run_convert_bytes_nil w 29 5 undB Tryz.underlying5 0 0 9 Tryz.underlying9
  · exact run_convert_bytes_back w 29 9 5 x c [] undB Tryz.underlying5 Tryz.underlying9 (fun j hj => by simp at hj)
  · exact run_convert_bytes_back w 29 9 5 ⟨b, off, none⟩ c l undB Tryz.underlying5 Tryz.underlying9 (fun j hj => by rw [Addr.add_lit]; exact hc j hj)

theorem from_four {w : World} {x0 x1 x2 x3 : Value} {t : TypeId} {W : World} (hW : W = w.alloc (.cells #[x0, x1, x2, x3] t)) : From W (.slice (some ⟨w.heap.size, 0, none⟩) 4 4) 4 [x0, x1, x2, x3] := by
  subst hW
  refine .inr ⟨_, _, rfl, rfl, fun j u hj => ?_⟩
  rw [Addr.add_lit, Nat.zero_add, cell_of_row _ _ _ _ _ (0, 0) (heap_alloc_new w _)]
  simpa using hj

theorem le4_cells (s : Nat) (h : s < 4294967296) : [Value.int .u8 ((s : Int) % 256), .int .u8 ((s : Int) / 256 % 256), .int .u8 ((s : Int) / 65536 % 256), .int .u8 ((s : Int) / 16777216)] = bC (le4 s) := by
  have e : ∀ x : Nat, x < 256 → ((x.toUInt8).toNat : Int) = (x : Int) := fun x h => by rw [u8_nat h]
  simp only [le4, Lib.byteCells, List.map_cons, List.map_nil]
  rw [e _ (by omega), e _ (by omega), e _ (by omega), e _ (by omega), show ((s / 16777216 % 256 : Nat) : Int) = (s : Int) / 16777216 by omega]
  rfl

set_option maxHeartbeats 2000000 in
set_option maxRecDepth 100000 in
theorem rSeal_any (a : Option Addr) (c : Nat) (l : List UInt8) (hl : l.length ≤ 100000000000) (w : World) (h : BR w a c l) : Calls Tryz.prog 19 #[.slice a l.length c] w (OutB w (sealB l)) := by
  obtain ⟨i0, hi, hz0, hz1, hz2⟩ := info_parts infoB
  have und := undB
  have hcr := crc_lt l
  have hsl : sealB l = l ++ le4 (crc l) := rfl
  obtain ⟨s, hs⟩ : ∃ s, crc l = s := ⟨_, rfl⟩
  have SU := Lib.hid (rSum_any a c l w h)
  have F := Lib.hid (h.kept (below_new w (.cells #[] 5))).from
  have OA := Lib.hid (own_new w)
  have BA := Lib.hid (below_new w (.cells #[] 5))
  rw [hs] at SU hcr hsl
  have HS := Lib.hid hsl
  clear hs h hsl
  go_enter Tryz.func19, Tryz.ntmps19
  go_wp2_with fail
  refine SU.out.mono ?_
  rintro e w1 ⟨rfl, rfl⟩
  go_wp2_with (at_builtin; refine wpList_append_from rfl (.tmp 6) (.tmp 7) 29 rfl und hi hz0 hz1 hz2 rfl _ _ 0 l.length [] _ rfl rfl OA.out F.out (bC_one l) (by unfold maxLen; omega) (by omega) (by simp) ?_)
  intro v' w2 ho hg hnn
  clear hnn
  have O2 := Lib.hid (OwnB.cast (l := l) ho (by simp) (by simp))
  have B2 := Lib.hid (BA.out.grown hg (by simp) (fun k hk => by simp [Value.ownBlock] at hk; omega))
  obtain ⟨va, vc, rfl⟩ := O2.out.slice
  clear ho hg
  go_wp2_with (at_builtin; refine wpList_append_from rfl (.tmp 8) (.tmp 20) 29 rfl und hi hz0 hz1 hz2 rfl _ _ l.length 4 (bC l) (bC (le4 s)) rfl rfl (O2.out.alloc _) (by rw [← le4_cells s hcr]; exact from_four rfl) (bC_one _) (by unfold maxLen; omega) (by omega) (by have := B2.out.size; simp; omega) ?_)
  intro v' w3 ho hg hnn
  clear hnn
  obtain ⟨va', vc', rfl⟩ := own_row_slice ho
  have P := Lib.hid (show OutB w1 (sealB l) (.returned (.slice va' (l.length + 4) vc')) w3 from by
    rw [← bC_app, ← HS.out] at ho
    have e : l.length + 4 = (sealB l).length := (sealB_len l).symm
    rw [e] at ho ⊢
    exact ⟨va', vc', rfl, ho, (B2.out.alloc B2.out.size _).grown hg (by have := B2.out.size; simp; omega) (fun q hq => (O2.out.lt q hq).1)⟩)
  clear ho hg
  go_wp2_with fail
  go_ret
  exact P.out

theorem rOpenShort_any (a : Option Addr) (n c : Nat) (h4 : n < 4) (w : World) :
    Calls Tryz.prog 42 #[.slice a n c] w fun e w' => e = .returned (.tuple #[.slice none 0 0, .int .i64 3]) ∧ w' = w := by
  go_enter Tryz.func42, Tryz.ntmps42
  go_wp2_with fail
  go_ret2
  exact ⟨rfl, rfl⟩

theorem valB_le4 {s : Nat} (h : s < 4294967296) : valB (le4 s) = s := by
  unfold le4 valB valB valB valB valB
  rw [u8_nat (by omega), u8_nat (by omega), u8_nat (by omega), u8_nat (by omega)]
  omega

theorem valB_inj : ∀ {l m : List UInt8}, l.length = m.length → valB l = valB m → l = m
  | [], [], _, _ => rfl
  | [], _ :: _, h, _ => by cases h
  | _ :: _, [], h, _ => by cases h
  | c :: l, d :: m, h, hv => by
    have hc := byte_lt c
    have hd := byte_lt d
    unfold valB at hv
    have h1 : c = d := UInt8.toNat_inj.1 (by omega)
    have h2 : l = m := valB_inj (by simpa using h) (by omega)
    rw [h1, h2]

/-- The four bytes behind are the sum just where the number is. -/
theorem seal_iff (p q : List UInt8) (hq : q.length = 4) : (sealB p == p ++ q) = decide (valB q = crc p) := by
  rw [Bool.eq_iff_iff, beq_iff_eq, decide_eq_true_iff]
  unfold sealB
  refine ⟨fun h => ?_, fun h => congrArg (p ++ ·) ?_⟩
  · have h2 : le4 (crc p) = q := List.append_cancel_left h
    rw [← h2, valB_le4 (crc_lt p)]
  · exact valB_inj (by rw [le4_len, hq]) (by rw [valB_le4 (crc_lt p), h])

set_option maxHeartbeats 2000000 in
set_option maxRecDepth 100000 in
theorem rOpen_any (a : Option Addr) (m c : Nat) (p q : List UInt8) (hp : p.length = m) (hq : q.length = 4) (hm : m ≤ 100000000000) (w : World) (h : BR w a c (p ++ q)) :
    Calls Tryz.prog 42 #[.slice a (m + 4) c] w (OpenPost w p q) := by
  obtain ⟨i0, hi, hz0, hz1, hz2⟩ := info_parts infoB
  have und := undB
  have hl : (p ++ q).length = m + 4 := by rw [List.length_append, hp, hq]
  have hcap := h.1
  rw [hl] at hcap
  have hcm : c ≤ 9223372036854775807 := by have := h.2.1; unfold maxLen at this; omega
  obtain ⟨b, off, rfl, hc⟩ := h.cells (by omega)
  have hF := h.front
  have BF := Lib.hid hF
  have HH := Lib.hid h
  have HP := Lib.hid hp
  have SE := Lib.hid (fun w' (hb : Below w.heap.size w w') => rSeal_any _ c p (by omega) w' (hF.kept hb))
  rw [hp] at SE
  have ST := Lib.hid (p := ∀ w', Below w.heap.size w w' → (convert 29 9 (.slice (some ⟨b, off, none⟩) (m + 4) c)).run Tryz.prog w' = .ok (.string ⟨(p ++ q).toArray⟩) w') (fun w' hb => by have := strB (h.kept hb); rwa [hl] at this)
  have hst := ST.out w.drew ⟨rfl, rfl, rfl, Nat.le_refl _, fun _ _ => rfl⟩
  have EQ := seal_iff p q hq
  have SL := Lib.hid (sealB_len p)
  have HL := Lib.hid hl
  clear h hl hc hF hp hq
  have hdr : Below w.heap.size w w.drew := ⟨rfl, rfl, rfl, Nat.le_refl _, fun _ _ => rfl⟩
  have HDR := Lib.hid hdr
  clear hdr
  by_cases hv : valB q = crc p
  · rw [decide_eq_true hv] at EQ
    have HV := Lib.hid hv
    clear hv
    go_enter Tryz.func42, Tryz.ntmps42
    go_wp2_with fail
    go_region_with (first
      | (go_at_call 19
         with_reducible refine (SE.out _ HDR.out).mono ?_
         rintro e w2 ⟨a2, c2, rfl, ho, hb⟩
         have hs2 := strB ho.br
         have hst2 := ST.out w2 (HDR.out.trans hb)
         have O2 := Lib.hid (And.intro ho hb)
         clear ho hb))
    all_goals
      have B2 := Lib.hid (HDR.out.trans O2.out.2)
      have F3 := Lib.hid (BF.out.kept (B2.out.trans ((below_new w2 (.cells #[] 5)).mono B2.out.size))).from
      rw [HP.out] at F3
      have BA := Lib.hid (B2.out.alloc B2.out.size (.cells #[] 5))
      have OA := Lib.hid (own_new w2)
      clear hst hst2 hs2 O2
      go_wp2_with (at_builtin; refine wpList_append_from rfl _ _ 29 rfl und hi hz0 hz1 hz2 rfl _ _ 0 m [] (bC p) rfl rfl OA.out F3.out (bC_one p) (by unfold maxLen; omega) (by omega) (by simp) ?_)
      intro v' w3 ho hg hnn
      clear hnn
      have O3 := Lib.hid (OwnB.cast (l := p) ho (by rw [HP.out]) (by simp))
      have B3 := Lib.hid (BA.out.grown hg (by have := B2.out.size; simp; omega) (fun k hk => by have := B2.out.size; simp [Value.ownBlock] at hk; omega))
      obtain ⟨va, vc, rfl⟩ := O3.out.slice
      have P := Lib.hid (show OpenPost w p q (.returned (.tuple #[.slice va p.length vc, .int .i64 0])) w3 from ⟨by rw [if_pos HV.out]; exact ⟨va, vc, rfl, O3.out.mono B2.out.size⟩, B3.out⟩)
      clear ho hg
      go_wp2_with fail
      go_ret2
      exact P.out
  · rw [decide_eq_false hv] at EQ
    have HV := Lib.hid hv
    clear hv
    go_enter Tryz.func42, Tryz.ntmps42
    go_wp2_with fail
    go_region_with (first
      | (go_at_call 19
         with_reducible refine (SE.out _ HDR.out).mono ?_
         rintro e w2 ⟨a2, c2, rfl, ho, hb⟩
         have hs2 := strB ho.br
         have hst2 := ST.out w2 (HDR.out.trans hb)
         have O2 := Lib.hid (And.intro ho hb)
         clear ho hb))
    all_goals
      have P := Lib.hid (show OpenPost w p q (.returned (.tuple #[.slice none 0 0, .int .i64 10])) w2 from ⟨by rw [if_neg HV.out], HDR.out.trans O2.out.2⟩)
      clear hst hst2 hs2 O2
      go_wp2_with fail
      go_ret2
      exact P.out

end Go.Proofs.YtfenfgbkphpboaaGreat
