/-
  No statement: twinAttrs of package digest: attributes in new memory; the keys of rows and marks.
-/
import Derived.Test.YtpdobbdbmgeoiaaGreatDgMem
set_option linter.unusedVariables false
set_option linter.unusedSimpArgs false
namespace Go.Proofs.YtpdobbdbmgeoiaaGreat
open Go.RowKit

theorem get1_any (x : AD) (y : Option Addr) (cy B : Nat) (hl : x.len ≤ 1000000) (V : World) (h5 : V.heap[B]? = some (.cells #[.string x.m, .int .i64 x.k, .int .i64 x.n, .string x.s, .slice y x.len cy] 127 (0, 0))) (hr : Reads V y x.len x.z) :
    Calls Tryz.prog 102 #[.slice (some ⟨B, 0, none⟩) 1 1, .string x.m] V fun e w' => (∃ y' d, e = .returned (.tuple #[.agg #[.int .i64 x.k, .int .i64 (twN x.k x.n), .string (twS x.k x.s), .slice y' (twL x.k x.len) d], .bool true]) ∧ ReadsG (fun b => V.heap.size ≤ b) w' y' (twL x.k x.len) x.z) ∧ Below V.heap.size V w' := by
  refine getK_any (some ⟨B, 0, none⟩) 1 1 (fun _ => x) 0 (by omega) (by omega) (fun _ _ => hl) ?_ V ⟨by unfold maxLen; omega, .inr ⟨B, 0, rfl, fun j hj => ⟨y, cy, ?_, hr⟩⟩⟩
  · unfold RiseA; intros; omega
  · obtain rfl : j = 0 := by omega
    exact cells5_block h5

set_option maxRecDepth 100000 in
set_option maxHeartbeats 4000000 in
theorem dTwA_any (a : Option Addr) (n c : Nat) (A : Nat → AD) (hn : n ≤ 1000) (hl : ∀ j, j < n → (A j).len ≤ 1000000) (w : World) (h : ReadsA w a n A) :
    Calls Tryz.prog 98 #[.slice a n c] w (TwsPost w n A) := by
  obtain ⟨i0, hi, hz0, hz1, hz2⟩ := info_parts infoA
  have und : Tryz.prog.underlying 33 = some (.slice 127) := Tryz.underlying33
  have H := Lib.hid h
  have HL := Lib.hid hl
  clear h hl
  go_enter Tryz.func98, Tryz.ntmps98
  go_wp2_with (at_make; refine wpList_make_own _ rfl _ _ 33 rfl w.heap.size 127 i0 _ 5 und hi hz0 hz1 .i64 .i64 _ n rfl rfl rfl (by rw [hz2]; omega) (by unfold maxLen; omega) (Nat.le_refl _) ?_)
  intro w2 ho hg
  have O2 := Lib.hid (OwnA.start ho)
  have B2 := Lib.hid (p := Below w.heap.size w w2) ((Below.refl _ _).grown hg (Nat.le_refl _) (fun k h => by cases h))
  clear ho hg
  go_wp2_with fail
  go_loopw [3, 13] (fun v i wr => ∃ (k : Nat) (T : List AT) (va : Option Addr) (vl vc : Nat), v = .slice va vl vc ∧ i = .int .i64 k ∧ k ≤ n ∧ T.length = k ∧ Hid (T.map (·.1) = fromA (twF A) k 0) ∧ Hid (OwnA wr w.heap.size (.slice va vl vc) T) ∧ Hid (Below w.heap.size w wr)) (fun _ i _ => n - (intOf i).toNat)
  case atStart => exact ⟨0, [], _, _, _, rfl, rfl, Nat.zero_le _, rfl, Lib.hid rfl, O2, B2⟩
  case round =>
    obtain ⟨k, T, va, vl, vc, rfl, rfl, hk, hTl, hM, hO, hB⟩ := hrel
    clear O2 B2
    by_cases hlt : k < n
    · obtain ⟨b, off, rfl, hc⟩ := H.out.2.resolve_left (by omega)
      obtain ⟨y, cy, h50, hry0⟩ := hc k hlt
      have hlk := HL.out k hlt
      have hs : fromA (twF A) (k + 1) 0 = fromA (twF A) k 0 ++ [twA (A k)] := by simp [fromA, List.range_succ, twF]
      have HS := Lib.hid hs
      obtain ⟨x, hx⟩ : ∃ x, A k = x := ⟨_, rfl⟩
      rw [hx] at h50 HS hry0 hlk
      have RY := Lib.hid (hry0.kept hB.out)
      obtain ⟨d0, d1, d2, d3, d4⟩ := h50.kept hB.out
      have hbw := h50.lt
      have hzr := hB.out.size
      have HVL := Lib.hid (p := ∀ q, (Value.slice va vl vc).ownBlock = some q → q < wr.heap.size) (fun q hq => (hO.out.1.lt q hq).2)
      clear hc hx h50 hs hry0
      go_upto_region 5 with fail
      generalize hW : World.alloc wr _ = W
      have hWb : Below wr.heap.size wr W := by rw [← hW]; exact (Below.refl _ _).alloc (Nat.le_refl _) _
      have hW5 : W.heap[wr.heap.size]? = some (.cells #[.string x.m, .int .i64 x.k, .int .i64 x.n, .string x.s, .slice y x.len cy] 127 (0, 0)) := by rw [← hW]; exact heap_alloc_new wr _
      clear hW d0 d1 d2 d3 d4
      have HW := Lib.hid (And.intro hWb hW5)
      have BW := Lib.hid (hB.out.trans (hWb.mono hzr))
      have OW := Lib.hid (hO.out.below hWb)
      have RW := Lib.hid (RY.out.kept hWb)
      obtain ⟨⟨d0, d1, d2, d3, d4⟩, -⟩ := five hW5
      have hzW := hWb.size
      have hlW : wr.heap.size < W.heap.size := lt_of_block hW5
      clear hWb hW5 hO hB RY
      go_wp2_with fail
      generalize hU : World.alloc W _ = U
      have hUb : Below W.heap.size W U := by rw [← hU]; exact (Below.refl _ _).alloc (Nat.le_refl _) _
      have hU5 : U.heap[W.heap.size]? = some (.cells #[.string x.m, .int .i64 x.k, .int .i64 x.n, .string x.s, .slice y x.len cy] 127 (0, 0)) := by rw [← hU]; exact heap_alloc_new W _
      clear hU
      refine (get1_any x y cy W.heap.size hlk U hU5 (RW.out.kept hUb)).mono ?_
      rintro e w3 ⟨⟨a3, c3, rfl, hr3⟩, hb3'⟩
      have hb3 := hUb.trans (hb3'.mono hUb.size)
      have B3 := Lib.hid (BW.out.trans (hb3.mono (by omega)))
      have O3 := Lib.hid (OW.out.below hb3)
      have A3 := Lib.hid ((hb3.block _ (lt_of_block HW.out.2)).trans HW.out.2)
      have hz3 := hb3.size
      have hzU := hUb.size
      have R3 := Lib.hid (And.intro hr3 hb3)
      have hlA := lt_of_block HW.out.2
      clear hr3 hb3 hb3' hUb hU5 d0 d1 d2 d3 d4 OW BW RW
      go_upto_region 6 with fail
      generalize hV : World.alloc w3 _ = V
      have hVb : Below w3.heap.size w3 V := by rw [← hV]; exact (Below.refl _ _).alloc (Nat.le_refl _) _
      have hV4 : V.heap[w3.heap.size]? = some (.cells #[.int .i64 x.k, .int .i64 (twN x.k x.n), .string (twS x.k x.s), .slice a3 (twL x.k x.len) c3] 125 (0, 0)) := by rw [← hV]; exact heap_alloc_new w3 _
      clear hV
      have B4 := Lib.hid (B3.out.trans (hVb.mono (by have := B3.out.size; omega)))
      have O4 := Lib.hid (O3.out.below hVb)
      obtain ⟨⟨d0, d1, d2, d3, d4⟩, -⟩ := five ((hVb.block _ (by show _ < w3.heap.size; omega)).trans A3.out)
      obtain ⟨⟨u0, u1, u2, u3⟩, -⟩ := four hV4
      have R4 := Lib.hid (And.intro (R3.out.1.kept (keptNew hVb) (fun _ _ h => h)) (R3.out.1.lt.mono (H := fun k => W.heap.size ≤ k ∧ k < w3.heap.size) (fun k h _ => ⟨by have := h.1; omega, h.2⟩)))
      have hzV := hVb.size
      clear hVb hV4 O3 B3 A3 R3
      have OE := Lib.hid (O4.out.below ((Below.refl _ V).alloc (Nat.le_refl _) (.cells #[.string x.m, .int .i64 x.k, .int .i64 (twN x.k x.n), .string (twS x.k x.s), .slice a3 (twL x.k x.len) c3] 127)))
      have BE := Lib.hid (B4.out.alloc (by have := B4.out.size; omega) (.cells #[.string x.m, .int .i64 x.k, .int .i64 (twN x.k x.n), .string (twS x.k x.s), .slice a3 (twL x.k x.len) c3] 127))
      have RE := Lib.hid (p := ReadsG (fun b => w.heap.size ≤ b ∧ (Value.slice va vl vc).ownBlock ≠ some b) (V.alloc (.cells #[.string x.m, .int .i64 x.k, .int .i64 (twN x.k x.n), .string (twS x.k x.s), .slice a3 (twL x.k x.len) c3] 127)) a3 (twA x).len (twA x).z)
        ((R4.out.1.kept (keptNew ((Below.refl _ V).alloc (Nat.le_refl _) _)) (fun _ _ h => h)).mono (fun b hb _ => ⟨by omega, fun e => by have := HVL.out b e; omega⟩))
      have NEW := Lib.hid (new_fiveC V (twA x) a3 c3)
      go_wp2_with (at_builtin; refine wpList_append_new rfl _ _ 33 rfl (base := w.heap.size) und hi hz0 hz1 hz2 rfl (by decide) (.slice va vl vc) k 1 1 ⟨V.heap.size, 0, none⟩ (T.flatMap fiveCT) (fiveC (twA x) a3 c3) rfl rfl (hTl ▸ OE.out.1) rfl NEW.out (fiveC_one _ _ _) (by unfold maxLen; omega) (by omega) (by have := BE.out.size; omega) ?_)
      intro v5 w5 hown5 hgrow5 hq5
      obtain ⟨va', vc', rfl⟩ := own_rowG hown5
      have O5 : Hid (OwnA w5 w.heap.size (.slice va' (k + 1) vc') (T ++ [(twA x, a3, c3)])) := Lib.hid (by subst hTl; exact OE.out.more (t := (twA x, a3, c3)) RE.out hown5 hgrow5 (fun q hq => by rw [World.size_alloc]; exact hq5 q hq))
      have B5 := Lib.hid (BE.out.grown hgrow5 (by have := BE.out.size; omega) (fun q hq => (OE.out.1.lt q hq).1))
      have M5 := Lib.hid (show (T ++ [(twA x, a3, c3)]).map (·.1) = fromA (twF A) (k + 1) 0 by rw [HS.out, List.map_append, hM.out]; rfl)
      clear hown5 hgrow5 hq5 OE BE RE NEW R4 O4 B4 d0 d1 d2 d3 d4 u0 u1 u2 u3 HS HW
      go_wp2_with fail
      go_roundw
      case rel => exact ⟨k + 1, T ++ [(twA x, a3, c3)], va', k + 1, vc', rfl, by go_num, by omega, by rw [List.length_append, hTl]; rfl, M5, O5, B5⟩
      case measure => simp [intOf]; omega
    · obtain rfl : k = n := by omega
      subst hTl
      obtain ⟨rfl, hrd⟩ := hO.out.reads hM.out
      have P := Lib.hid (show TwsPost w T.length A (.returned (.slice va T.length vc)) wr from ⟨⟨va, vc, rfl, hrd⟩, hB.out⟩)
      clear hrd
      go_wp2_with fail
      go_ret
      exact P.out

theorem rowKey_any (k : ByteArray) (t i q : Int) (o : ByteArray) (a : Option Addr) (n c : Nat) (w : World) : Calls Tryz.prog 61 #[.agg #[.string k, .int .i64 t, .int .i64 i, .int .i64 q, .string o, .slice a n c]] w fun e w' => e = .returned (.string k) ∧ Below w.heap.size w w' := by
  go_enter Tryz.func61, Tryz.ntmps61
  go_wp2_with fail
  go_ret
  exact ⟨rfl, (Below.refl _ _).alloc (Nat.le_refl _) _⟩

theorem markKey_any (k : ByteArray) (t i q : Int) (o : ByteArray) (w : World) : Calls Tryz.prog 62 #[.agg #[.string k, .int .i64 t, .int .i64 i, .int .i64 q, .string o]] w fun e w' => e = .returned (.string k) ∧ Below w.heap.size w w' := by
  go_enter Tryz.func62, Tryz.ntmps62
  go_wp2_with fail
  go_ret
  exact ⟨rfl, (Below.refl _ _).alloc (Nat.le_refl _) _⟩

theorem itself_any (k : ByteArray) (w : World) : Calls Tryz.prog 67 #[.string k] w fun e w' => e = .returned (.string k) ∧ w = w' := by
  go_enter Tryz.func67, Tryz.ntmps67
  go_wp2_with fail
  go_ret
  exact ⟨rfl, rfl⟩

end Go.Proofs.YtpdobbdbmgeoiaaGreat
