/-
  No statement: the walk of the law WireBack, at a row as it lies in memory.
-/
import Derived.Test.YtfenfgbkphpboaaGreatJOpens
import Derived.Test.YtfenfgbkphpboaaGreatJRowOf
import Derived.Test.YtfenfgbkphpboaaGreatJRSeal
import Derived.Test.YtfenfgbkphpboaaGreatXSame
namespace Go.Proofs.YtfenfgbkphpboaaGreat
open Go.RowKit

theorem fewR_of {x : RD} (g : GoR x) (h : fewR x = true) : FewR x := by
  obtain ⟨h1, h2, h3, h4⟩ := fewR_all h
  exact ⟨h1, h2, g.t, g.i, g.q, g.n, h4, h3⟩

/-- What the walk keeps: the row. -/
structure KW (w0 w : World) (rb : Nat) (x : RD) (a : Option Addr) (c : Nat) : Prop where
  bw : Below w0.heap.size w0 w
  r : ReadsA w a x.len x.A
  h : w.heap[rb]? = some (.cells #[.string x.key, .int .i64 x.t, .int .i64 x.i, .int .i64 x.q, .string x.o, .slice a x.len c] 26 (0, 0))
theorem KW.kept {w0 w w' : World} {rb : Nat} {x : RD} {a : Option Addr} {c : Nat} (h : KW w0 w rb x a c) (hb : Below w.heap.size w w') : KW w0 w' rb x a c :=
  ⟨h.bw.trans (hb.mono h.bw.size), h.r.kept hb, (hb.block _ (lt_of_block h.h)).trans h.h⟩

theorem encodeR_err (x : RD) : (encodeR x).2 = errR x := by unfold encodeR; split <;> simp_all
theorem encodeR_enc {x : RD} (h : errR x = 0) : encodeR x = (sealB (encR x), 0) := by unfold encodeR; rw [if_pos h]

set_option maxRecDepth 100000 in
set_option maxHeartbeats 8000000 in
theorem wireBack_any (x : RD) (a : Option Addr) (c : Nat) (gx : GoR x) (w : World) (hx : ReadsA w a x.len x.A) :
    Calls Tryz.prog 3 #[.agg #[.string x.key, .int .i64 x.t, .int .i64 x.i, .int .i64 x.q, .string x.o, .slice a x.len c]] w fun e w' => e = .returned (.bool true) ∧ Below w.heap.size w w' := by
  have G := Lib.hid hx
  clear hx
  go_enter Tryz.func3, Tryz.ntmps3
  go_upto_region 1 with fail
  generalize hW : World.alloc w _ = W
  have K0 := Lib.hid (show KW w W w.heap.size x a c by rw [← hW]; exact ⟨below_new w _, G.out.kept (below_new w _), heap_alloc_new w _⟩)
  clear hW G
  go_wp2_with fail
  refine (known_any W).mono ?_
  rintro e w1 ⟨rfl, hb⟩
  have K1 := Lib.hid (K0.out.kept hb)
  clear hb K0
  obtain ⟨a0, a1, a2, a3, a4, a5⟩ := box6 K1.out.h
  have F1 := Lib.hid (few_any x a c gx.k gx.o gx.s w1 K1.out.r)
  by_cases h1 : fewR x = false
  · rw [h1] at F1
    go_wp2_with fail
    refine F1.out.mono ?_
    rintro e w2 ⟨rfl, hb⟩
    have P := Lib.hid (K1.out.kept hb).bw
    clear hb
    go_wp2_with fail
    go_ret
    exact ⟨rfl, P.out⟩
  have h1' : fewR x = true := by simpa using h1
  rw [h1'] at F1
  have FX := Lib.hid (fewR_of gx h1')
  clear h1 h1' gx
  go_wp2_with fail
  refine F1.out.mono ?_
  rintro e w2 ⟨rfl, hb⟩
  have K2 := Lib.hid (K1.out.kept hb)
  clear hb K1 F1 a0 a1 a2 a3 a4 a5
  obtain ⟨a0, a1, a2, a3, a4, a5⟩ := box6 K2.out.h
  have E2 := Lib.hid (encode_any x a c FX.out w2 K2.out.r)
  have hl := FX.out.l
  have EA := Lib.hid (fun a c w h => rEncode_any x a c FX.out w h)
  have hD := fun he => decodeR_enc FX.out he
  have hsl : errR x = 0 → (encodeR x).1.length ≤ 1000000 := fun he => by
    rw [encodeR_enc he]
    show (sealB (encR x)).length ≤ _
    rw [sealB_len]
    have := encR_len FX.out
    omega
  have hE2 := encodeR_err x
  have hE3 := fun he => encodeR_enc (x := x) he
  obtain ⟨⟨B, er⟩, hB⟩ : ∃ r, encodeR x = r := ⟨_, rfl⟩
  rw [hB] at E2 hE2 hsl
  rw [hB] at EA
  simp only at hE2 hsl
  have HD := Lib.hid (show er = 0 → decodeR B = (canR x, 0) ∧ B.length ≤ 1000000 from fun he => by
    have h0 : errR x = 0 := by rw [← hE2]; exact he
    have := hE3 h0
    rw [hB] at this
    rw [(Prod.mk.inj this).1]
    exact ⟨hD h0, by have := hsl h0; rw [(Prod.mk.inj ‹(B, er) = _›).1] at this; exact this⟩)
  clear hD hsl hE2 hE3 hB
  go_wp2_with fail
  refine E2.out.mono ?_
  rintro e w3 ⟨⟨b3, c3, rfl, hb3⟩, hb⟩
  have K3 := Lib.hid (K2.out.kept hb)
  have R3 := Lib.hid hb3
  clear hb hb3 K2 E2 a0 a1 a2 a3 a4 a5
  obtain ⟨a0, a1, a2, a3, a4, a5⟩ := box6 K3.out.h
  have OX := Lib.hid (ofR_any x a c (by omega) w3 K3.out.r)
  go_wp2_with fail
  refine OX.out.mono ?_
  rintro e w4 ⟨⟨a4', c4, rfl, hr4⟩, hb⟩
  have K4 := Lib.hid (K3.out.kept hb)
  have R4 := Lib.hid (R3.out.kept hb)
  have EA4 := Lib.hid (EA.out a4' c4 w4 hr4)
  clear hb hr4 K3 R3 OX EA a0 a1 a2 a3 a4 a5
  go_wp2_with fail
  refine EA4.out.mono ?_
  rintro e w5 ⟨⟨b5, c5, rfl, hb5⟩, hb⟩
  have K5 := Lib.hid (K4.out.kept hb)
  have R5 := Lib.hid (R4.out.kept hb)
  have s1 := strB (R4.out.kept hb)
  have s2 := strB hb5
  clear hb hb5 K4 R4 EA4
  simp only at s1 s2
  by_cases he : er = 0
  · subst he
    obtain ⟨hdec, hBl⟩ := HD.out rfl
    have DC := decode_any b3 c3 B hBl w5 R5.out
    rw [hdec] at DC
    have hs := sameR_can x
    have hxl := canR_len x
    obtain ⟨X, hX⟩ : ∃ X, canR x = X := ⟨_, rfl⟩
    rw [hX] at DC hs hxl
    have DC := Lib.hid DC
    have HS := Lib.hid hs
    have hXl : X.len ≤ 1000 := by rw [hxl]; omega
    clear hdec hX hs hxl
    go_wp2_with fail
    refine DC.out.mono ?_
    rintro e w6 ⟨⟨y, c6, rfl, hr6⟩, hb⟩
    have K6 := Lib.hid (K5.out.kept hb)
    have R6 := Lib.hid hr6.plain
    clear hb hr6 K5 R5 DC s1 s2 HD
    simp only
    go_upto_region 12 with fail
    generalize hW : World.alloc w6 _ = V
    have bl : Below w6.heap.size w6 V := by rw [← hW]; exact below_new w6 _
    have KV := Lib.hid (K6.out.kept bl)
    have KX := Lib.hid (show KW w V w6.heap.size X y c6 from ⟨KV.out.bw, R6.out.kept bl, by rw [← hW]; exact heap_alloc_new w6 _⟩)
    have HC := Lib.hid (p := ∀ w', Below V.heap.size V w' → (w'.cell? ⟨w6.heap.size, 0, none⟩ = some (.string X.key) ∧ w'.cell? ⟨w6.heap.size, 1, none⟩ = some (.int .i64 X.t) ∧ w'.cell? ⟨w6.heap.size, 2, none⟩ = some (.int .i64 X.i) ∧ w'.cell? ⟨w6.heap.size, 3, none⟩ = some (.int .i64 X.q) ∧ w'.cell? ⟨w6.heap.size, 4, none⟩ = some (.string X.o) ∧ w'.cell? ⟨w6.heap.size, 5, none⟩ = some (.slice y X.len c6)) ∧ w'.cell? ⟨w.heap.size, 0, none⟩ = some (.string x.key) ∧ w'.cell? ⟨w.heap.size, 1, none⟩ = some (.int .i64 x.t) ∧ w'.cell? ⟨w.heap.size, 2, none⟩ = some (.int .i64 x.i) ∧ w'.cell? ⟨w.heap.size, 3, none⟩ = some (.int .i64 x.q) ∧ w'.cell? ⟨w.heap.size, 4, none⟩ = some (.string x.o) ∧ w'.cell? ⟨w.heap.size, 5, none⟩ = some (.slice a x.len c)) (fun w' hb => ⟨box6 (KX.out.kept hb).h, box6 (KV.out.kept hb).h⟩)
    have HDR := Lib.hid (show Below V.heap.size V V.drew from ⟨rfl, rfl, rfl, Nat.le_refl _, fun _ _ => rfl⟩)
    obtain ⟨⟨x0, x1, x2, x3, x4, x5⟩, z0, z1, z2, z3, z4, z5⟩ := HC.out V (Below.refl _ _)
    clear hW bl K6 R6
    go_region_held3 (fun w' => (w'.cell? ⟨w6.heap.size, 0, none⟩ = some (.string X.key) ∧ w'.cell? ⟨w6.heap.size, 1, none⟩ = some (.int .i64 X.t) ∧ w'.cell? ⟨w6.heap.size, 2, none⟩ = some (.int .i64 X.i) ∧ w'.cell? ⟨w6.heap.size, 3, none⟩ = some (.int .i64 X.q) ∧ w'.cell? ⟨w6.heap.size, 4, none⟩ = some (.string X.o) ∧ w'.cell? ⟨w6.heap.size, 5, none⟩ = some (.slice y X.len c6)) ∧ w'.cell? ⟨w.heap.size, 0, none⟩ = some (.string x.key) ∧ w'.cell? ⟨w.heap.size, 1, none⟩ = some (.int .i64 x.t) ∧ w'.cell? ⟨w.heap.size, 2, none⟩ = some (.int .i64 x.i) ∧ w'.cell? ⟨w.heap.size, 3, none⟩ = some (.int .i64 x.q) ∧ w'.cell? ⟨w.heap.size, 4, none⟩ = some (.string x.o) ∧ w'.cell? ⟨w.heap.size, 5, none⟩ = some (.slice a x.len c)) (first | assumption | (refine ⟨⟨?_, ?_, ?_, ?_, ?_, ?_⟩, ?_, ?_, ?_, ?_, ?_, ?_⟩ <;> (first | assumption | (go_keep; done)))) (first
      | (go_at_call 10
         with_reducible refine (ofR_any X y c6 (by omega) _ (KX.out.r.kept HDR.out)).mono ?_
         rintro e w7 ⟨⟨a7, c7, rfl, hr7⟩, hb⟩
         have B7 := Lib.hid (HDR.out.trans hb)
         have R7 := Lib.hid hr7
         have cc := HC.out _ B7.out
         clear hb hr7)
      | (go_at_call 10
         with_reducible refine (ofR_any x a c (by omega) _ (KV.out.r.kept B7.out)).mono ?_
         rintro e w8 ⟨⟨a8, c8, rfl, hr8⟩, hb⟩
         have B8 := Lib.hid (B7.out.trans (hb.mono B7.out.size))
         have R8 := Lib.hid hr8
         have R78 := Lib.hid (R7.out.kept hb)
         have cc := HC.out _ B8.out
         clear hb hr8)
      | (go_at_call 12
         with_reducible refine (xSame_any X x a7 a8 c7 c8 (by omega) _ R78.out R8.out).mono ?_
         rintro e w9 ⟨rfl, hb⟩
         rw [HS.out]
         have B9 := Lib.hid (B8.out.trans (hb.mono B8.out.size))
         have cc := HC.out _ B9.out
         clear hb)
      | fail)
    have P := Lib.hid (KV.out.kept B9.out).bw
    go_wp2_with fail
    go_ret
    exact ⟨rfl, P.out⟩
  · have he' : (er == 0) = false := by simpa using he
    have P := Lib.hid K5.out.bw
    clear he
    go_wp2_with fail
    go_ret
    exact ⟨rfl, P.out⟩

end Go.Proofs.YtfenfgbkphpboaaGreat
