/-
  No statement: the walk of the law WireRows, at rows as they lie in memory.
-/
import Derived.Test.YtfenfgbkphpboaaGreatJOpens
import Derived.Test.YtfenfgbkphpboaaGreatJLists
import Derived.Test.YtfenfgbkphpboaaGreatJRSeal
namespace Go.Proofs.YtfenfgbkphpboaaGreat
open Go.RowKit

/-- What the walk keeps: the rows. -/
structure KWs (w0 w : World) (a : Option Addr) (n : Nat) (R : Nat → RD) : Prop where
  bw : Below w0.heap.size w0 w
  r : ReadsR w a n R
theorem KWs.kept {w0 w w' : World} {a : Option Addr} {n : Nat} {R : Nat → RD} (h : KWs w0 w a n R) (hb : Below w.heap.size w w') : KWs w0 w' a n R :=
  ⟨h.bw.trans (hb.mono h.bw.size), h.r.below hb⟩

theorem encodeRs_err (l : List RD) : (encodeRs l).2 = errRows l := by unfold encodeRs; split <;> simp_all
theorem encodeRs_enc {l : List RD} (h : errRows l = 0) : encodeRs l = (sealB (encI (l.length : Nat) ++ encRs l), 0) := by unfold encodeRs; rw [if_pos h]

theorem rowsT (a : Option Addr) (c n : Nat) (l : List UInt8) (L : List RD) (hl : l.length ≤ 4000000) (hd : decodeRs l = (L, 0)) (hn : L.length = n) (w : World) (h : BR w a c l) :
    Calls Tryz.prog 17 #[.slice a l.length c] w fun e w' => (∃ a c, e = .returned (.tuple #[.slice a n c, .int .i64 0]) ∧ ReadsR w' a n (atR L)) ∧ Below w.heap.size w w' := by
  subst hn
  have := rows_any a c l hl w h
  rw [hd] at this
  exact this

theorem atR_can (R : Nat → RD) {n j : Nat} (hj : j < n) : atR ((tkR R n).map canR) j = canR (R j) := by
  unfold atR tkR
  rw [List.getD_eq_getElem?_getD]
  simp [hj]

set_option maxRecDepth 100000 in
set_option maxHeartbeats 8000000 in
theorem wireRows_any (a : Option Addr) (n c : Nat) (R : Nat → RD) (g : ∀ j, j < n → GoR (R j)) (w : World) (h : ReadsR w a n R) :
    Calls Tryz.prog 4 #[.slice a n c] w fun e w' => e = .returned (.bool true) ∧ Below w.heap.size w w' := by
  have K0 := Lib.hid (show KWs w w a n R from ⟨Below.refl _ _, h⟩)
  have GG := Lib.hid g
  clear h g
  go_enter Tryz.func4, Tryz.ntmps4
  go_wp2_with fail
  refine (known_any w).mono ?_
  rintro e w1 ⟨rfl, hb⟩
  have K1 := Lib.hid (K0.out.kept hb)
  clear hb K0
  have F1 := Lib.hid (fewRows_any a n c R GG.out w1 K1.out.r)
  by_cases h1 : fewRs n R = false
  · rw [h1] at F1
    go_wp2_with fail
    refine F1.out.mono ?_
    rintro e w2 ⟨rfl, hb⟩
    have P := Lib.hid (K1.out.kept hb).bw
    clear hb
    go_wp2_with fail
    go_ret
    exact ⟨rfl, P.out⟩
  have h1' : fewRs n R = true := by simpa using h1
  rw [h1'] at F1
  obtain ⟨hn, hF⟩ := fewRs_all GG.out h1'
  have FX := Lib.hid hF
  clear h1 h1' GG hF
  go_wp2_with fail
  refine F1.out.mono ?_
  rintro e w2 ⟨rfl, hb⟩
  have K2 := Lib.hid (K1.out.kept hb)
  clear hb K1 F1
  have E2 := Lib.hid (all_any a n c R FX.out (by omega) w2 K2.out.r)
  have EA := Lib.hid (fun a c w h => rAll_any a n c R FX.out (by omega) w h)
  have HL := Lib.hid (show ∀ j, j < n → (R j).len ≤ 1000 from fun j hj => by have := (FX.out j hj).l; omega)
  have hD := fun he => decodeRs_enc (l := tkR R n) (fun x hx => by obtain ⟨j, hj, rfl⟩ := List.mem_map.1 hx; exact FX.out j (List.mem_range.1 hj)) he
  have hsl : errRows (tkR R n) = 0 → (encodeRs (tkR R n)).1.length ≤ 4000000 := fun he => by
    rw [encodeRs_enc he]
    show (sealB (encI ((tkR R n).length : Nat) ++ encRs (tkR R n))).length ≤ _
    rw [sealB_len, List.length_append]
    have := encRs_len FX.out n (Nat.le_refl _)
    have := encI_lenN (n := (tkR R n).length) (by rw [tkR_len]; omega)
    omega
  have hE2 := encodeRs_err (tkR R n)
  have hE3 := fun he => encodeRs_enc (l := tkR R n) he
  obtain ⟨⟨B, er⟩, hB⟩ : ∃ r, encodeRs (tkR R n) = r := ⟨_, rfl⟩
  rw [hB] at E2 hE2 hsl
  rw [hB] at EA
  simp only at hE2 hsl
  have HD := Lib.hid (show er = 0 → decodeRs B = ((tkR R n).map canR, 0) ∧ B.length ≤ 4000000 from fun he => by
    have h0 : errRows (tkR R n) = 0 := by rw [← hE2]; exact he
    have := hE3 h0
    rw [hB] at this
    refine ⟨?_, hsl h0⟩
    rw [(Prod.mk.inj this).1]
    exact hD h0)
  clear hD hsl hE2 hE3 hB FX
  go_wp2_with fail
  refine E2.out.mono ?_
  rintro e w3 ⟨⟨b3, c3, rfl, hb3⟩, hb⟩
  have K3 := Lib.hid (K2.out.kept hb)
  have R3 := Lib.hid hb3
  clear hb hb3 K2 E2
  have OX := Lib.hid (ofRows_any a n c R HL.out (by omega) w3 K3.out.r)
  go_wp2_with fail
  refine OX.out.mono ?_
  rintro e w4 ⟨⟨a4', c4, rfl, hr4⟩, hb⟩
  have K4 := Lib.hid (K3.out.kept hb)
  have R4 := Lib.hid (R3.out.kept hb)
  have EA4 := Lib.hid (EA.out a4' c4 w4 hr4)
  clear hb hr4 K3 R3 OX EA
  go_wp2_with fail
  refine EA4.out.mono ?_
  rintro e w5 ⟨⟨b5, c5, rfl, hb5⟩, hb⟩
  have K5 := Lib.hid (K4.out.kept hb)
  have R5 := Lib.hid (R4.out.kept hb)
  have s1 := strB (R4.out.kept hb)
  have s2 := strB hb5
  clear hb hb5 K4 R4 EA4
  simp only at s1 s2
  by_cases he : er = 0
  · subst he
    obtain ⟨hdec, hBl⟩ := HD.out rfl
    have DC := Lib.hid (rowsT b3 c3 n B _ hBl hdec (by rw [List.length_map, tkR_len]) w5 R5.out)
    clear hdec HD
    go_wp2_with fail
    refine DC.out.mono ?_
    rintro e w6 ⟨⟨y, c6, rfl, hr6⟩, hb⟩
    have K6 := Lib.hid (K5.out.kept hb)
    have R6 := Lib.hid hr6
    clear hb hr6 K5 R5 DC s1 s2
    simp only
    have OX := Lib.hid (ofRows_any a n c R HL.out (by omega) w6 K6.out.r)
    go_wp2_with fail
    refine OX.out.mono ?_
    rintro e w7 ⟨⟨a7, c7, rfl, hr7⟩, hb⟩
    have K7 := Lib.hid (K6.out.kept hb)
    have S7 := Lib.hid (sameRows_any y a7 n c6 c7 (atR ((tkR R n).map canR)) R (fun j hj => by rw [atR_can R hj, canR_len]; exact HL.out j hj) (fun j hj => by rw [atR_can R hj]; exact sameR_can _) w7 (R6.out.below hb) hr7)
    clear hb hr7 K6 R6 OX
    go_wp2_with fail
    refine S7.out.mono ?_
    rintro e w8 ⟨rfl, hb⟩
    have P := Lib.hid (K7.out.kept hb).bw
    clear hb S7
    go_wp2_with fail
    go_ret
    exact ⟨rfl, P.out⟩
  · have he' : (er == 0) = false := by simpa using he
    have P := Lib.hid K5.out.bw
    clear he
    go_wp2_with fail
    go_ret
    exact ⟨rfl, P.out⟩

end Go.Proofs.YtfenfgbkphpboaaGreat
