/-
  No statement: the program's reader: factor, sum.
-/
import Derived.Test.YteegdemnajhehaaGreatDoorGJoin
import Derived.Test.YteegdemnajhehaaGreatDoorABack
namespace Go.Proofs.YteegdemnajhehaaGreatDoor
open Go.RowKit

theorem runE_fac2 {L : List Tk} {p o n : Nat} {sg : List (List UInt8 × Nat)} {dn : List TN} (hp : p ≤ L.length) : runE L true ⟨p, o, n, sg, dn⟩ =
    if isS L [40] p = true then runE L true ⟨p + 1, o + 1, n, sg, dn⟩
    else if isS L [45] p = true then (if n = 32 then .bad p 4 else runE L true ⟨p + 1, o, n + 1, (bNeg, 3 + o * 3) :: sg, dn⟩)
    else if (tkAt L p).kind = 2 ∧ 0 ≤ (tkAt L p).num then (if n = 32 then .bad p 4 else runE L false ⟨p + 1, o, n + 1, sg, numT (tkAt L p).num :: dn⟩)
    else if (tkAt L p).kind = 1 ∧ goodB (tkAt L p).text = true then (if n = 32 then .bad p 4 else runE L false ⟨p + 1, o, n + 1, sg, nameT (tkAt L p).text :: dn⟩)
    else .bad p 2 := by
  have h := runE_fac (L := L) (s := ⟨p, o, n, sg, dn⟩) hp
  simp only at h
  rw [h]
  unfold tkAt
  cases e : L[p]? with
  | none =>
    have hz : ¬ (zTk.kind = 2 ∧ 0 ≤ zTk.num) := by decide
    have hz1 : ¬ (zTk.kind = 1 ∧ goodB zTk.text = true) := by decide
    simp only [if_neg hz, if_neg hz1]
  | some t => rfl

/-- What factor answers: an error and its place, or the run behind the factor. -/
def FacR (ts : List Tk) (rb : Nat) (a : Option Addr) (c p0 : Nat) (r0 : RunEnd) (w0 : World) (e : Ending) (w' : World) : Prop :=
  KeptR rb w0 w' ∧ ∃ (er : Int) (p o n : Nat) (sg : List (List UInt8 × Nat)) (dn : List TN) (sv dv : Value) (q : List (Option Addr × Nat)), e = .returned (.int .i64 er) ∧ RG ts rb a c p o n sg dn sv dv q w' ∧
    ((er = 0 ∧ r0 = runE ts false ⟨p, o, n, sg, dn⟩ ∧ SgOk sg ∧ dn.length = bins sg + 1 ∧ p0 < p ∧ o ≤ p) ∨ (er ≠ 0 ∧ r0 = .bad p er))

theorem good_at_tk {ts : List Tk} (hL : ∀ t ∈ ts, GoodTk t) (p : Nat) : tkAt ts p = zTk ∨ GoodTk (tkAt ts p) ∧ p < ts.length := by
  by_cases h : p < ts.length
  · right; rw [tkAt_get h]; exact ⟨hL _ (List.getElem_mem h), h⟩
  · left; exact tkAt_end (Nat.le_of_not_lt h)

set_option maxHeartbeats 8000000 in
set_option maxRecDepth 100000 in
theorem factor_any (ts : List Tk) (hL : ∀ t ∈ ts, GoodTk t) (rb : Nat) (a : Option Addr) (c p0 o0 n0 : Nat) (sg0 : List (List UInt8 × Nat)) (dn : List TN) (sv0 dv : Value) (q : List (Option Addr × Nat)) (w : World) (H : RG ts rb a c p0 o0 n0 sg0 dn sv0 dv q w) (hs : SgOk sg0) (hd : dn.length = bins sg0) (ho : o0 ≤ p0) :
    Calls Tryz.prog 57 #[.pointer (some ⟨rb, 0, none⟩)] w (FacR ts rb a c p0 (runE ts true ⟨p0, o0, n0, sg0, dn⟩) w) := by
  obtain ⟨r0, hr0⟩ : ∃ r, runE ts true ⟨p0, o0, n0, sg0, dn⟩ = r := ⟨_, rfl⟩
  rw [hr0]
  have K0 := Lib.hid (KeptR.refl rb w)
  have HR := Lib.hid H
  have HS := Lib.hid hs
  have HD := Lib.hid hd
  have HE := Lib.hid hr0
  have HL := Lib.hid hL
  have hn : ts.length ≤ 100000 := H.g.hl
  have hp0 := H.g.hp
  clear hs hd hr0 H hL
  go_enter Tryz.func57, Tryz.ntmps57
  go_wp2_with fail
  go_loopg [] ts.length (fun g wr => ∃ (p o n : Nat) (sg : List (List UInt8 × Nat)) (sv : Value), p0 ≤ p ∧ o ≤ p ∧ p ≤ ts.length ∧ ts.length - p ≤ g ∧ Hid (RG ts rb a c p o n sg dn sv dv q wr) ∧ Hid (SgOk sg) ∧ Hid (dn.length = bins sg) ∧ Hid (runE ts true ⟨p, o, n, sg, dn⟩ = r0) ∧ Hid (KeptR rb w wr))
  case atStart => exact ⟨p0, o0, n0, sg0, sv0, Nat.le_refl _, ho, hp0, Nat.sub_le _ _, HR, HS, HD, HE, K0⟩
  case round =>
    obtain ⟨p, o, n, sg, sv, hp, hop, hpl, hg, hR, hS, hD, hE, hK⟩ := hrel
    have CN := Lib.hid (next_any ts rb a c p o n sv dv wr hR.out.g)
    have RF := Lib.hid (hE.out.symm.trans (runE_fac2 (o := o) (n := n) (sg := sg) (dn := dn) hpl))
    have hgt := Lib.hid (good_at_tk HL.out p)
    have D := Lib.hid (fun x w => isS_any ts x p w)
    obtain ⟨tk, htk⟩ : ∃ t, tkAt ts p = t := ⟨_, rfl⟩
    have LT : Hid (¬ tk = zTk → p < ts.length) := Lib.hid (fun hne => by
      rcases hgt.out with h1 | h1
      · exact absurd (htk.symm.trans h1) hne
      · exact h1.2)
    rw [htk] at CN RF hgt D
    have HTK := Lib.hid htk
    clear htk
    obtain ⟨X, hX⟩ : ∃ X : ByteArray, ⟨tk.text.toArray⟩ = X := ⟨_, rfl⟩
    have hag : tkG tk = .agg #[.int .i64 tk.kind, .string X, .int .i64 tk.num, .int .i64 tk.place] := by rw [← hX]; rfl
    rw [hag] at CN D
    have HX := Lib.hid hX
    clear hag hX
    have hob : o ≤ 100000 := by omega
    go_wp2_with fail
    refine CN.out.mono ?_
    rintro e w1 ⟨rfl, hb1⟩
    have hrw := hR.out.lt
    have hsz := hb1.size
    have R1 := hR.out.below hb1
    have K1 := hK.out.trans (KeptR.below hb1)
    have BA := (Below.refl w1.heap.size w1).alloc (Nat.le_refl _) (.cells #[.int .i64 tk.kind, .string X, .int .i64 tk.num, .int .i64 tk.place] 74)
    have NA := heap_alloc_new w1 (.cells #[.int .i64 tk.kind, .string X, .int .i64 tk.num, .int .i64 tk.place] 74)
    have R2 := R1.below BA
    have K2 := K1.trans (KeptR.below BA)
    obtain ⟨tb, htb⟩ : ∃ b, w1.heap.size = b := ⟨_, rfl⟩
    go_upto_region 3 with fail
    generalize hW : w1.alloc (.cells #[.int .i64 tk.kind, .string X, .int .i64 tk.num, .int .i64 tk.place] 74) = W at R2 K2 NA
    try rw [hW]
    rw [htb] at NA
    try rw [htb]
    have HR2 := Lib.hid R2
    have HK2 := Lib.hid K2
    have HNA := Lib.hid NA
    obtain ⟨⟨x0, x1, x2, x3⟩, -⟩ := four NA
    clear hb1 R1 K1 BA R2 K2 NA hW htb CN
    go_wp2_with fail
    refine (D.out ⟨#[40]⟩ W).mono ?_
    rintro e w2 ⟨rfl, hb2⟩
    have hE40 : isS ts (⟨#[40]⟩ : ByteArray).data.toList p = isS ts [40] p := rfl
    rw [hE40]
    have R3 := HR2.out.below hb2
    have K3 := HK2.out.trans (KeptR.below hb2)
    have N3 := (hb2.block _ (Array.getElem?_eq_some_iff.1 HNA.out).1).trans HNA.out
    have HR3 := Lib.hid R3
    have HK3 := Lib.hid K3
    have HN3 := Lib.hid N3
    clear x0 x1 x2 x3 hb2 hE40 R3 K3 N3 HR2 HK2 HNA
    by_cases h40 : isS ts [40] p = true
    · have hlt := isS_lt h40
      have E2 := Lib.hid (show runE ts true ⟨p + 1, o + 1, n, sg, dn⟩ = r0 by have := RF.out; rw [if_pos h40] at this; exact this.symm)
      obtain ⟨⟨c0, c1, c2, c3, c4, c5⟩, f1, f2, f3, f4, f5⟩ := HR3.out.g.r.cells
      have H1 := HR3.out.set (p' := p) (o' := o + 1) (n' := n) (y := 2) (v := .int .i64 ((o : Int) + 1)) hpl (by omega) HR3.out.g.hn (Nat.le_refl _) rfl
      have H2 := Lib.hid (H1.set (p' := p + 1) (o' := o + 1) (n' := n) (y := 1) (v := .int .i64 ((p : Int) + 1)) (by omega) (by omega) HR3.out.g.hn (Nat.le_refl _) rfl)
      have K4 := Lib.hid ((HK3.out.set 2 (.int .i64 ((o : Int) + 1))).set 1 (.int .i64 ((p : Int) + 1)))
      rw [h40]
      clear H1 h40 D RF
      go_wp2_with fail
      go_roundg (ts.length - (p + 1))
      case measure => omega
      case rel => exact ⟨p + 1, o + 1, n, sg, sv, by omega, by omega, by omega, Nat.le_refl _, H2, hS, hD, E2, K4⟩
    · rw [if_neg h40] at RF
      have h40' : isS ts [40] p = false := by simpa using h40
      rw [h40']
      have H40 := Lib.hid h40'
      obtain ⟨⟨x0, x1, x2, x3⟩, -⟩ := four HN3.out
      clear h40 h40'
      go_wp2_with fail
      refine (D.out ⟨#[45]⟩ w2).mono ?_
      rintro e w3 ⟨rfl, hb3⟩
      have HR4 := Lib.hid (HR3.out.below hb3)
      have HK4 := Lib.hid (HK3.out.trans (KeptR.below hb3))
      have HN4 := Lib.hid ((hb3.block _ (Array.getElem?_eq_some_iff.1 HN3.out).1).trans HN3.out)
      clear x0 x1 x2 x3 hb3 HR3 HK3 HN3 D
      obtain ⟨⟨x0, x1, x2, x3⟩, -⟩ := four HN4.out
      obtain ⟨⟨c0, c1, c2, c3, c4, c5⟩, f1, f2, f3, f4, f5⟩ := HR4.out.g.r.cells
      by_cases h45 : isS ts [45] p = true
      · have hlt := isS_lt h45
        have CW := wait_any ts rb a c p o n sg dn sv dv q (bNeg, 3 + o * 3) w3 HR4.out hlt
        rw [show (((bNeg, 3 + o * 3) : List UInt8 × Nat).2 : Int) = 3 + (o : Int) * 3 by simp] at CW
        have HCW := Lib.hid CW
        rw [if_pos h45] at RF
        rw [h45]
        clear h45 CW
        by_cases h32 : n = 32
        · rw [if_pos h32] at RF
          have G32 := Lib.hid h32
          clear h32
          go_wp2_with fail
          refine HCW.out.mono ?_
          rintro e w4 ⟨k4, hA, -⟩
          obtain ⟨rfl, r4⟩ := hA G32.out
          have P := Lib.hid (show FacR ts rb a c p0 r0 w (.returned (.int .i64 4)) w4 from ⟨HK4.out.trans k4, 4, p, o, n, sg, dn, sv, dv, q, rfl, r4, .inr ⟨by decide, RF.out⟩⟩)
          clear c0 c1 c2 c3 c4 c5 f1 f2 f3 f4 f5 x0 x1 x2 x3
          go_wp2_with fail
          go_ret
          exact P.out
        · rw [if_neg h32] at RF
          have G32 := Lib.hid h32
          clear h32
          go_wp2_with fail
          refine HCW.out.mono ?_
          rintro e w4 ⟨k4, -, hB⟩
          obtain ⟨rfl, sv', r4⟩ := hB G32.out
          have R5 := Lib.hid r4
          have K5 := Lib.hid (HK4.out.trans k4)
          have S5 := Lib.hid (show SgOk ((bNeg, 3 + o * 3) :: sg) from fun x hx => (List.mem_cons.1 hx).elim (fun e => .inl (by rw [e])) (hS.out x))
          have D5 := Lib.hid (show dn.length = bins ((bNeg, 3 + o * 3) :: sg) by rw [bins, if_pos rfl]; exact hD.out)
          have E5 := Lib.hid RF.out.symm
          clear c0 c1 c2 c3 c4 c5 f1 f2 f3 f4 f5 x0 x1 x2 x3 hB
          go_wp2_with fail
          go_roundg (ts.length - (p + 1))
          case measure => omega
          case rel => exact ⟨p + 1, o, n + 1, _, sv', by omega, by omega, by omega, Nat.le_refl _, R5, S5, D5, E5, K5⟩
      · rw [if_neg h45] at RF
        have h45' : isS ts [45] p = false := by simpa using h45
        rw [h45']
        clear h45 h45' H40
        by_cases hk2 : tk.kind = 2
        · obtain ⟨hm, hlt⟩ : 0 ≤ tk.num ∧ p < ts.length := by
            rcases hgt.out with h1 | ⟨h1, h2⟩
            · rw [h1] at hk2; exact absurd hk2 (by decide)
            · rcases h1 with ⟨h3, _⟩ | ⟨_, h3, _⟩ | h3
              · rw [h3] at hk2; exact absurd hk2 (by decide)
              · exact ⟨h3, h2⟩
              · rw [h3] at hk2; exact absurd hk2 (by decide)
          rw [if_pos ⟨hk2, hm⟩] at RF
          have CL := Lib.hid (leaf_any ts rb a c p o n sg dn sv dv q (numT tk.num) rfl w3 HR4.out hlt)
          have b1 : (tk.kind == 2) = true := by rw [hk2]; rfl
          have HK := Lib.hid hk2
          clear hk2
          by_cases h32 : n = 32
          · rw [if_pos h32] at RF
            have G32 := Lib.hid h32
            clear h32
            go_wp2_with fail
            refine CL.out.mono ?_
            rintro e w4 ⟨k4, hA, -⟩
            obtain ⟨rfl, r4⟩ := hA G32.out
            have P := Lib.hid (show FacR ts rb a c p0 r0 w (.returned (.int .i64 4)) w4 from ⟨HK4.out.trans k4, 4, p, o, n, sg, dn, sv, dv, q, rfl, r4, .inr ⟨by decide, RF.out⟩⟩)
            clear c0 c1 c2 c3 c4 c5 f1 f2 f3 f4 f5 x0 x1 x2 x3
            go_wp2_with fail
            go_ret
            exact P.out
          · rw [if_neg h32] at RF
            have G32 := Lib.hid h32
            clear h32
            go_wp2_with fail
            refine CL.out.mono ?_
            rintro e w4 ⟨k4, -, hB⟩
            obtain ⟨rfl, dv', q', r4⟩ := hB G32.out
            have P := Lib.hid (show FacR ts rb a c p0 r0 w (.returned (.int .i64 0)) w4 from ⟨HK4.out.trans k4, 0, p + 1, o, n + 1, sg, _, sv, dv', q', rfl, r4, .inl ⟨rfl, RF.out, hS.out, by rw [List.length_cons, hD.out], by omega, by omega⟩⟩)
            clear c0 c1 c2 c3 c4 c5 f1 f2 f3 f4 f5 x0 x1 x2 x3 hB
            go_wp2_with fail
            go_ret
            exact P.out
        · rw [if_neg (fun h => hk2 h.1)] at RF
          have b1 : (tk.kind == 2) = false := by simpa using hk2
          by_cases hk1 : tk.kind = 1
          · obtain ⟨hm, hlt⟩ : goodB tk.text = true ∧ p < ts.length := by
              rcases hgt.out with h1 | ⟨h1, h2⟩
              · rw [h1] at hk1; exact absurd hk1 (by decide)
              · rcases h1 with ⟨_, h3⟩ | ⟨h3, _⟩ | h3
                · exact ⟨h3, h2⟩
                · rw [h3] at hk1; exact absurd hk1 (by decide)
                · rw [h3] at hk1; exact absurd hk1 (by decide)
            rw [if_pos ⟨hk1, hm⟩] at RF
            have b2 : (tk.kind == 1) = true := by rw [hk1]; rfl
            have CL := fun w4 (h : RG ts rb a c p o n sg dn sv dv q w4) => leaf_any ts rb a c p o n sg dn sv dv q (nameT tk.text) rfl w4 h hlt
            have CX : (nameT tk.text).nm = X := HX.out
            rw [CX] at CL
            have HCL := Lib.hid CL
            have NM := Lib.hid (fun w => wName_any X (by rw [← HX.out]; have := good_len hm; show tk.text.toArray.size ≤ _; rw [List.size_toArray]; omega) w)
            have NM2 : goodB X.data.toList = true := by rw [← HX.out]; simpa using hm
            rw [NM2] at NM
            clear hk1 hk2 CL CX NM2 hm
            have PB := Lib.hid (p := ∀ w4, KeptR rb w3 w4 → RG ts rb a c p o n sg dn sv dv q w4 → n = 32 → FacR ts rb a c p0 r0 w (.returned (.int .i64 4)) w4) (fun w4 k4 r4 h32 => ⟨HK4.out.trans k4, 4, p, o, n, sg, dn, sv, dv, q, rfl, r4, .inr ⟨by decide, by rw [RF.out, if_pos h32]⟩⟩)
            have PG := Lib.hid (p := ∀ w4 dv' q', KeptR rb w3 w4 → ¬ n = 32 → RG ts rb a c (p + 1) o (n + 1) sg (nameT tk.text :: dn) sv dv' q' w4 → FacR ts rb a c p0 r0 w (.returned (.int .i64 0)) w4) (fun w4 dv' q' k4 h32 r4 => ⟨HK4.out.trans k4, 0, p + 1, o, n + 1, sg, _, sv, dv', q', rfl, r4, .inl ⟨rfl, by rw [RF.out, if_neg h32], hS.out, by rw [List.length_cons, hD.out], by omega, by omega⟩⟩)
            go_wp2_with fail
            refine (NM.out _).mono ?_
            rintro e w4 ⟨rfl, rfl⟩
            go_wp2_with fail
            refine (HCL.out _ HR4.out).mono ?_
            rintro e w4 ⟨k4, hA, hB⟩
            by_cases h32 : n = 32
            · obtain ⟨rfl, r4⟩ := hA h32
              have P := Lib.hid (PB.out w4 k4 r4 h32)
              clear c0 c1 c2 c3 c4 c5 f1 f2 f3 f4 f5 x0 x1 x2 x3 hA hB h32
              go_wp2_with fail
              go_ret
              exact P.out
            · obtain ⟨rfl, dv', q', r4⟩ := hB h32
              have P := Lib.hid (PG.out w4 dv' q' k4 h32 r4)
              clear c0 c1 c2 c3 c4 c5 f1 f2 f3 f4 f5 x0 x1 x2 x3 hA hB h32
              go_wp2_with fail
              go_ret
              exact P.out
          · rw [if_neg (fun h => hk1 h.1)] at RF
            have b2 : (tk.kind == 1) = false := by simpa using hk1
            have P := Lib.hid (show FacR ts rb a c p0 r0 w (.returned (.int .i64 2)) w3 from ⟨HK4.out, 2, p, o, n, sg, dn, sv, dv, q, rfl, HR4.out, .inr ⟨by decide, RF.out⟩⟩)
            clear hk1 hk2
            go_wp2_with fail
            go_ret
            exact P.out

end Go.Proofs.YteegdemnajhehaaGreatDoor

namespace Go.Proofs.YteegdemnajhehaaGreatDoor
open Go.RowKit

def SumR (ts : List Tk) (rb : Nat) (a : Option Addr) (c : Nat) (r0 : RunEnd) (w0 : World) (e : Ending) (w' : World) : Prop :=
  KeptR rb w0 w' ∧ ∃ (er : Int) (p o n : Nat) (sg : List (List UInt8 × Nat)) (dn : List TN) (sv dv : Value) (q : List (Option Addr × Nat)), e = .returned (.int .i64 er) ∧ RG ts rb a c p o n sg dn sv dv q w' ∧
    ((er = 0 ∧ r0 = .ok ⟨p, o, n, sg, dn⟩ ∧ SgOk sg ∧ dn.length = bins sg + 1) ∨ (er ≠ 0 ∧ r0 = .bad p er))

theorem bet_any (ts : List Tk) (p : Nat) (w : World) : Calls Tryz.prog 59 #[tkG (tkAt ts p)] w fun e w' => e = .returned (.int .i64 (holdsAt ts p : Nat)) ∧ Below w.heap.size w w' := by
  have h := between_any (tkAt ts p).kind ⟨(tkAt ts p).text.toArray⟩ (tkAt ts p).num (tkAt ts p).place w
  have e : betB (tkAt ts p).kind (⟨(tkAt ts p).text.toArray⟩ : ByteArray).data.toList = holdsAt ts p := tkAt_bet ts p
  rw [e] at h
  exact h

theorem holds_sign {ts : List Tk} {p : Nat} (h : ¬ holdsAt ts p = 0) : signO (opAt ts p) ∧ p < ts.length ∧ holdsAt ts p ≤ 2 := by
  unfold holdsAt at h ⊢
  by_cases hA : isA ts p = true
  · rw [if_pos hA]; exact ⟨opA hA, isA_lt hA, by omega⟩
  · rw [if_neg hA] at h ⊢
    by_cases hM : isM ts p = true
    · rw [if_pos hM]; exact ⟨opM hM, isM_lt hM, by omega⟩
    · rw [if_neg hM] at h; exact absurd rfl h

theorem field_text (k m pl : Int) (X : ByteArray) (w : World) : (Instr.field 74 (.agg #[.int .i64 k, .string X, .int .i64 m, .int .i64 pl]) 1).run Tryz.prog w = .ok (.string X) w := by
  simp [Instr.field, go_sem, asAgg]

set_option maxHeartbeats 8000000 in
set_option maxRecDepth 100000 in
theorem sum_any' (ts : List Tk) (hL : ∀ t ∈ ts, GoodTk t) (rb : Nat) (a : Option Addr) (c p0 o0 n0 : Nat) (sg0 : List (List UInt8 × Nat)) (dn0 : List TN) (sv0 dv0 : Value) (q0 : List (Option Addr × Nat)) (w : World) (H : RG ts rb a c p0 o0 n0 sg0 dn0 sv0 dv0 q0 w) (hs : SgOk sg0) (hd : dn0.length = bins sg0) (ho : o0 ≤ p0) :
    Calls Tryz.prog 38 #[.pointer (some ⟨rb, 0, none⟩)] w (SumR ts rb a c (runE ts true ⟨p0, o0, n0, sg0, dn0⟩) w) := by
  obtain ⟨r0, hr0⟩ : ∃ r, runE ts true ⟨p0, o0, n0, sg0, dn0⟩ = r := ⟨_, rfl⟩
  rw [hr0]
  have K0 := Lib.hid (KeptR.refl rb w)
  have HR := Lib.hid H
  have HS := Lib.hid hs
  have HD := Lib.hid hd
  have HE := Lib.hid hr0
  have HL := Lib.hid hL
  have hn : ts.length ≤ 100000 := H.g.hl
  have hp0 := H.g.hp
  clear hs hd hr0 H hL
  go_enter Tryz.func38, Tryz.ntmps38
  go_wp2_with fail
  go_loopg [] ts.length (fun g wr => ∃ (p o n : Nat) (sg : List (List UInt8 × Nat)) (dn : List TN) (sv dv : Value) (q : List (Option Addr × Nat)), o ≤ p ∧ p ≤ ts.length ∧ ts.length - p ≤ g ∧ Hid (RG ts rb a c p o n sg dn sv dv q wr) ∧ Hid (SgOk sg) ∧ Hid (dn.length = bins sg) ∧ Hid (runE ts true ⟨p, o, n, sg, dn⟩ = r0) ∧ Hid (KeptR rb w wr))
  case atStart => exact ⟨p0, o0, n0, sg0, dn0, sv0, dv0, q0, ho, hp0, Nat.sub_le _ _, HR, HS, HD, HE, K0⟩
  case round =>
    obtain ⟨p, o, n, sg, dn, sv, dv, q, hop, hpl, hg, hR, hS, hD, hE, hK⟩ := hrel
    have CF := Lib.hid (factor_any ts HL.out rb a c p o n sg dn sv dv q wr hR.out hS.out hD.out hop)
    rw [hE.out] at CF
    clear hR hS hD hE
    go_wp2_with fail
    refine CF.out.mono ?_
    rintro e w1 ⟨k1, er, p1, o1, n1, sg1, dn1, sv1, dv1, q1, rfl, R1, h⟩
    rcases h with ⟨rfl, hE1, S1, D1, hp1, ho1⟩ | ⟨hne, hE1⟩
    · have HR1 := Lib.hid R1
      have HE1 := Lib.hid hE1
      have HS1 := Lib.hid S1
      have HD1 := Lib.hid D1
      have HK1 := Lib.hid (hK.out.trans k1)
      clear R1 hE1 S1 D1 k1 hK CF
      go_wp2_with fail
      refine (shut_any ts rb a c p1 o1 n1 sg1 dn1 sv1 dv1 q1 w1 HR1.out).mono ?_
      rintro e w2 ⟨rfl, k2, p2, o2, R2, hp2, ho2, hE2, hno⟩
      have hpl2 : p2 ≤ ts.length := R2.g.hp
      have RF := runE_beh (L := ts) (s := ⟨p2, o2, n1, sg1, dn1⟩) hpl2
      simp only at RF
      rw [if_neg (fun hh => by rw [hno hh.1] at hh; exact absurd hh.2 (by decide)), hE2, ← HE1.out] at RF
      have HRF := Lib.hid RF
      have HR2 := Lib.hid R2
      have HK2 := Lib.hid (HK1.out.trans k2)
      have CN := Lib.hid (fun w (h : RG ts rb a c p2 o2 n1 sg1 dn1 sv1 dv1 q1 w) => next_any ts rb a c p2 o2 n1 sv1 dv1 w h.g)
      have CB := Lib.hid (fun w => bet_any ts p2 w)
      obtain ⟨hh, hhh⟩ : ∃ x, holdsAt ts p2 = x := ⟨_, rfl⟩
      have hsg := @holds_sign ts p2
      rw [hhh] at HRF CB hsg
      have HSG := Lib.hid hsg
      clear R2 k2 RF hE2 hno HE1 HR1 HK1 hsg hhh
      go_wp2_with fail
      refine (CN.out w2 HR2.out).mono ?_
      rintro e w3 ⟨rfl, b3⟩
      have HR3 := Lib.hid (HR2.out.below b3)
      have HK3 := Lib.hid (HK2.out.trans (KeptR.below b3))
      clear b3 HR2 HK2
      go_wp2_with fail
      refine (CB.out w3).mono ?_
      rintro e w4 ⟨rfl, b4⟩
      have HR4 := Lib.hid (HR3.out.below b4)
      have HK4 := Lib.hid (HK3.out.trans (KeptR.below b4))
      clear b4 HR3 HK3 CB
      by_cases h0 : hh = 0
      · rw [if_pos h0] at HRF
        have a1 : ((hh : Int) == 0) = true := by rw [h0]; rfl
        have CE := Lib.hid (end_any ts rb a c p2 o2 n1 sv1 dv1 w4 HR4.out.g)
        have P := Lib.hid (p := ∀ x : Int, x = (if 0 < o2 then 2 else 0) → SumR ts rb a c r0 w (.returned (.int .i64 x)) w4) (fun x hx => ⟨HK4.out, x, p2, o2, n1, sg1, dn1, sv1, dv1, q1, rfl, HR4.out, by
          by_cases h2 : 0 < o2
          · rw [if_pos h2] at hx
            refine .inr ⟨by rw [hx]; decide, ?_⟩
            rw [HRF.out, if_pos h2, hx]
          · rw [if_neg h2] at hx
            refine .inl ⟨hx, ?_, HS1.out, HD1.out⟩
            rw [HRF.out, if_neg h2]⟩)
        clear h0 CN
        go_wp2_with fail
        refine CE.out.mono ?_
        rintro e w5 ⟨rfl, rfl⟩
        generalize hx : (if 0 < o2 then (2 : Int) else 0) = x at P ⊢
        have P2 := Lib.hid (P.out x rfl)
        clear P hx
        go_wp2_with fail
        go_ret
        exact P2.out
      · rw [if_neg h0] at HRF
        obtain ⟨hso, hlt, h2⟩ := HSG.out h0
        have HSO := Lib.hid hso
        have a1 : ((hh : Int) == 0) = false := by rw [beq_eq_false_iff_ne]; omega
        have ho100 : o2 ≤ 100000 := by omega
        have CJ := Lib.hid (join_any ts rb a c p2 o2 n1 (hh + o2 * 3) sg1 dn1 sv1 dv1 q1 w4 HR4.out HS1.out HD1.out)
        rw [show ((hh + o2 * 3 : Nat) : Int) = (hh : Int) + (o2 : Int) * 3 by simp] at CJ
        have JB := Lib.hid (join_bal (h := hh + o2 * 3) HS1.out HD1.out)
        obtain ⟨⟨J1, J2⟩, hJ⟩ : ∃ r, joinS (hh + o2 * 3) sg1 dn1 = r := ⟨_, rfl⟩
        rw [hJ] at CJ JB HRF
        simp only at JB HRF
        obtain ⟨⟨c0, c1, c2, c3, c4, c5⟩, f1, f2, f3, f4, f5⟩ := HR4.out.g.r.cells
        clear h0 hJ hso HSG
        go_wp2_with fail
        refine CJ.out.mono ?_
        rintro e w5 ⟨rfl, k5, sv5, dv5, q5, R5⟩
        have HR5 := Lib.hid R5
        have HK5 := Lib.hid (HK4.out.trans k5)
        have CN2 := Lib.hid (next_any ts rb a c p2 o2 n1 sv5 dv5 w5 R5.g)
        obtain ⟨tk, htk⟩ : ∃ t, tkAt ts p2 = t := ⟨_, rfl⟩
        have hop2 := tkAt_op ts p2
        rw [htk] at CN2 hop2
        obtain ⟨X, hX⟩ : ∃ X : ByteArray, ⟨tk.text.toArray⟩ = X := ⟨_, rfl⟩
        have hag : tkG tk = .agg #[.int .i64 tk.kind, .string X, .int .i64 tk.num, .int .i64 tk.place] := by rw [← hX]; rfl
        rw [hag] at CN2
        have CW := fun w (h : RG ts rb a c p2 o2 n1 J1 J2 sv5 dv5 q5 w) => wait_any ts rb a c p2 o2 n1 J1 J2 sv5 dv5 q5 (opAt ts p2, hh + o2 * 3) w h hlt
        have e1 : (⟨(opAt ts p2).toArray⟩ : ByteArray) = X := by rw [← hop2]; exact hX
        have e2 : (((opAt ts p2, hh + o2 * 3) : List UInt8 × Nat).2 : Int) = (hh : Int) + (o2 : Int) * 3 := by simp
        simp only [e1, e2] at CW
        have HCW := Lib.hid CW
        clear R5 k5 CJ c0 c1 c2 c3 c4 c5 f1 f2 f3 f4 f5 HR4 HK4 htk hX hop2 hag e1 e2 CW CN
        go_wp2_with fail
        refine CN2.out.mono ?_
        rintro e w6 ⟨rfl, b6⟩
        have HR6 := Lib.hid (HR5.out.below b6)
        have HK6 := Lib.hid (HK5.out.trans (KeptR.below b6))
        clear b6 HR5 HK5 CN2
        go_wp2_with fail
        rw [field_text]
        simp only [Result.andThen]
        rw [Oper.upon_value]
        go_wp2_with fail
        refine (HCW.out w6 HR6.out).mono ?_
        rintro e w7 ⟨k7, hA, hB⟩
        by_cases h32 : n1 = 32
        · obtain ⟨rfl, r7⟩ := hA h32
          have P := Lib.hid (show SumR ts rb a c r0 w (.returned (.int .i64 4)) w7 from ⟨HK6.out.trans k7, 4, p2, o2, n1, J1, J2, sv5, dv5, q5, rfl, r7, .inr ⟨by decide, by rw [HRF.out, if_pos h32]⟩⟩)
          clear hA hB h32
          go_wp2_with fail
          go_ret
          exact P.out
        · obtain ⟨rfl, sv', r7⟩ := hB h32
          have R8 := Lib.hid r7
          have K8 := Lib.hid (HK6.out.trans k7)
          have S8 := Lib.hid (show SgOk ((opAt ts p2, hh + o2 * 3) :: J1) from fun x hx => (List.mem_cons.1 hx).elim (fun e => .inr (by rw [e]; exact HSO.out)) (JB.out.1 x))
          have D8 := Lib.hid (show J2.length = bins ((opAt ts p2, hh + o2 * 3) :: J1) by rw [bins, if_neg (arity_sign HSO.out).2]; exact JB.out.2)
          have E8 := Lib.hid (show runE ts true ⟨p2 + 1, o2, n1 + 1, (opAt ts p2, hh + o2 * 3) :: J1, J2⟩ = r0 by rw [HRF.out, if_neg h32])
          clear hA hB h32
          go_wp2_with fail
          go_roundg (ts.length - (p2 + 1))
          case measure => omega
          case rel => exact ⟨p2 + 1, o2, n1 + 1, _, J2, sv', dv5, q5, by omega, by omega, Nat.le_refl _, R8, S8, D8, E8, K8⟩
    · have b1 : ((er : Int) != 0) = true := by simpa using hne
      have P := Lib.hid (show SumR ts rb a c r0 w (.returned (.int .i64 er)) w1 from ⟨hK.out.trans k1, er, p1, o1, n1, sg1, dn1, sv1, dv1, q1, rfl, R1, .inr ⟨hne, hE1⟩⟩)
      clear hne hE1 R1 k1
      go_wp2_with fail
      go_ret
      exact P.out

end Go.Proofs.YteegdemnajhehaaGreatDoor
