/-
  No statement: bytes opened and decoded; what is known.
-/
import Derived.Test.YtfenfgbkphpboaaJEncs
import Derived.Test.YtfenfgbkphpboaaJTakes
import Derived.Test.YtfenfgbkphpboaaCRSeal
import Derived.Test.YtfenfgbkphpboaaWSame
namespace Go.Proofs.Ytfenfgbkphpboaa
open Go.RowKit

/-- Open of any bytes. -/
theorem openAny_any (a : Option Addr) (c : Nat) (l : List UInt8) (hl : l.length ≤ 100000000000) (w : World) (h : BR w a c l) :
    Calls Try.prog 78 #[.slice a l.length c] w (OutE w (openF l)) := by
  unfold openF
  by_cases h4 : l.length < 4
  · rw [if_pos h4]
    exact (openShort_any a l.length c h4 w).mono fun e w' ⟨he, hw⟩ => by
      subst hw
      exact ⟨⟨none, 0, he, BR.nil' _⟩, Below.refl _ _⟩
  · rw [if_neg h4]
    have hp : (l.take (l.length - 4)).length = l.length - 4 := by rw [List.length_take]; omega
    have hq : (l.drop (l.length - 4)).length = 4 := by rw [List.length_drop]; omega
    have C := open_any a (l.length - 4) c (l.take (l.length - 4)) (l.drop (l.length - 4)) hp hq (by omega) w (by rw [List.take_append_drop]; exact h)
    rw [show l.length - 4 + 4 = l.length by omega] at C
    refine C.mono fun e w' ⟨h1, hb⟩ => ⟨?_, hb⟩
    by_cases hv : valB (l.drop (l.length - 4)) = crc (l.take (l.length - 4))
    · rw [if_pos hv] at h1 ⊢
      obtain ⟨a2, c2, he, ho⟩ := h1
      exact ⟨a2, c2, he, ho.br⟩
    · rw [if_neg hv] at h1 ⊢
      exact ⟨none, 0, h1, BR.nil' _⟩

/-- A row and an error. -/
def OutR (w : World) (r : RD × Int) (e : Ending) (w' : World) : Prop := (∃ a c, e = .returned (.tuple #[.agg #[.string r.1.key, .int .i64 r.1.t, .int .i64 r.1.i, .int .i64 r.1.q, .string r.1.o, .slice a r.1.len c], .int .i64 r.2]) ∧ ReadsAG (fun k => w.heap.size < k) w' a r.1.len r.1.A) ∧ Below w.heap.size w w'
/-- Rows and an error. -/
def OutRs (w : World) (r : List RD × Int) (e : Ending) (w' : World) : Prop := (∃ a c, e = .returned (.tuple #[.slice a r.1.length c, .int .i64 r.2]) ∧ ReadsR w' a r.1.length (atR r.1)) ∧ Below w.heap.size w w'

theorem keptFrom {w0 w w' : World} {q : Nat} (hb : Below w0.heap.size w0 w) (hk : Kept (· = q) w w') (hq : w0.heap.size ≤ q) : Below w0.heap.size w0 w' :=
  hb.trans (hk.below (fun k h => by omega) hb.size)

set_option maxHeartbeats 8000000 in
set_option maxRecDepth 100000 in
theorem openRs_any (a : Option Addr) (c : Nat) (l : List UInt8) (hl : l.length ≤ 4000000) (w : World) (h : BR w a c l) :
    Calls Try.prog 64 #[.slice a l.length c, .func (.func 65) #[] #[], .func (.func 62) #[] #[]] w (OutRs w (decodeRs l)) := by
  have OP := Lib.hid (openAny_any a c l (by omega) w h)
  have hlen := openF_len l
  have hD : decodeRs l = if (openF l).2 = 0 then allOf [] (dRows ((openF l).1, 0)) errRows else ([], (openF l).2) := rfl
  obtain ⟨⟨p, er⟩, hp⟩ : ∃ r, openF l = r := ⟨_, rfl⟩
  rw [hp] at OP hlen hD
  simp only at OP hlen hD
  obtain ⟨X, hX⟩ : ∃ X, decodeRs l = X := ⟨_, rfl⟩
  rw [hX] at hD ⊢
  have HX := Lib.hid hD
  clear hp hD h hX
  by_cases he : er = 0
  · subst he
    have hsz := dRows_sz (p, 0)
    have hln := dRows_len (p, 0)
    have TK := Lib.hid (fun q (F : Nat → Prop) w (hF : ∀ k, F k → k < w.heap.size) (hd : DecH w q F (p, 0)) => takeRows_any q F (p, 0) w hF hd)
    have hA : X = allOf [] (dRows (p, 0)) errRows := by rw [HX.out, if_pos rfl]
    obtain ⟨⟨L, D⟩, hL⟩ : ∃ r, dRows (p, 0) = r := ⟨_, rfl⟩
    rw [hL] at hsz hln TK hA
    simp only at hsz hln TK
    unfold allOf at hA
    simp only at hA
    have HA := Lib.hid hA
    have HS := Lib.hid (show ∀ j, j < L.length → SzR 4000000 (atR L j) ∨ FewR (atR L j) from fun j hj => .inl (by
      have := hsz (L[j]) (List.getElem_mem hj)
      have e : atR L j = L[j] := by unfold atR; rw [List.getD_eq_getElem?_getD, List.getElem?_eq_getElem hj]; rfl
      rw [e]
      exact this.mono (by show p.length ≤ _; omega)))
    clear hL hsz hA HX
    go_enter Try.func64, Try.ntmps64
    go_wp2_with fail
    refine OP.out.mono ?_
    rintro e w2 ⟨⟨a2, c2, rfl, hbr⟩, hb2⟩
    have B2 := Lib.hid hb2
    have OF := Lib.hid (of_any a2 c2 p (by omega) w2 hbr)
    clear hb2 hbr OP
    go_wp2_with fail
    refine OF.out.mono ?_
    rintro e w3 ⟨q, rfl, hd3, hb3⟩
    have B3 := Lib.hid (B2.out.trans (hb3.mono B2.out.size))
    have hq : w.heap.size ≤ q := Nat.le_trans B2.out.size hd3.at.1
    have T3 := Lib.hid (TK.out q _ w3 (fun k hk => hk.2) hd3)
    clear hb3 hd3 OF TK
    go_wp2_with fail
    refine T3.out.mono ?_
    rintro e w4 ⟨⟨a4, c4, rfl, hr4⟩, hd4, hk4⟩
    have B4 := Lib.hid (keptFrom B3.out hk4 hq)
    have R4 := Lib.hid (show ReadsR w4 a4 L.length (atR L) from hr4.mono (fun k _ h => h))
    have ER := Lib.hid (decErr_any q _ D w4 hd4)
    have LE := Lib.hid (decLeft_any q _ D w4 hd4)
    clear hr4 hd4 hk4 T3
    obtain ⟨D1, er2⟩ := D
    simp only at ER LE HA
    go_wp2_with fail
    refine ER.out.mono ?_
    rintro e w5 ⟨rfl, rfl⟩
    by_cases he2 : er2 = 0
    · subst he2
      go_wp2_with fail
      refine LE.out.mono ?_
      rintro e w5 ⟨rfl, rfl⟩
      by_cases hD1 : D1 = []
      · subst hD1
        have CK := Lib.hid (checkRows_any a4 L.length c4 (atR L) HS.out (by omega) w5 R4.out)
        rw [tkR_atR] at CK
        obtain ⟨q3, hq3⟩ : ∃ q, errRows L = q := ⟨_, rfl⟩
        rw [hq3] at CK
        have HQ := Lib.hid hq3
        clear hq3
        by_cases h0 : q3 = 0
        · subst h0
          go_wp2_with fail
          refine CK.out.mono ?_
          rintro e w6 ⟨rfl, hb6⟩
          have P := Lib.hid (show OutRs w X (.returned (.tuple #[.slice a4 L.length c4, .int .i64 0])) w6 by
            rw [HA.out, if_pos trivial, if_pos trivial, if_pos HQ.out]
            exact ⟨⟨a4, c4, rfl, R4.out.below hb6⟩, B4.out.trans (hb6.mono B4.out.size)⟩)
          clear hb6 CK
          go_wp2_with fail
          go_ret2
          exact P.out
        · have h0' : (q3 == 0) = false := by simpa using h0
          have HN := Lib.hid h0
          clear h0
          go_wp2_with fail
          refine CK.out.mono ?_
          rintro e w6 ⟨rfl, hb6⟩
          have P := Lib.hid (show OutRs w X (.returned (.tuple #[.slice none 0 0, .int .i64 q3])) w6 by
            rw [HA.out, if_pos trivial, if_pos trivial, if_neg (by rw [HQ.out]; exact HN.out), HQ.out]
            exact ⟨⟨none, 0, rfl, ⟨Nat.zero_le _, .inl rfl⟩⟩, B4.out.trans (hb6.mono B4.out.size)⟩)
          clear hb6 CK
          go_wp2_with fail
          go_ret2
          exact P.out
      · have hpos : 0 < D1.length := List.length_pos_iff.2 hD1
        have P := Lib.hid (show OutRs w X (.returned (.tuple #[.slice none 0 0, .int .i64 2])) w5 by
          rw [HA.out, if_pos trivial, if_neg hD1]
          exact ⟨⟨none, 0, rfl, ⟨Nat.zero_le _, .inl rfl⟩⟩, B4.out⟩)
        clear hD1
        go_wp2_with fail
        go_ret2
        exact P.out
    · have he2' : (er2 == 0) = false := by simpa using he2
      have P := Lib.hid (show OutRs w X (.returned (.tuple #[.slice none 0 0, .int .i64 er2])) w5 by
        rw [HA.out, if_neg he2]
        exact ⟨⟨none, 0, rfl, ⟨Nat.zero_le _, .inl rfl⟩⟩, B4.out⟩)
      clear he2
      go_wp2_with fail
      go_ret2
      exact P.out
  · have he' : (er == 0) = false := by simpa using he
    have HN := Lib.hid he
    clear he
    go_enter Try.func64, Try.ntmps64
    go_wp2_with fail
    refine OP.out.mono ?_
    rintro e w2 ⟨⟨a2, c2, rfl, hbr⟩, hb2⟩
    have P := Lib.hid (show OutRs w X (.returned (.tuple #[.slice none 0 0, .int .i64 er])) w2 by
      rw [HX.out, if_neg HN.out]
      exact ⟨⟨none, 0, rfl, ⟨Nat.zero_le _, .inl rfl⟩⟩, hb2⟩)
    clear hb2 hbr OP
    go_wp2_with fail
    go_ret2
    exact P.out

set_option maxHeartbeats 2000000 in
theorem rows_any (a : Option Addr) (c : Nat) (l : List UInt8) (hl : l.length ≤ 4000000) (w : World) (h : BR w a c l) :
    Calls Try.prog 30 #[.slice a l.length c] w (OutRs w (decodeRs l)) := by
  have C := Lib.hid (openRs_any a c l hl w h)
  obtain ⟨⟨L, er⟩, hr⟩ : ∃ r, decodeRs l = r := ⟨_, rfl⟩
  rw [hr] at C ⊢
  clear h hr
  go_enter Try.func30, Try.ntmps30
  go_wp2_with fail
  refine C.out.mono ?_
  rintro e w2 ⟨⟨a2, c2, rfl, hb⟩, hbl⟩
  have P := Lib.hid (show OutRs w (L, er) (.returned (.tuple #[.slice a2 L.length c2, .int .i64 er])) w2 from ⟨⟨a2, c2, rfl, hb⟩, hbl⟩)
  clear hb hbl
  go_wp2_with fail
  go_ret2
  exact P.out

end Go.Proofs.Ytfenfgbkphpboaa

namespace Go.Proofs.Ytfenfgbkphpboaa
open Go.RowKit

set_option maxHeartbeats 16000000 in
set_option maxRecDepth 100000 in
theorem openR_any (a : Option Addr) (c : Nat) (l : List UInt8) (hl : l.length ≤ 1000000) (w : World) (h : BR w a c l) :
    Calls Try.prog 60 #[.slice a l.length c, .func (.func 21) #[] #[], .func (.func 59) #[] #[]] w (OutR w (decodeR l)) := by
  have OP := Lib.hid (fun W (hb : Below w.heap.size w W) => openAny_any a c l (by omega) W (h.kept hb))
  have hlen := openF_len l
  have hD : decodeR l = if (openF l).2 = 0 then allOf zR (dRow ((openF l).1, 0)) errR else (zR, (openF l).2) := rfl
  obtain ⟨⟨p, er⟩, hp⟩ : ∃ r, openF l = r := ⟨_, rfl⟩
  rw [hp] at OP hlen hD
  simp only at OP hlen hD
  obtain ⟨X, hX⟩ : ∃ X, decodeR l = X := ⟨_, rfl⟩
  rw [hX] at hD ⊢
  have HX := Lib.hid hD
  clear hp hD h hX
  go_enter Try.func60, Try.ntmps60
  go_upto_region 2 with fail
  generalize hW : World.alloc (World.alloc w _) _ = W
  have B0 := Lib.hid (show Below w.heap.size w W by rw [← hW]; exact (below_new w _).alloc (by simp) _)
  have R0 := Lib.hid (show W.heap[w.heap.size]? = some (.cells #[.string ⟨#[]⟩, .int .i64 0, .int .i64 0, .int .i64 0, .string ⟨#[]⟩, .slice none 0 0] 29 (0, 0)) by rw [← hW]; exact (Below.heap_alloc _ _ _ (by simp)).trans (heap_alloc_new w _))
  have N0 := Lib.hid (show W.heap[w.heap.size + 1]? = some (.cells #[.string ⟨#[]⟩, .int .i64 0, .int .i64 0, .int .i64 0, .string ⟨#[]⟩, .slice none 0 0] 29 (0, 0)) by
    rw [← hW]
    have := heap_alloc_new (w.alloc (.cells #[.string ⟨#[]⟩, .int .i64 0, .int .i64 0, .int .i64 0, .string ⟨#[]⟩, .slice none 0 0] 29)) (.cells #[.string ⟨#[]⟩, .int .i64 0, .int .i64 0, .int .i64 0, .string ⟨#[]⟩, .slice none 0 0] 29)
    rwa [World.size_alloc] at this)
  have OW := Lib.hid (OP.out W B0.out)
  clear hW OP
  by_cases he : er = 0
  · subst he
    have hsz := dRow_sz (p, 0)
    have TK := Lib.hid (fun q (F : Nat → Prop) w (hF : ∀ k, F k → k < w.heap.size) (hd : DecH w q F (p, 0)) => takeRow_any q F (p, 0) w hF hd)
    have hA : X = allOf zR (dRow (p, 0)) errR := by rw [HX.out, if_pos rfl]
    obtain ⟨⟨x, D⟩, hL⟩ : ∃ r, dRow (p, 0) = r := ⟨_, rfl⟩
    rw [hL] at hsz TK hA
    simp only at hsz TK
    unfold allOf at hA
    simp only at hA
    have HA := Lib.hid hA
    have hpl : (p, (0 : Int)).1.length ≤ 1000000 := by show p.length ≤ _; omega
    have HS := Lib.hid (hsz.mono hpl)
    clear hL hsz hA HX hpl
    go_wp2_with fail
    refine OW.out.mono ?_
    rintro e w2 ⟨⟨a2, c2, rfl, hbr⟩, hb2⟩
    have B2 := Lib.hid (B0.out.trans (hb2.mono B0.out.size))
    have R2 := Lib.hid ((hb2.block _ (lt_of_block R0.out)).trans R0.out)
    have N2 := Lib.hid ((hb2.block _ (lt_of_block N0.out)).trans N0.out)
    have OF := Lib.hid (of_any a2 c2 p (by omega) w2 hbr)
    clear hb2 hbr OW
    go_wp2_with fail
    refine OF.out.mono ?_
    rintro e w3 ⟨q, rfl, hd3, hb3⟩
    have B3 := Lib.hid (B2.out.trans (hb3.mono B2.out.size))
    have hq2 : w2.heap.size ≤ q := hd3.at.1
    have hn2 := lt_of_block N2.out
    have R3 := Lib.hid ((hb3.block _ (lt_of_block R2.out)).trans R2.out)
    have N3 := Lib.hid ((hb3.block _ (lt_of_block N2.out)).trans N2.out)
    have T3 := Lib.hid (TK.out q _ w3 (fun k hk => hk.2) hd3)
    clear hb3 hd3 OF TK
    go_wp2_with fail
    refine T3.out.mono ?_
    rintro e w4 ⟨⟨y, c5, rfl, hr4⟩, hd4, hk4⟩
    have B4 := Lib.hid (keptFrom B3.out hk4 (by omega))
    have R4 := Lib.hid (hk4.heap R3.out (by omega))
    have N4 := Lib.hid (hk4.heap N3.out (by omega))
    have A4 := Lib.hid (hr4.mono (H := fun k => w.heap.size < k) (fun k h _ => by have := lt_of_block R3.out; omega))
    have D4 := Lib.hid hd4
    clear hr4 hd4 hk4 T3
    go_upto_region 7 with fail
    generalize hW : World.alloc w4 _ = V
    have BW := Lib.hid (show Below w.heap.size w V by rw [← hW]; exact B4.out.alloc B4.out.size _)
    have ZR := Lib.hid (show V.heap[w.heap.size]? = some (.cells #[.string ⟨#[]⟩, .int .i64 0, .int .i64 0, .int .i64 0, .string ⟨#[]⟩, .slice none 0 0] 29 (0, 0)) by rw [← hW]; exact ((below_new w4 _).block _ (lt_of_block R4.out)).trans R4.out)
    have ZN := Lib.hid (show V.heap[w.heap.size + 1]? = some (.cells #[.string ⟨#[]⟩, .int .i64 0, .int .i64 0, .int .i64 0, .string ⟨#[]⟩, .slice none 0 0] 29 (0, 0)) by rw [← hW]; exact ((below_new w4 _).block _ (lt_of_block N4.out)).trans N4.out)
    have XV := Lib.hid (show V.heap[w4.heap.size]? = some (.cells #[.string x.key, .int .i64 x.t, .int .i64 x.i, .int .i64 x.q, .string x.o, .slice y x.len c5] 29 (0, 0)) by rw [← hW]; exact heap_alloc_new w4 _)
    have AV := Lib.hid (show ReadsAG (fun k => w.heap.size < k) V y x.len x.A by rw [← hW]; exact A4.out.kept (keptNew (below_new w4 _)) (fun _ _ h => h))
    have DV := Lib.hid (show DecH V q _ D by rw [← hW]; exact D4.out.kept (keptNew (below_new w4 _)) (fun _ _ h => h))
    have ER := Lib.hid (decErr_any q _ D V DV.out)
    have LE := Lib.hid (decLeft_any q _ D V DV.out)
    have hxs : w.heap.size < w4.heap.size := lt_of_block R4.out
    clear hW B3 R2 R3 N2 N3 N4 A4 D4 B0 B2 R0 N0 DV
    obtain ⟨D1, er2⟩ := D
    simp only at ER LE HA
    go_wp2_with fail
    refine ER.out.mono ?_
    rintro e w5 ⟨rfl, rfl⟩
    by_cases he2 : er2 = 0
    · subst he2
      go_wp2_with fail
      refine LE.out.mono ?_
      rintro e w5 ⟨rfl, rfl⟩
      by_cases hD1 : D1 = []
      · subst hD1
        have hks := HS.out.k
        have hos := HS.out.o
        have CK := Lib.hid (wCheck_any x y c5 (by omega) (by omega) (fun j hj => ⟨by have := (HS.out.a j hj).1; omega, by have := (HS.out.a j hj).2; omega⟩) w5 AV.out.plain)
        obtain ⟨q3, hq3⟩ : ∃ q, errR x = q := ⟨_, rfl⟩
        rw [hq3] at CK
        have HQ := Lib.hid hq3
        obtain ⟨v0, v1, v2, v3, v4, v5⟩ := box6 XV.out
        clear hq3 hks hos ER LE
        by_cases h0 : q3 = 0
        · subst h0
          go_wp2_with fail
          refine CK.out.mono ?_
          rintro e w6 ⟨rfl, hb6⟩
          have BW := Lib.hid (BW.out.trans (hb6.mono BW.out.size))
          have ZR := Lib.hid ((hb6.block _ (lt_of_block ZR.out)).trans ZR.out)
          have ZN := Lib.hid ((hb6.block _ (lt_of_block XV.out)).trans XV.out)
          have A6 := Lib.hid (AV.out.kept (keptNew hb6) (fun _ _ h => h))
          clear hb6 CK v0 v1 v2 v3 v4 v5 XV
          have P := Lib.hid (show OutR w X (.returned (.tuple #[.agg #[.string x.key, .int .i64 x.t, .int .i64 x.i, .int .i64 x.q, .string x.o, .slice y x.len c5], .int .i64 0])) ((((((w6.setCell ⟨w.heap.size, 0, none⟩ (.string x.key)).setCell ⟨w.heap.size, 1, none⟩ (.int .i64 x.t)).setCell ⟨w.heap.size, 2, none⟩ (.int .i64 x.i)).setCell ⟨w.heap.size, 3, none⟩ (.int .i64 x.q)).setCell ⟨w.heap.size, 4, none⟩ (.string x.o)).setCell ⟨w.heap.size, 5, none⟩ (.slice y x.len c5)) by
            have K8 := keptSet w6 w.heap.size 0 [.string x.key, .int .i64 x.t, .int .i64 x.i, .int .i64 x.q, .string x.o, .slice y x.len c5]
            have B8 : Below w.heap.size w ((((((w6.setCell ⟨w.heap.size, 0, none⟩ (.string x.key)).setCell ⟨w.heap.size, 1, none⟩ (.int .i64 x.t)).setCell ⟨w.heap.size, 2, none⟩ (.int .i64 x.i)).setCell ⟨w.heap.size, 3, none⟩ (.int .i64 x.q)).setCell ⟨w.heap.size, 4, none⟩ (.string x.o)).setCell ⟨w.heap.size, 5, none⟩ (.slice y x.len c5)) := BW.out.trans (K8.below (fun k h => by omega) BW.out.size)
            rw [HA.out, if_pos trivial, if_pos trivial, if_pos HQ.out]
            exact ⟨⟨y, c5, rfl, (A6.out.mono (H := fun k => w.heap.size < k) (fun k h _ => h)).kept K8 (fun k h1 h2 => by omega)⟩, B8⟩)
          obtain ⟨x0, x1, x2, x3, x4, x5⟩ := box6 ZN.out
          obtain ⟨y0, y1, y2, y3, y4, y5⟩ := box6 ZR.out
          obtain ⟨f0, f1, f2, f3, f4, f5⟩ := frz6 ZR.out
          clear ZN ZR BW A6 AV
          go_wp2
          exact bodyPost_ret (v := .tuple #[.agg #[.string x.key, .int .i64 x.t, .int .i64 x.i, .int .i64 x.q, .string x.o, .slice y x.len c5], .int .i64 0]) (by simp [results, Try.results60, go_sem, *]) rfl P.out
        · have h0' : (q3 == 0) = false := by simpa using h0
          have HN := Lib.hid h0
          clear h0
          go_wp2_with fail
          refine CK.out.mono ?_
          rintro e w6 ⟨rfl, hb6⟩
          have BW := Lib.hid (BW.out.trans (hb6.mono BW.out.size))
          have ZR := Lib.hid ((hb6.block _ (lt_of_block ZR.out)).trans ZR.out)
          have ZN := Lib.hid ((hb6.block _ (lt_of_block ZN.out)).trans ZN.out)
          clear hb6 CK v0 v1 v2 v3 v4 v5 XV
          have P := Lib.hid (show OutR w X (.returned (.tuple #[.agg #[.string ⟨#[]⟩, .int .i64 0, .int .i64 0, .int .i64 0, .string ⟨#[]⟩, .slice none 0 0], .int .i64 q3])) ((((((w6.setCell ⟨w.heap.size, 0, none⟩ (.string ⟨#[]⟩)).setCell ⟨w.heap.size, 1, none⟩ (.int .i64 0)).setCell ⟨w.heap.size, 2, none⟩ (.int .i64 0)).setCell ⟨w.heap.size, 3, none⟩ (.int .i64 0)).setCell ⟨w.heap.size, 4, none⟩ (.string ⟨#[]⟩)).setCell ⟨w.heap.size, 5, none⟩ (.slice none 0 0)) by
            have K8 := keptSet w6 w.heap.size 0 [.string ⟨#[]⟩, .int .i64 0, .int .i64 0, .int .i64 0, .string ⟨#[]⟩, .slice none 0 0]
            have B8 : Below w.heap.size w ((((((w6.setCell ⟨w.heap.size, 0, none⟩ (.string ⟨#[]⟩)).setCell ⟨w.heap.size, 1, none⟩ (.int .i64 0)).setCell ⟨w.heap.size, 2, none⟩ (.int .i64 0)).setCell ⟨w.heap.size, 3, none⟩ (.int .i64 0)).setCell ⟨w.heap.size, 4, none⟩ (.string ⟨#[]⟩)).setCell ⟨w.heap.size, 5, none⟩ (.slice none 0 0)) := BW.out.trans (K8.below (fun k h => by omega) BW.out.size)
            rw [HA.out, if_pos trivial, if_pos trivial, if_neg (by rw [HQ.out]; exact HN.out), HQ.out]
            exact ⟨⟨none, 0, rfl, zReadsA _ _ _⟩, B8⟩)
          obtain ⟨x0, x1, x2, x3, x4, x5⟩ := box6 ZN.out
          obtain ⟨y0, y1, y2, y3, y4, y5⟩ := box6 ZR.out
          obtain ⟨f0, f1, f2, f3, f4, f5⟩ := frz6 ZR.out
          clear ZN ZR BW AV
          go_wp2
          exact bodyPost_ret (v := .tuple #[.agg #[.string ⟨#[]⟩, .int .i64 0, .int .i64 0, .int .i64 0, .string ⟨#[]⟩, .slice none 0 0], .int .i64 q3]) (by simp [results, Try.results60, go_sem, *]) rfl P.out
      · have hpos : 0 < D1.length := List.length_pos_iff.2 hD1
        have HN := Lib.hid hD1
        clear hD1 ER LE XV
        have P := Lib.hid (show OutR w X (.returned (.tuple #[.agg #[.string ⟨#[]⟩, .int .i64 0, .int .i64 0, .int .i64 0, .string ⟨#[]⟩, .slice none 0 0], .int .i64 2])) ((((((w5.setCell ⟨w.heap.size, 0, none⟩ (.string ⟨#[]⟩)).setCell ⟨w.heap.size, 1, none⟩ (.int .i64 0)).setCell ⟨w.heap.size, 2, none⟩ (.int .i64 0)).setCell ⟨w.heap.size, 3, none⟩ (.int .i64 0)).setCell ⟨w.heap.size, 4, none⟩ (.string ⟨#[]⟩)).setCell ⟨w.heap.size, 5, none⟩ (.slice none 0 0)) by
          have K8 := keptSet w5 w.heap.size 0 [.string ⟨#[]⟩, .int .i64 0, .int .i64 0, .int .i64 0, .string ⟨#[]⟩, .slice none 0 0]
          have B8 : Below w.heap.size w ((((((w5.setCell ⟨w.heap.size, 0, none⟩ (.string ⟨#[]⟩)).setCell ⟨w.heap.size, 1, none⟩ (.int .i64 0)).setCell ⟨w.heap.size, 2, none⟩ (.int .i64 0)).setCell ⟨w.heap.size, 3, none⟩ (.int .i64 0)).setCell ⟨w.heap.size, 4, none⟩ (.string ⟨#[]⟩)).setCell ⟨w.heap.size, 5, none⟩ (.slice none 0 0)) := BW.out.trans (K8.below (fun k h => by omega) BW.out.size)
          rw [HA.out, if_pos trivial, if_neg HN.out]
          exact ⟨⟨none, 0, rfl, zReadsA _ _ _⟩, B8⟩)
        obtain ⟨x0, x1, x2, x3, x4, x5⟩ := box6 ZN.out
        obtain ⟨y0, y1, y2, y3, y4, y5⟩ := box6 ZR.out
        obtain ⟨f0, f1, f2, f3, f4, f5⟩ := frz6 ZR.out
        clear ZN ZR BW AV
        go_wp2
        exact bodyPost_ret (v := .tuple #[.agg #[.string ⟨#[]⟩, .int .i64 0, .int .i64 0, .int .i64 0, .string ⟨#[]⟩, .slice none 0 0], .int .i64 2]) (by simp [results, Try.results60, go_sem, *]) rfl P.out
    · have he2' : (er2 == 0) = false := by simpa using he2
      have HN := Lib.hid he2
      clear he2 ER LE XV
      have P := Lib.hid (show OutR w X (.returned (.tuple #[.agg #[.string ⟨#[]⟩, .int .i64 0, .int .i64 0, .int .i64 0, .string ⟨#[]⟩, .slice none 0 0], .int .i64 er2])) ((((((w5.setCell ⟨w.heap.size, 0, none⟩ (.string ⟨#[]⟩)).setCell ⟨w.heap.size, 1, none⟩ (.int .i64 0)).setCell ⟨w.heap.size, 2, none⟩ (.int .i64 0)).setCell ⟨w.heap.size, 3, none⟩ (.int .i64 0)).setCell ⟨w.heap.size, 4, none⟩ (.string ⟨#[]⟩)).setCell ⟨w.heap.size, 5, none⟩ (.slice none 0 0)) by
        have K8 := keptSet w5 w.heap.size 0 [.string ⟨#[]⟩, .int .i64 0, .int .i64 0, .int .i64 0, .string ⟨#[]⟩, .slice none 0 0]
        have B8 : Below w.heap.size w ((((((w5.setCell ⟨w.heap.size, 0, none⟩ (.string ⟨#[]⟩)).setCell ⟨w.heap.size, 1, none⟩ (.int .i64 0)).setCell ⟨w.heap.size, 2, none⟩ (.int .i64 0)).setCell ⟨w.heap.size, 3, none⟩ (.int .i64 0)).setCell ⟨w.heap.size, 4, none⟩ (.string ⟨#[]⟩)).setCell ⟨w.heap.size, 5, none⟩ (.slice none 0 0)) := BW.out.trans (K8.below (fun k h => by omega) BW.out.size)
        rw [HA.out, if_neg HN.out]
        exact ⟨⟨none, 0, rfl, zReadsA _ _ _⟩, B8⟩)
      obtain ⟨x0, x1, x2, x3, x4, x5⟩ := box6 ZN.out
      obtain ⟨y0, y1, y2, y3, y4, y5⟩ := box6 ZR.out
      obtain ⟨f0, f1, f2, f3, f4, f5⟩ := frz6 ZR.out
      clear ZN ZR BW AV
      go_wp2
      exact bodyPost_ret (v := .tuple #[.agg #[.string ⟨#[]⟩, .int .i64 0, .int .i64 0, .int .i64 0, .string ⟨#[]⟩, .slice none 0 0], .int .i64 er2]) (by simp [results, Try.results60, go_sem, *]) rfl P.out
  · have he' : (er == 0) = false := by simpa using he
    have HN := Lib.hid he
    clear he
    go_wp2_with fail
    refine OW.out.mono ?_
    rintro e w2 ⟨⟨a2, c2, rfl, hbr⟩, hb2⟩
    have BW := Lib.hid (B0.out.trans (hb2.mono B0.out.size))
    have ZR := Lib.hid ((hb2.block _ (lt_of_block R0.out)).trans R0.out)
    have ZN := Lib.hid ((hb2.block _ (lt_of_block N0.out)).trans N0.out)
    clear hb2 hbr OW B0 R0 N0
    have P := Lib.hid (show OutR w X (.returned (.tuple #[.agg #[.string ⟨#[]⟩, .int .i64 0, .int .i64 0, .int .i64 0, .string ⟨#[]⟩, .slice none 0 0], .int .i64 er])) ((((((w2.setCell ⟨w.heap.size, 0, none⟩ (.string ⟨#[]⟩)).setCell ⟨w.heap.size, 1, none⟩ (.int .i64 0)).setCell ⟨w.heap.size, 2, none⟩ (.int .i64 0)).setCell ⟨w.heap.size, 3, none⟩ (.int .i64 0)).setCell ⟨w.heap.size, 4, none⟩ (.string ⟨#[]⟩)).setCell ⟨w.heap.size, 5, none⟩ (.slice none 0 0)) by
      have K8 := keptSet w2 w.heap.size 0 [.string ⟨#[]⟩, .int .i64 0, .int .i64 0, .int .i64 0, .string ⟨#[]⟩, .slice none 0 0]
      have B8 : Below w.heap.size w ((((((w2.setCell ⟨w.heap.size, 0, none⟩ (.string ⟨#[]⟩)).setCell ⟨w.heap.size, 1, none⟩ (.int .i64 0)).setCell ⟨w.heap.size, 2, none⟩ (.int .i64 0)).setCell ⟨w.heap.size, 3, none⟩ (.int .i64 0)).setCell ⟨w.heap.size, 4, none⟩ (.string ⟨#[]⟩)).setCell ⟨w.heap.size, 5, none⟩ (.slice none 0 0)) := BW.out.trans (K8.below (fun k h => by omega) BW.out.size)
      rw [HX.out, if_neg HN.out]
      exact ⟨⟨none, 0, rfl, zReadsA _ _ _⟩, B8⟩)
    obtain ⟨x0, x1, x2, x3, x4, x5⟩ := box6 ZN.out
    obtain ⟨y0, y1, y2, y3, y4, y5⟩ := box6 ZR.out
    obtain ⟨f0, f1, f2, f3, f4, f5⟩ := frz6 ZR.out
    clear ZN ZR BW
    go_wp2
    exact bodyPost_ret (v := .tuple #[.agg #[.string ⟨#[]⟩, .int .i64 0, .int .i64 0, .int .i64 0, .string ⟨#[]⟩, .slice none 0 0], .int .i64 er]) (by simp [results, Try.results60, go_sem, *]) rfl P.out

set_option maxHeartbeats 2000000 in
theorem decode_any (a : Option Addr) (c : Nat) (l : List UInt8) (hl : l.length ≤ 1000000) (w : World) (h : BR w a c l) :
    Calls Try.prog 28 #[.slice a l.length c] w (OutR w (decodeR l)) := by
  have C := Lib.hid (fun W (hb : Below w.heap.size w W) => openR_any a c l hl W (h.kept hb))
  obtain ⟨⟨x, er⟩, hr⟩ : ∃ r, decodeR l = r := ⟨_, rfl⟩
  rw [hr] at C ⊢
  clear h hr
  go_enter Try.func28, Try.ntmps28
  go_upto_region 1 with fail
  generalize hW : World.alloc w _ = W
  have B0 := Lib.hid (show Below w.heap.size w W by rw [← hW]; exact below_new w _)
  have R0 := Lib.hid (show W.heap[w.heap.size]? = some (.cells #[.string ⟨#[]⟩, .int .i64 0, .int .i64 0, .int .i64 0, .string ⟨#[]⟩, .slice none 0 0] 29 (0, 0)) by rw [← hW]; exact heap_alloc_new w _)
  clear hW
  go_wp2_with fail
  refine (C.out W B0.out).mono ?_
  rintro e w2 ⟨⟨y, c5, rfl, hb⟩, hbl⟩
  have BW := Lib.hid (B0.out.trans (hbl.mono B0.out.size))
  have ZR := (hbl.block _ (lt_of_block R0.out)).trans R0.out
  have hlt : w.heap.size < W.heap.size := lt_of_block R0.out
  have P := Lib.hid (show OutR w (x, er) (.returned (.tuple #[.agg #[.string x.key, .int .i64 x.t, .int .i64 x.i, .int .i64 x.q, .string x.o, .slice y x.len c5], .int .i64 er])) ((((((w2.setCell ⟨w.heap.size, 0, none⟩ (.string x.key)).setCell ⟨w.heap.size, 1, none⟩ (.int .i64 x.t)).setCell ⟨w.heap.size, 2, none⟩ (.int .i64 x.i)).setCell ⟨w.heap.size, 3, none⟩ (.int .i64 x.q)).setCell ⟨w.heap.size, 4, none⟩ (.string x.o)).setCell ⟨w.heap.size, 5, none⟩ (.slice y x.len c5)) by
    have K8 := keptSet w2 w.heap.size 0 [.string x.key, .int .i64 x.t, .int .i64 x.i, .int .i64 x.q, .string x.o, .slice y x.len c5]
    have B8 : Below w.heap.size w ((((((w2.setCell ⟨w.heap.size, 0, none⟩ (.string x.key)).setCell ⟨w.heap.size, 1, none⟩ (.int .i64 x.t)).setCell ⟨w.heap.size, 2, none⟩ (.int .i64 x.i)).setCell ⟨w.heap.size, 3, none⟩ (.int .i64 x.q)).setCell ⟨w.heap.size, 4, none⟩ (.string x.o)).setCell ⟨w.heap.size, 5, none⟩ (.slice y x.len c5)) := BW.out.trans (K8.below (fun k h => by omega) BW.out.size)
    exact ⟨⟨y, c5, rfl, (hb.mono (H := fun k => w.heap.size < k) (fun k h _ => by omega)).kept K8 (fun k h1 h2 => by omega)⟩, B8⟩)
  obtain ⟨y0, y1, y2, y3, y4, y5⟩ := box6 ZR
  obtain ⟨f0, f1, f2, f3, f4, f5⟩ := frz6 ZR
  clear hb hbl ZR R0 B0 BW
  go_wp2
  exact bodyPost_ret (v := .tuple #[.agg #[.string x.key, .int .i64 x.t, .int .i64 x.i, .int .i64 x.q, .string x.o, .slice y x.len c5], .int .i64 er]) (by simp [results, Try.results28, go_sem, *]) rfl P.out

end Go.Proofs.Ytfenfgbkphpboaa

namespace Go.Proofs.Ytfenfgbkphpboaa
open Go.RowKit

theorem openF_seal (l : List UInt8) : openF (sealB l) = (l, 0) := by
  have hl := sealB_len l
  have e : (sealB l).length - 4 = l.length := by omega
  have h1 : (sealB l).take l.length = l := by unfold sealB; rw [List.take_left]
  have h2 : (sealB l).drop l.length = le4 (crc l) := by unfold sealB; rw [List.drop_left]
  unfold openF
  rw [if_neg (by omega), e, h1, h2, if_pos (valB_le4 (crc_lt l))]

theorem decodeR_enc {x : RD} (h : FewR x) (he : errR x = 0) : decodeR (sealB (encR x)) = (canR x, 0) := by
  unfold decodeR
  rw [openF_seal]
  simp only [if_true]
  have := dRow_enc (encOk_of h he) []
  rw [List.append_nil] at this
  rw [this]
  unfold allOf
  simp only [if_true]
  rw [errR_can, if_pos he]

theorem errRows_ok {l : List RD} (he : errRows l = 0) : l.length ≤ 64 ∧ errF l = 0 := by
  unfold errRows at he
  by_cases h : 64 < l.length
  · rw [if_pos h] at he; omega
  · rw [if_neg h] at he; exact ⟨by omega, he⟩

theorem decodeRs_enc {l : List RD} (h : ∀ x ∈ l, FewR x) (he : errRows l = 0) : decodeRs (sealB (encI (l.length : Nat) ++ encRs l)) = (l.map canR, 0) := by
  obtain ⟨hl, hf⟩ := errRows_ok he
  unfold decodeRs
  rw [openF_seal]
  simp only [if_true]
  have := dRows_enc (fun x hx => encOk_of (h x hx) (errF_all hf x hx)) hl []
  rw [List.append_nil] at this
  rw [this]
  unfold allOf
  simp only [if_true]
  have e : errRows (l.map canR) = 0 := by unfold errRows; rw [List.length_map, if_neg (by omega), errF_map, hf]
  rw [if_pos e]

theorem heap_mark (w : World) (C : Array Value) (t : TypeId) (fr : Nat × Nat) : (w.alloc (.cells C t fr)).heap[w.heap.size]? = some (.cells C t fr) := by
  show (w.heap.push (.cells C t fr))[w.heap.size]? = _
  simp

/-- A conversion of the call's own bytes to themselves marks their block, and no more. -/
theorem blkBR {w : World} {b : Nat} {cur : Array Value} {t : TypeId} {fr : Nat × Nat} (h : w.heap[b]? = some (.cells cur t fr)) (l : List UInt8) (hc : cur.toList = bC l) (hm : l.length ≤ 1000) : BR w (some ⟨b, 0, none⟩) l.length l := by
  refine ⟨Nat.le_refl _, by unfold maxLen; omega, .inr (.inr ⟨b, 0, rfl, fun j hj => ?_⟩)⟩
  rw [cell_of_row w b _ cur t fr h, Nat.zero_add, ← Array.getElem?_toList, hc, bC_at l hj]

/-- A conversion of the call's own bytes to themselves marks their block, and no more. -/
theorem conv_own (w : World) (C : Array Value) (n c : Nat) : (convert 36 36 (.slice (some ⟨w.heap.size, 0, none⟩) n c)).run Try.prog (w.alloc (.cells C 5)) = .ok (.slice (some ⟨w.heap.size, 0, none⟩) n c) (w.alloc (.cells C 5 (C.size, C.size + 1))) := by
  have hsh : (w.alloc (.cells C 5)).shape? w.heap.size = some (5, C.size) := by
    have : (w.alloc (.cells C 5)).heap[w.heap.size]? = some (.cells C 5) := by
      show (w.heap.push (.cells C 5))[w.heap.size]? = _
      simp
    unfold World.shape?
    rw [this]
  have hfr : ∀ (n : Nat), (w.alloc (.cells C 5)).freeze ⟨w.heap.size, n, none⟩ 1 = w.alloc (.cells C 5 (n, n + 1)) := fun n => by
    have hm : ∀ (a : Array Obj) (x : Obj) (f : Obj → Obj), (a.push x).modify a.size f = a.push (f x) := by
      intro a x f
      apply Array.ext
      · simp
      · intro i h1 h2
        simp only [Array.getElem_modify, Array.getElem_push]
        by_cases h : a.size = i
        · subst h
          simp
        · have hi : i < a.size := by simp at h1; omega
          simp [h, hi]
    unfold World.freeze
    rw [if_neg (by decide)]
    show ({ w.alloc (.cells C 5) with heap := (w.heap.push (.cells C 5)).modify w.heap.size _ } : World) = _
    rw [hm]
    rfl
  simp [convert, run_underlying undB, run_underlying Try.underlying5, markStringish, hsh]
  exact hfr _

def ka : AD := ⟨⟨#[97]⟩, 3, 0, ⟨#[]⟩, 2, zL [1, 2]⟩
def kr : RD := ⟨⟨#[107]⟩, 1, 0, 0, ⟨#[47, 122]⟩, 1, atA [ka]⟩
theorem ka_at {j : Nat} (h : j < 1) : atA [ka] j = ka := by
  obtain rfl : j = 0 := by omega
  rfl
theorem zL2 (j : Nat) : In64 (zL [1, 2] j) := by
  unfold zL
  match j with
  | 0 => exact ⟨by decide, by decide⟩
  | 1 => exact ⟨by decide, by decide⟩
  | j + 2 => exact ⟨by simp, by simp⟩
theorem kr_few : FewR kr := ⟨by decide, by decide, ⟨by decide, by decide⟩, ⟨by decide, by decide⟩, ⟨by decide, by decide⟩, fun j hj => by
    have e : kr.A j = ka := ka_at hj
    rw [e]; exact ⟨⟨by decide, by decide⟩, ⟨by decide, by decide⟩, zL2⟩, fun j hj => by
    have e : kr.A j = ka := ka_at hj
    rw [e]; exact ⟨by decide, by decide, by decide⟩, by decide⟩
theorem kr_err : errR kr = 0 := by kernel_rfl
theorem kr_enc : encodeR kr = (sealB (encR kr), 0) := by unfold encodeR; rw [kr_err, if_pos rfl]
theorem kr_dec : decodeR (sealB (encR kr)) = (canR kr, 0) := decodeR_enc kr_few kr_err
def krs : Nat → RD := fun _ => kr
theorem krs_all : tkR krs 2 = [kr, kr] := rfl
theorem krs_err : errRows [kr, kr] = 0 := by unfold errRows; rw [if_neg (by decide)]; unfold errF; rw [kr_err, if_pos rfl]; unfold errF; rw [kr_err, if_pos rfl]; rfl
theorem krs_enc : encodeRs (tkR krs 2) = (sealB (encI (2 : Nat) ++ encRs [kr, kr]), 0) := by
  rw [krs_all]; unfold encodeRs; rw [krs_err, if_pos rfl]; rfl
theorem krs_dec : decodeRs (sealB (encI (2 : Nat) ++ encRs [kr, kr])) = ([canR kr, canR kr], 0) :=
  decodeRs_enc (l := [kr, kr]) (fun x hx => by
    simp only [List.mem_cons, List.not_mem_nil, or_false] at hx
    rcases hx with rfl | rfl <;> exact kr_few) krs_err
theorem kx_dec : decodeR [120, 120, 120, 120, 120] = (zR, 10) := by
  have h : openF [120, 120, 120, 120, 120] = ([], 10) := by
    unfold openF
    rw [if_neg (by decide), if_neg (by decide)]
  unfold decodeR
  rw [h]
  rfl
theorem seal_len2 : (sealB (encR kr)).length ≤ 1000000 := by
  rw [sealB_len]
  have := encR_len kr_few
  omega
theorem seal_len3 : (sealB (encI (2 : Nat) ++ encRs [kr, kr])).length ≤ 1000000 := by
  rw [sealB_len, List.length_append]
  have h1 := encRs_len (R := krs) (n := 2) (fun j _ => kr_few) 2 (Nat.le_refl _)
  rw [krs_all] at h1
  have := encI_lenN (n := 2) (by decide)
  omega

end Go.Proofs.Ytfenfgbkphpboaa

namespace Go.Proofs.Ytfenfgbkphpboaa
open Go.RowKit

theorem kEncode (a : Option Addr) (c : Nat) (S1 : List UInt8) (hS : encodeR kr = (S1, 0)) (w : World) (h : ReadsA w a 1 (atA [ka])) : Calls Try.prog 27 #[.agg #[.string ⟨#[107]⟩, .int .i64 1, .int .i64 0, .int .i64 0, .string ⟨#[47, 122]⟩, .slice a 1 c]] w fun e w' => (∃ a c, e = .returned (.tuple #[.slice a S1.length c, .int .i64 0]) ∧ BR w' a c S1) ∧ Below w.heap.size w w' := by
  have := encode_any kr a c kr_few w h
  rw [hS] at this
  exact this
theorem kDecode (a : Option Addr) (c : Nat) (S1 : List UInt8) (X : RD) (hl : S1.length ≤ 1000000) (hS : decodeR S1 = (X, 0)) (w : World) (h : BR w a c S1) : Calls Try.prog 28 #[.slice a S1.length c] w fun e w' => (∃ a c, e = .returned (.tuple #[.agg #[.string X.key, .int .i64 X.t, .int .i64 X.i, .int .i64 X.q, .string X.o, .slice a X.len c], .int .i64 0]) ∧ ReadsA w' a X.len X.A) ∧ Below w.heap.size w w' := by
  have := decode_any a c S1 hl w h
  rw [hS] at this
  exact this.mono fun e w' ⟨⟨a, c, he, hr⟩, hb⟩ => ⟨⟨a, c, he, hr.plain⟩, hb⟩
theorem kAll (a : Option Addr) (c : Nat) (S2 : List UInt8) (hS : encodeRs (tkR krs 2) = (S2, 0)) (w : World) (h : ReadsR w a 2 krs) : Calls Try.prog 29 #[.slice a 2 c] w fun e w' => (∃ a c, e = .returned (.tuple #[.slice a S2.length c, .int .i64 0]) ∧ BR w' a c S2) ∧ Below w.heap.size w w' := by
  have := all_any a 2 c krs (fun j _ => kr_few) (by decide) w h
  rw [hS] at this
  exact this
theorem kRows (a : Option Addr) (c : Nat) (S2 : List UInt8) (hl : S2.length ≤ 1000000) (hS : decodeRs S2 = ([canR kr, canR kr], 0)) (w : World) (h : BR w a c S2) : Calls Try.prog 30 #[.slice a S2.length c] w fun e w' => (∃ a c, e = .returned (.tuple #[.slice a 2 c, .int .i64 0])) ∧ Below w.heap.size w w' := by
  have := rows_any a c S2 (by omega) w h
  rw [hS] at this
  exact this.mono fun e w' ⟨⟨a, c, he, _⟩, hb⟩ => ⟨⟨a, c, he⟩, hb⟩
theorem kBad (w : World) : Calls Try.prog 28 #[.slice (some ⟨w.heap.size, 0, none⟩) 5 5] (w.alloc (.cells #[.int .u8 120, .int .u8 120, .int .u8 120, .int .u8 120, .int .u8 120] 5 (5, 6))) fun e w' => (∃ x : RD, ∃ a c, e = .returned (.tuple #[.agg #[.string x.key, .int .i64 x.t, .int .i64 x.i, .int .i64 x.q, .string x.o, .slice a x.len c], .int .i64 10])) ∧ Below w.heap.size w w' := by
  have := decode_any (some ⟨w.heap.size, 0, none⟩) 5 [120, 120, 120, 120, 120] (by decide) (w.alloc (.cells #[.int .u8 120, .int .u8 120, .int .u8 120, .int .u8 120, .int .u8 120] 5 (5, 6))) (blkBR (heap_mark w _ _ _) [120, 120, 120, 120, 120] rfl (by simp))
  rw [kx_dec] at this
  exact this.mono fun e w' ⟨⟨a, c, he, _⟩, hb⟩ => ⟨⟨zR, a, c, he⟩, (below_new w _).trans (hb.mono (by simp))⟩
theorem conv5 (w : World) : (convert 36 36 (.slice (some ⟨w.heap.size, 0, none⟩) 5 5)).run Try.prog (w.alloc (.cells #[.int .u8 120, .int .u8 120, .int .u8 120, .int .u8 120, .int .u8 120] 5)) = .ok (.slice (some ⟨w.heap.size, 0, none⟩) 5 5) (w.alloc (.cells #[.int .u8 120, .int .u8 120, .int .u8 120, .int .u8 120, .int .u8 120] 5 (5, 6))) := conv_own w _ 5 5

/-- What the walk keeps: the row. -/
structure KJ (w0 w : World) (rb : Nat) (a : Option Addr) : Prop where
  bw : Below w0.heap.size w0 w
  r : ReadsA w a 1 (atA [ka])
  h : w.heap[rb]? = some (.cells #[.string ⟨#[107]⟩, .int .i64 1, .int .i64 0, .int .i64 0, .string ⟨#[47, 122]⟩, .slice a 1 1] 29 (0, 0))
theorem KJ.kept {w0 w w' : World} {rb : Nat} {a : Option Addr} (h : KJ w0 w rb a) (hb : Below w.heap.size w w') : KJ w0 w' rb a :=
  ⟨h.bw.trans (hb.mono h.bw.size), h.r.kept hb, (hb.block _ (lt_of_block h.h)).trans h.h⟩

/-- .. and the row that came back. -/
structure KX (w0 w : World) (rb : Nat) (a : Option Addr) (X : RD) (xb : Nat) (y : Option Addr) (cy : Nat) : Prop where
  k : KJ w0 w rb a
  r : ReadsA w y X.len X.A
  h : w.heap[xb]? = some (.cells #[.string X.key, .int .i64 X.t, .int .i64 X.i, .int .i64 X.q, .string X.o, .slice y X.len cy] 29 (0, 0))
theorem KX.kept {w0 w w' : World} {rb xb : Nat} {a y : Option Addr} {X : RD} {cy : Nat} (h : KX w0 w rb a X xb y cy) (hb : Below w.heap.size w w') : KX w0 w' rb a X xb y cy :=
  ⟨h.k.kept hb, h.r.kept hb, (hb.block _ (lt_of_block h.h)).trans h.h⟩

theorem kRow (w : World) : ReadsA (((w.alloc (.cells #[.int .i64 1, .int .i64 2] 2)).alloc (.cells #[.string ⟨#[97]⟩, .int .i64 3, .int .i64 0, .string ⟨#[]⟩, .slice (some ⟨w.heap.size, 0, none⟩) 2 2] 34))) (some ⟨w.heap.size + 1, 0, none⟩) 1 (atA [ka]) := by
  refine ⟨by decide, .inr ⟨w.heap.size + 1, 0, rfl, fun j hj => ?_⟩⟩
  obtain rfl : j = 0 := by omega
  have h1 : ((w.alloc (.cells #[.int .i64 1, .int .i64 2] 2)).alloc (.cells #[.string ⟨#[97]⟩, .int .i64 3, .int .i64 0, .string ⟨#[]⟩, .slice (some ⟨w.heap.size, 0, none⟩) 2 2] 34)).heap[w.heap.size + 1]? = some (.cells #[.string ⟨#[97]⟩, .int .i64 3, .int .i64 0, .string ⟨#[]⟩, .slice (some ⟨w.heap.size, 0, none⟩) 2 2] 34 (0, 0)) := by
    have := heap_alloc_new (w.alloc (.cells #[.int .i64 1, .int .i64 2] 2)) (.cells #[.string ⟨#[97]⟩, .int .i64 3, .int .i64 0, .string ⟨#[]⟩, .slice (some ⟨w.heap.size, 0, none⟩) 2 2] 34)
    rwa [World.size_alloc] at this
  have h0 : ((w.alloc (.cells #[.int .i64 1, .int .i64 2] 2)).alloc (.cells #[.string ⟨#[97]⟩, .int .i64 3, .int .i64 0, .string ⟨#[]⟩, .slice (some ⟨w.heap.size, 0, none⟩) 2 2] 34)).heap[w.heap.size]? = some (.cells #[.int .i64 1, .int .i64 2] 2 (0, 0)) :=
    (Below.heap_alloc _ _ _ (by simp)).trans (heap_alloc_new w _)
  refine ⟨some ⟨w.heap.size, 0, none⟩, 2, ?_, by decide, .inr ⟨w.heap.size, 0, rfl, fun i hi => ?_⟩⟩
  · exact cells5_block (x := ka) h1
  · have hi2 : i < 2 := hi
    rw [cell_of_row _ _ _ _ _ (0, 0) h0]
    rcases (show i = 0 ∨ i = 1 by omega) with rfl | rfl <;> rfl

theorem kTwo {w : World} {a : Option Addr} (h : ReadsA w a 1 (atA [ka])) : ReadsR (w.alloc (.cells #[.string ⟨#[107]⟩, .int .i64 1, .int .i64 0, .int .i64 0, .string ⟨#[47, 122]⟩, .slice a 1 1, .string ⟨#[107]⟩, .int .i64 1, .int .i64 0, .int .i64 0, .string ⟨#[47, 122]⟩, .slice a 1 1] 29)) (some ⟨w.heap.size, 0, none⟩) 2 krs := by
  have hn := heap_alloc_new w (.cells #[.string ⟨#[107]⟩, .int .i64 1, .int .i64 0, .int .i64 0, .string ⟨#[47, 122]⟩, .slice a 1 1, .string ⟨#[107]⟩, .int .i64 1, .int .i64 0, .int .i64 0, .string ⟨#[47, 122]⟩, .slice a 1 1] 29)
  refine ⟨by decide, .inr ⟨w.heap.size, 0, rfl, by simp, fun j hj => ⟨a, 1, ?_, (ReadsAG.of (h.kept (below_new w _)))⟩⟩⟩
  rcases (show j = 0 ∨ j = 1 by omega) with rfl | rfl <;> (refine ⟨?_, ?_, ?_, ?_, ?_, ?_⟩ <;> (rw [cell_of_row _ _ _ _ _ (0, 0) hn]; rfl))

set_option maxRecDepth 100000 in
set_option maxHeartbeats 8000000 in
theorem known_any (w : World) : Calls Try.prog 5 #[] w fun e w' => e = .returned (.bool true) ∧ Below w.heap.size w w' := by
  obtain ⟨S1, hS1⟩ : ∃ S, sealB (encR kr) = S := ⟨_, rfl⟩
  obtain ⟨S2, hS2⟩ : ∃ S, sealB (encI (2 : Nat) ++ encRs [kr, kr]) = S := ⟨_, rfl⟩
  obtain ⟨X, hX⟩ : ∃ X, canR kr = X := ⟨_, rfl⟩
  have l1 := seal_len2
  have l2 := seal_len3
  have e1 := kr_enc
  have e2 := kr_dec
  have e3 := krs_enc
  have e4 := krs_dec
  have hs := sameR_can kr
  have hxl : (canR kr).len ≤ 1000000 := by rw [canR_len]; decide
  rw [hS1] at l1 e1 e2
  rw [hS2] at l2 e3 e4
  rw [hX] at e2 hs hxl
  have KE := Lib.hid (fun a c w h => kEncode a c S1 e1 w h)
  have KD := Lib.hid (fun a c w h => kDecode a c S1 X l1 e2 w h)
  have KA := Lib.hid (fun a c w h => kAll a c S2 e3 w h)
  have KR := Lib.hid (fun a c w h => kRows a c S2 l2 e4 w h)
  have KS := Lib.hid (p := ∀ y cy a w, ReadsA w y X.len X.A → ReadsA w a 1 (atA [ka]) → Calls Try.prog 31 #[.agg #[.string X.key, .int .i64 X.t, .int .i64 X.i, .int .i64 X.q, .string X.o, .slice y X.len cy], .agg #[.string ⟨#[107]⟩, .int .i64 1, .int .i64 0, .int .i64 0, .string ⟨#[47, 122]⟩, .slice a 1 1]] w fun e w' => e = .returned (.bool true) ∧ Below w.heap.size w w') (fun y cy a w h1 h2 => by
    have := rowSame_any X kr y a cy 1 hxl w h1 h2
    rw [hs] at this
    exact this)
  clear hS1 hS2 hX l1 l2 e1 e2 e3 e4 hs hxl
  go_enter Try.func5, Try.ntmps5
  go_upto_region 2 with fail
  generalize hW : World.alloc (World.alloc (World.alloc w _) _) _ = W
  have K0 := Lib.hid (show KJ w W (w.heap.size + 2) (some ⟨w.heap.size + 1, 0, none⟩) by
    rw [← hW]
    refine ⟨(((Below.refl _ _).alloc (Nat.le_refl _) _).alloc (by simp) _).alloc (by simp; omega) _, (kRow w).kept (below_new _ _), ?_⟩
    have := heap_alloc_new ((w.alloc (.cells #[.int .i64 1, .int .i64 2] 2)).alloc (.cells #[.string ⟨#[97]⟩, .int .i64 3, .int .i64 0, .string ⟨#[]⟩, .slice (some ⟨w.heap.size, 0, none⟩) 2 2] 34)) (.cells #[.string ⟨#[107]⟩, .int .i64 1, .int .i64 0, .int .i64 0, .string ⟨#[47, 122]⟩, .slice (some ⟨w.heap.size + 1, 0, none⟩) 1 1] 29)
    rwa [World.size_alloc, World.size_alloc] at this)
  clear hW
  obtain ⟨x0, x1, x2, x3, x4, x5⟩ := box6 K0.out.h
  go_wp2_with fail
  refine (KE.out _ _ W K0.out.r).mono ?_
  rintro e w2 ⟨⟨a2, c2, rfl, hb2⟩, hb⟩
  have K2 := Lib.hid (K0.out.kept hb)
  have D2 := Lib.hid (KD.out a2 c2 w2 hb2)
  clear hb hb2 x0 x1 x2 x3 x4 x5 K0
  go_wp2_with fail
  refine D2.out.mono ?_
  rintro e w3 ⟨⟨y3, c3, rfl, hr3⟩, hb⟩
  have K3 := Lib.hid (K2.out.kept hb)
  have R3 := Lib.hid hr3
  clear hb hr3 K2 D2
  go_upto_region 4 with fail
  generalize hW : World.alloc w3 _ = W4
  have bl : Below w3.heap.size w3 W4 := by rw [← hW]; exact below_new w3 _
  have K4 := Lib.hid (KX.mk (xb := w3.heap.size) (X := X) (y := y3) (cy := c3) (K3.out.kept bl) (R3.out.kept bl) (by rw [← hW]; exact heap_alloc_new w3 _))
  clear hW bl K3 R3
  obtain ⟨x0, x1, x2, x3, x4, x5⟩ := box6 K4.out.k.h
  have A4 := Lib.hid (KA.out (some ⟨W4.heap.size, 0, none⟩) 2 _ (kTwo K4.out.k.r))
  go_wp2_with fail
  refine A4.out.mono ?_
  rintro e w5 ⟨⟨a5, c5, rfl, hb5⟩, hb⟩
  have K5 := Lib.hid (K4.out.kept ((below_new W4 _).trans (hb.mono (by simp))))
  have R5 := Lib.hid (KR.out a5 c5 w5 hb5)
  clear hb hb5 x0 x1 x2 x3 x4 x5 K4 A4
  go_wp2_with fail
  refine R5.out.mono ?_
  rintro e w6 ⟨⟨a6, c6, rfl⟩, hb⟩
  have K6 := Lib.hid (K5.out.kept hb)
  have V6 := conv5 w6
  clear hb K5 R5
  go_wp2_with fail
  refine (kBad w6).mono ?_
  rintro e w7 ⟨⟨x7, y7, c7, rfl⟩, hb⟩
  have K7 := Lib.hid (K6.out.kept hb)
  clear hb K6 V6
  go_upto_region 7 with fail
  generalize hW : World.alloc w7 _ = W8
  have K8 := Lib.hid (K7.out.kept (show Below w7.heap.size w7 W8 by rw [← hW]; exact below_new w7 _))
  clear hW K7
  obtain ⟨x0, x1, x2, x3, x4, x5⟩ := box6 K8.out.k.h
  obtain ⟨y0, y1, y2, y3', y4, y5⟩ := box6 K8.out.h
  have S8 := Lib.hid (KS.out _ c3 _ W8 K8.out.r K8.out.k.r)
  go_wp2_with fail
  refine S8.out.mono ?_
  rintro e w9 ⟨rfl, hb⟩
  have B9 := Lib.hid (K8.out.kept hb).k.bw
  clear hb x0 x1 x2 x3 x4 x5 y0 y1 y2 y3' y4 y5
  go_wp2_with fail
  go_ret
  exact ⟨rfl, B9.out⟩

end Go.Proofs.Ytfenfgbkphpboaa
