/-
  No statement: the walk of the law WireTurned, at a row as it lies in memory.
-/
import Derived.Test.YtfenfgbkphpboaaJOpens
import Derived.Test.YtfenfgbkphpboaaJRowOf
import Derived.Test.YtfenfgbkphpboaaJTurn
import Derived.Test.YtfenfgbkphpboaaXCheck
namespace Go.Proofs.Ytfenfgbkphpboaa
open Go.RowKit

theorem fewR_of {x : RD} (g : GoR x) (h : fewR x = true) : FewR x := by
  obtain ⟨h1, h2, h3, h4⟩ := fewR_all h
  exact ⟨h1, h2, g.t, g.i, g.q, g.n, h4, h3⟩

/-- What the walk keeps: the row. -/
structure KW (w0 w : World) (rb : Nat) (x : RD) (a : Option Addr) (c : Nat) : Prop where
  bw : Below w0.heap.size w0 w
  r : ReadsA w a x.len x.A
  h : w.heap[rb]? = some (.cells #[.string x.key, .int .i64 x.t, .int .i64 x.i, .int .i64 x.q, .string x.o, .slice a x.len c] 29 (0, 0))
theorem KW.kept {w0 w w' : World} {rb : Nat} {x : RD} {a : Option Addr} {c : Nat} (h : KW w0 w rb x a c) (hb : Below w.heap.size w w') : KW w0 w' rb x a c :=
  ⟨h.bw.trans (hb.mono h.bw.size), h.r.kept hb, (hb.block _ (lt_of_block h.h)).trans h.h⟩

theorem encodeR_enc {x : RD} (h : errR x = 0) : encodeR x = (sealB (encR x), 0) := by unfold encodeR; rw [if_pos h]

theorem rCheckT_any (x : RD) (a : Option Addr) (c : Nat) (hx : FewR x) (w : World) (h : ReadsA w a x.len x.A) :
    Calls Try.prog 26 #[.agg #[.string x.key, .int .i64 x.t, .int .i64 x.i, .int .i64 x.q, .string x.o, .slice a x.len c]] w fun e w' => e = .returned (.int .i64 (errR x)) ∧ Below w.heap.size w w' :=
  xCheck_any x a c (by have := hx.k; omega) (by have := hx.o; omega) (fun j hj => ⟨by have := (hx.f j hj).1; omega, by have := (hx.f j hj).2.1; omega⟩) w h

theorem decodeT (a : Option Addr) (c m : Nat) (l : List UInt8) (hm : l.length = m) (hl : m ≤ 1000000) (w : World) (h : BR w a c l) :
    Calls Try.prog 28 #[.slice a m c] w (OutR w (decodeR l)) := by
  subst hm
  exact decode_any a c l hl w h

theorem encodeT {x : RD} {a : Option Addr} {c : Nat} (hx : FewR x) (he : errR x = 0) {w : World} (h : ReadsA w a x.len x.A) :
    Calls Try.prog 27 #[.agg #[.string x.key, .int .i64 x.t, .int .i64 x.i, .int .i64 x.q, .string x.o, .slice a x.len c]] w fun e w' => (∃ a c, e = .returned (.tuple #[.slice a (sealB (encR x)).length c, .int .i64 0]) ∧ BR w' a c (sealB (encR x))) ∧ Below w.heap.size w w' := by
  have h1 := encode_any x a c hx w h
  rw [encodeR_enc he] at h1
  exact h1

set_option maxRecDepth 100000 in
set_option maxHeartbeats 8000000 in
theorem wireTurned_any (x : RD) (a : Option Addr) (c at' : Nat) (y : UInt8) (gx : GoR x) (hat : at' < 65536) (w : World) (hx : ReadsA w a x.len x.A) :
    Calls Try.prog 4 #[.agg #[.string x.key, .int .i64 x.t, .int .i64 x.i, .int .i64 x.q, .string x.o, .slice a x.len c], .int .u16 at', .int .u8 (y.toNat : Nat)] w fun e w' => e = .returned (.bool true) ∧ Below w.heap.size w w' := by
  obtain ⟨i0, hi, hz0, hz1, hz2⟩ := info_parts infoB
  have und := undB
  have G := Lib.hid hx
  clear hx
  go_enter Try.func4, Try.ntmps4
  go_upto_region 1 with fail
  generalize hW : World.alloc w _ = W
  have K0 := Lib.hid (show KW w W w.heap.size x a c by rw [← hW]; exact ⟨below_new w _, G.out.kept (below_new w _), heap_alloc_new w _⟩)
  clear hW G
  go_wp2_with fail
  refine (known_any W).mono ?_
  rintro e w1 ⟨rfl, hb⟩
  have K1 := Lib.hid (K0.out.kept hb)
  clear hb K0
  obtain ⟨a0, a1, a2, a3, a4, a5⟩ := box6 K1.out.h
  have F1 := Lib.hid (few_any x a c gx.k gx.o gx.s w1 K1.out.r)
  by_cases h1 : fewR x = false
  · rw [h1] at F1
    go_wp2_with fail
    refine F1.out.mono ?_
    rintro e w2 ⟨rfl, hb⟩
    have P := Lib.hid (K1.out.kept hb).bw
    clear hb
    go_wp2_with fail
    go_ret
    exact ⟨rfl, P.out⟩
  have h1' : fewR x = true := by simpa using h1
  rw [h1'] at F1
  have FX := Lib.hid (fewR_of gx h1')
  clear h1 h1' gx
  by_cases hy : y.toNat = 0
  · rw [hy]
    go_wp2_with fail
    refine F1.out.mono ?_
    rintro e w2 ⟨rfl, hb⟩
    have P := Lib.hid (K1.out.kept hb).bw
    clear hb
    go_wp2_with fail
    go_ret
    exact ⟨rfl, P.out⟩
  have hy' : (((y.toNat : Nat) : Int) == 0) = false := by rw [beq_eq_false_iff_ne]; omega
  go_wp2_with fail
  refine F1.out.mono ?_
  rintro e w2 ⟨rfl, hb⟩
  have K2 := Lib.hid (K1.out.kept hb)
  clear hb K1 F1 a0 a1 a2 a3 a4 a5
  obtain ⟨a0, a1, a2, a3, a4, a5⟩ := box6 K2.out.h
  have OX := Lib.hid (ofR_any x a c (by have := FX.out.l; omega) w2 K2.out.r)
  go_wp2_with fail
  refine OX.out.mono ?_
  rintro e w3 ⟨⟨a3', c3, rfl, hr3⟩, hb⟩
  have K3 := Lib.hid (K2.out.kept hb)
  have C3 := Lib.hid (rCheckT_any x a3' c3 FX.out w3 hr3)
  clear hb hr3 K2 OX a0 a1 a2 a3 a4 a5
  by_cases he : errR x ≠ 0
  · have he' : (errR x == 0) = false := by simpa using he
    go_wp2_with fail
    refine C3.out.mono ?_
    rintro e w4 ⟨rfl, hb⟩
    have P := Lib.hid (K3.out.kept hb).bw
    clear hb he
    go_wp2_with fail
    go_ret
    exact ⟨rfl, P.out⟩
  have he0 : errR x = 0 := by omega
  rw [he0] at C3
  go_wp2_with fail
  refine C3.out.mono ?_
  rintro e w4 ⟨rfl, hb⟩
  have K4 := Lib.hid (K3.out.kept hb)
  obtain ⟨a0, a1, a2, a3, a4, a5⟩ := box6 K4.out.h
  have E4 := Lib.hid (encodeT (c := c) FX.out he0 K4.out.r)
  have hsl : 4 ≤ (sealB (encR x)).length ∧ (sealB (encR x)).length ≤ 100000 := by
    rw [sealB_len]
    have := encR_len FX.out
    omega
  have DT := Lib.hid (fun k (hk : k < (sealB (encR x)).length) => decodeR_turned hk hy)
  obtain ⟨B, hB⟩ : ∃ B, sealB (encR x) = B := ⟨_, rfl⟩
  rw [hB] at E4 hsl DT
  obtain ⟨m, hm⟩ : ∃ m, B.length = m := ⟨_, rfl⟩
  rw [hm] at E4 hsl DT
  have HM := Lib.hid hm
  obtain ⟨hm4, hm5⟩ := hsl
  clear hb K3 C3 he he0 hB hm
  go_wp2_with fail
  refine E4.out.mono ?_
  rintro e w5 ⟨⟨b5, c5, rfl, hb5⟩, hb⟩
  have K5 := Lib.hid (K4.out.kept hb)
  have F5 := Lib.hid (p := From (w5.alloc (.cells #[] 5)) (.slice b5 m c5) m (bC B)) (by
    have := (hb5.kept (below_new w5 (.cells #[] 5))).from
    rw [HM.out] at this
    exact this)
  have OA := Lib.hid (own_new w5)
  have BA := Lib.hid (K5.out.bw.alloc K5.out.bw.size (.cells #[] 5))
  have hws := K5.out.bw.size
  have hkm : (at' : Int) % (m : Int) = ((at' % m : Nat) : Int) := by omega
  have hk : at' % m < m := Nat.mod_lt _ (by omega)
  obtain ⟨k, hkk⟩ : ∃ k, at' % m = k := ⟨_, rfl⟩
  rw [hkk] at hk hkm
  have hm0 : ((m : Int) == 0) = false := by rw [beq_eq_false_iff_ne]; omega
  clear hb hb5 K4 E4 a0 a1 a2 a3 a4 a5 hkk
  go_wp2_with (at_builtin; refine wpList_append_from rfl _ _ 36 rfl und hi hz0 hz1 hz2 rfl _ _ 0 m [] _ rfl rfl OA.out F5.out (bC_one _) (by unfold maxLen; omega) (by omega) (by simp) ?_)
  intro v' w6 ho hg hnn
  clear hnn
  have O6 := Lib.hid (OwnB.cast (l := B) ho (by rw [HM.out]) (by simp))
  have B6 := Lib.hid (BA.out.grown hg (by simp; omega) (fun k hk => by simp [Value.ownBlock] at hk; omega))
  have hnil : v' ≠ .slice none 0 0 := fun h => by
    have h1 := ho.2
    rw [h] at h1
    rcases h1 with ⟨_, h1⟩ | ⟨_, _, _, h1, _⟩
    · omega
    · simp at h1
  obtain ⟨g, c6, rfl⟩ := own_shown ho hnil
  have hgB : w.heap.size ≤ g := by have := (O6.out.lt g rfl).1; omega
  have hOm : OwnB w6 w5.heap.size (.slice (some ⟨g, 0, none⟩) B.length c6) B := by rw [HM.out]; exact O6.out
  obtain ⟨q0, f0, -⟩ := hOm.at (j := k) (by rw [HM.out]; exact hk)
  have NX := Lib.hid (show Calls Try.prog 28 #[.slice (some ⟨g, 0, none⟩) m c6] (w6.setCell ⟨g, k, none⟩ (.int .u8 ((B.getD k 0 ^^^ y).toNat : Nat))) (OutR (w6.setCell ⟨g, k, none⟩ (.int .u8 ((B.getD k 0 ^^^ y).toNat : Nat))) (zR, 10)) by
    rw [← DT.out k hk]
    exact decodeT _ _ _ _ (by rw [List.length_set, HM.out]) (by omega) _ ((by have := hOm.set k (B.getD k 0 ^^^ y); rw [← List.length_set (i := k) (a := B.getD k 0 ^^^ y)] at this; exact this : OwnB _ _ (.slice (some ⟨g, 0, none⟩) (B.set k (B.getD k 0 ^^^ y)).length c6) _).br))
  have B7 := Lib.hid (B6.out.setCell (p := ⟨g, k, none⟩) hgB (.int .u8 ((B.getD k 0 ^^^ y).toNat : Nat)))
  obtain ⟨z, hz⟩ : ∃ z, B.getD k 0 = z := ⟨_, rfl⟩
  rw [hz] at q0 NX B7
  have hxu := xor_u8 z y
  clear ho hg hnil OA BA F5 O6 B6 hOm hz DT
  go_wp2_with fail
  refine NX.out.mono ?_
  rintro e w7 ⟨⟨a7, c7, rfl, -⟩, hb⟩
  have B8 := Lib.hid (B7.out.trans (hb.mono B7.out.size))
  clear hb NX B7
  simp only
  go_upto_region 12 with fail
  generalize hW : World.alloc w7 _ = V
  have P := Lib.hid (show Below w.heap.size w V by rw [← hW]; exact B8.out.alloc B8.out.size _)
  have hh : V.heap[w7.heap.size]? = some (.cells #[.string zR.key, .int .i64 zR.t, .int .i64 zR.i, .int .i64 zR.q, .string zR.o, .slice a7 zR.len c7] 29 (0, 0)) := by rw [← hW]; exact heap_alloc_new w7 _
  obtain ⟨x0, x1, x2, x3, x4, x5⟩ := box6 hh
  simp only [zR] at x0 x5
  clear hW hh x1 x2 x3 x4
  go_wp2_with fail
  go_ret
  exact ⟨rfl, P.out⟩

end Go.Proofs.Ytfenfgbkphpboaa
