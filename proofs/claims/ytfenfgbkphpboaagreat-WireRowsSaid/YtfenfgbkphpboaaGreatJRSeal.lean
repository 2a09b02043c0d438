/-
  No statement: the document's own Encode and All.
-/
import Derived.Test.YtfenfgbkphpboaaGreatJRPuts
import Derived.Test.YtfenfgbkphpboaaGreatJEncs
import Derived.Test.YtfenfgbkphpboaaGreatCRSeal
import Derived.Test.YtfenfgbkphpboaaGreatXCheck
namespace Go.Proofs.YtfenfgbkphpboaaGreat
open Go.RowKit

theorem rCheckF_any (x : RD) (a : Option Addr) (c : Nat) (hx : FewR x) (w : World) (h : ReadsA w a x.len x.A) :
    Calls Tryz.prog 27 #[.agg #[.string x.key, .int .i64 x.t, .int .i64 x.i, .int .i64 x.q, .string x.o, .slice a x.len c]] w fun e w' => e = .returned (.int .i64 (errR x)) ∧ Below w.heap.size w w' :=
  xCheck_any x a c (by have := hx.k; omega) (by have := hx.o; omega) (fun j hj => ⟨by have := (hx.f j hj).1; omega, by have := (hx.f j hj).2.1; omega⟩) w h

set_option maxHeartbeats 4000000 in
set_option maxRecDepth 100000 in
theorem rEncode_any (x : RD) (a : Option Addr) (c : Nat) (hx : FewR x) (w : World) (h : ReadsA w a x.len x.A) :
    Calls Tryz.prog 9 #[.agg #[.string x.key, .int .i64 x.t, .int .i64 x.i, .int .i64 x.q, .string x.o, .slice a x.len c]] w (OutE w (encodeR x)) := by
  have CK := Lib.hid (fun W (hb : Below w.heap.size w W) => rCheckF_any x a c hx W (h.kept hb))
  have PR := Lib.hid (fun W (hb : Below w.heap.size w W) => rPutRow_any x a c hx W (h.kept hb))
  have hlen := encR_len hx
  obtain ⟨q, hq⟩ : ∃ q, errR x = q := ⟨_, rfl⟩
  rw [hq] at CK
  have HQ := Lib.hid hq
  clear h hq hx
  go_enter Tryz.func9, Tryz.ntmps9
  go_upto_region 1 with fail
  generalize hW : World.alloc w _ = W
  have B0 := Lib.hid (show Below w.heap.size w W by rw [← hW]; exact below_new w _)
  have X0 := Lib.hid (show W.heap[w.heap.size]? = some (.cells #[.string x.key, .int .i64 x.t, .int .i64 x.i, .int .i64 x.q, .string x.o, .slice a x.len c] 38 (0, 0)) by rw [← hW]; exact heap_alloc_new w _)
  obtain ⟨x0, x1, x2, x3, x4, x5⟩ := box6 X0.out
  clear hW
  by_cases h0 : q = 0
  · subst h0
    go_wp2_with fail
    refine (CK.out W B0.out).mono ?_
    rintro e w2 ⟨rfl, hb⟩
    have B2 := Lib.hid (B0.out.trans (hb.mono B0.out.size))
    have X2 := Lib.hid ((hb.block _ (lt_of_block X0.out)).trans X0.out)
    have PR2 := Lib.hid (PR.out w2 B2.out)
    clear hb x0 x1 x2 x3 x4 x5 CK PR
    obtain ⟨x0, x1, x2, x3, x4, x5⟩ := box6 X2.out
    go_wp2_with fail
    refine PR2.out.mono ?_
    rintro e w5 ⟨a5, c5, rfl, ho5, hb5⟩
    have B5 := Lib.hid (B2.out.trans (hb5.mono B2.out.size))
    have SE := Lib.hid (rSeal_any a5 c5 (encR x) (by omega) w5 ho5.br)
    clear ho5 hb5 x0 x1 x2 x3 x4 x5 PR2
    go_wp2_with fail
    refine SE.out.mono ?_
    rintro e w7 ⟨a7, c7, rfl, ho7, hb7⟩
    have P := Lib.hid (show OutE w (encodeR x) (.returned (.tuple #[.slice a7 (sealB (encR x)).length c7, .int .i64 0])) w7 by
      unfold encodeR
      rw [if_pos HQ.out]
      exact ⟨⟨a7, c7, rfl, ho7.br⟩, B5.out.trans (hb7.mono B5.out.size)⟩)
    clear ho7 hb7 SE
    go_wp2_with fail
    go_ret2
    exact P.out
  · have h0' : (q == 0) = false := by simpa using h0
    have HN := Lib.hid h0
    clear h0
    go_wp2_with fail
    refine (CK.out W B0.out).mono ?_
    rintro e w2 ⟨rfl, hb⟩
    have P := Lib.hid (show OutE w (encodeR x) (.returned (.tuple #[.slice none 0 0, .int .i64 q])) w2 by
      unfold encodeR
      rw [if_neg (by rw [HQ.out]; exact HN.out), HQ.out]
      exact ⟨⟨none, 0, rfl, BR.nil' _⟩, B0.out.trans (hb.mono B0.out.size)⟩)
    clear hb x0 x1 x2 x3 x4 x5 CK
    go_wp2_with fail
    go_ret2
    exact P.out

set_option maxHeartbeats 8000000 in
set_option maxRecDepth 100000 in
theorem rAll_any (a : Option Addr) (n c : Nat) (R : Nat → RD) (hR : ∀ j, j < n → FewR (R j)) (hn : n ≤ 100) (w : World) (h : ReadsR w a n R) :
    Calls Tryz.prog 15 #[.slice a n c] w (OutE w (encodeRs (tkR R n))) := by
  obtain ⟨i0, hi, hz0, hz1, hz2⟩ := info_parts infoB
  have und := undB
  have H := Lib.hid h
  have HR := Lib.hid hR
  have HL := Lib.hid (encRs_len hR)
  obtain ⟨X, hX⟩ : ∃ X, encodeRs (tkR R n) = X := ⟨_, rfl⟩
  rw [hX]
  have hX' := hX
  unfold encodeRs at hX'
  rw [tkR_len] at hX'
  have HX := Lib.hid hX'
  clear hX hX' h
  by_cases h64 : 64 < n
  · have E := Lib.hid (show errRows (tkR R n) = 4 by unfold errRows; rw [tkR_len, if_pos h64])
    have P := Lib.hid (show OutE w X (.returned (.tuple #[.slice none 0 0, .int .i64 4])) w by
      rw [← HX.out, E.out, if_neg (by decide)]
      exact ⟨⟨none, 0, rfl, BR.nil' _⟩, Below.refl _ _⟩)
    go_enter Tryz.func15, Tryz.ntmps15
    go_wp2_with fail
    go_ret2
    exact P.out
  have E := Lib.hid (show errRows (tkR R n) = errF (fromR R n 0) by unfold errRows; rw [tkR_len, if_neg h64, fromR_all])
  have h10 := encI_lenN (n := n) (by omega)
  have PI := Lib.hid (rPutInt_any (n : Nat) (by omega) (by omega) w)
  obtain ⟨T, hT⟩ : ∃ T, encI (n : Nat) = T := ⟨_, rfl⟩
  rw [hT] at HX PI h10
  clear hT
  go_enter Tryz.func15, Tryz.ntmps15
  go_wp2_with fail
  refine PI.out.mono ?_
  rintro e w2 ⟨a2, c2, rfl, ho, hb⟩
  have B2 := Lib.hid hb
  have O2 := Lib.hid (show w2.ownsRow w.heap.size 5 1 (.slice a2 T.length c2) T.length (bC (T ++ encRs (tkR R 0))) by
    have e : T ++ encRs (tkR R 0) = T := by simp [tkR, encRs]
    rw [e]; exact ho.row rfl)
  clear ho hb PI
  go_wp2_with fail
  go_loopw [4, 5] (fun v i wr => ∃ (k q : Nat) (va : Option Addr) (vc : Nat), v = .slice va q vc ∧ q ≤ 10 + 21500 * k ∧ i = .int .i64 k ∧ k ≤ n ∧ Hid (errF (fromR R n 0) = errF (fromR R n k)) ∧ Hid (wr.ownsRow w.heap.size 5 1 (.slice va q vc) q (bC (T ++ encRs (tkR R k)))) ∧ Hid (Below w.heap.size w wr)) (fun _ i _ => n - (intOf i).toNat)
  case atStart => exact ⟨0, T.length, a2, c2, rfl, by omega, rfl, Nat.zero_le _, Lib.hid rfl, O2, B2⟩
  case round =>
    obtain ⟨k, q, va, vc, rfl, hq, rfl, hk, hE, hO, hB⟩ := hrel
    clear O2 B2
    by_cases hlt : k < n
    · obtain ⟨b, off, y, ce, hab, -, h6, hy⟩ := (H.out.below hB.out).cells hlt
      subst hab
      have hE2 := hE.out
      rw [fromR_cons R hlt, errF] at hE2
      have hfk := HR.out k hlt
      have hlr := encR_len hfk
      have C := Lib.hid (rCheckF_any (R k) y ce hfk wr hy.plain)
      have hnx : T ++ encRs (tkR R k) ++ encR (R k) = T ++ encRs (tkR R (k + 1)) := by rw [tkR_succ, encRs_snoc, List.append_assoc]
      have PW := Lib.hid (fun w' (hb : Below wr.heap.size wr w') => rPutRow_any (R k) y ce hfk w' (hy.plain.kept hb))
      obtain ⟨x, hx⟩ : ∃ x, R k = x := ⟨_, rfl⟩
      rw [hx] at h6 hE2 C PW hnx hlr
      obtain ⟨r, hr⟩ : ∃ q, errR x = q := ⟨_, rfl⟩
      rw [hr] at C hE2
      have HE := Lib.hid hE2
      have NX := Lib.hid hnx
      have H6 := Lib.hid h6
      obtain ⟨p0, p1, p2, p3, p4, p5⟩ := h6
      have hz := hB.out.size
      clear hE2 hx hr hfk hy hE hnx
      by_cases h0 : r = 0
      · subst h0
        go_wp2_with fail
        refine C.out.mono ?_
        rintro e w3 ⟨rfl, hb⟩
        have B3 := Lib.hid (hB.out.trans (hb.mono hz))
        have O3 := Lib.hid (owns_low hO.out hb)
        have PW3 := Lib.hid (PW.out w3 hb)
        have h63 := H6.out.keptS (keptNew hb) (fun h => h)
        clear hb C p0 p1 p2 p3 p4 p5 PW
        obtain ⟨p0, p1, p2, p3, p4, p5⟩ := h63
        go_wp2_with fail
        refine PW3.out.mono ?_
        rintro e w4 ⟨a4, c4, rfl, ho, hb⟩
        have B4 := Lib.hid (B3.out.trans (hb.mono B3.out.size))
        have O4 := Lib.hid (owns_low O3.out hb)
        have F4 := Lib.hid ho.br.from
        clear ho hb PW3 p0 p1 p2 p3 p4 p5
        go_wp2_with (at_builtin; refine wpList_append_from rfl _ _ 29 rfl und hi hz0 hz1 hz2 rfl _ _ q (encR x).length (bC (T ++ encRs (tkR R k))) (bC (encR x)) rfl rfl O4.out F4.out (bC_one _) (by unfold maxLen; omega) (by omega) B4.out.size ?_)
        intro v' w5 ho hg hnn
        obtain ⟨v5, c5, rfl⟩ := own_row_slice ho
        have B5 := Lib.hid (B4.out.grown hg B4.out.size (fun q hq => (O4.out.lt q hq).1))
        have O5 := Lib.hid (show w5.ownsRow w.heap.size 5 1 (.slice v5 (q + (encR x).length) c5) (q + (encR x).length) (bC (T ++ encRs (tkR R (k + 1)))) by
          obtain ⟨hm, h⟩ := appB ho
          rw [NX.out] at hm h
          exact h.row hm)
        clear ho hg hnn O4 F4 B4 B3 O3
        go_wp2_with fail
        go_roundw
        case rel => exact ⟨k + 1, _, v5, c5, rfl, by omega, by go_num, by omega, Lib.hid (by rw [HE.out, if_pos trivial]), O5, B5⟩
        case measure => simp [intOf]; omega
      · have h0' : (r == 0) = false := by simpa using h0
        have E2 := Lib.hid (show errRows (tkR R n) = r by rw [E.out, HE.out, if_neg h0])
        have HN := Lib.hid h0
        clear h0
        go_wp2_with fail
        refine C.out.mono ?_
        rintro e w3 ⟨rfl, hb⟩
        have P := Lib.hid (show OutE w X (.returned (.tuple #[.slice none 0 0, .int .i64 r])) w3 by
          rw [← HX.out, E2.out, if_neg HN.out]
          exact ⟨⟨none, 0, rfl, BR.nil' _⟩, hB.out.trans (hb.mono hz)⟩)
        clear hb C p0 p1 p2 p3 p4 p5
        go_wp2_with fail
        go_ret2
        exact P.out
    · obtain rfl : k = n := by omega
      have E2 := Lib.hid (show errRows (tkR R k) = 0 by rw [E.out, hE.out, fromR_nil R (Nat.le_refl _)]; rfl)
      have hml := own_row_len hO.out
      obtain ⟨U, hU⟩ : ∃ U, T ++ encRs (tkR R k) = U := ⟨_, rfl⟩
      have hO2 := hO.out
      rw [hU] at hml hO2
      have HX2 := Lib.hid (show X = (sealB U, 0) by rw [← HX.out, E2.out, if_pos rfl, hU])
      subst hml
      have SE := Lib.hid (rSeal_any va vc U (by omega) wr (OwnB.br hO2))
      clear hO2 hU hO
      go_wp2_with fail
      refine SE.out.mono ?_
      rintro e w7 ⟨a7, c7, rfl, ho7, hb7⟩
      have P := Lib.hid (show OutE w X (.returned (.tuple #[.slice a7 (sealB U).length c7, .int .i64 0])) w7 by
        rw [HX2.out]
        exact ⟨⟨a7, c7, rfl, ho7.br⟩, hB.out.trans (hb7.mono hB.out.size)⟩)
      clear ho7 hb7 SE
      go_wp2_with fail
      go_ret2
      exact P.out

end Go.Proofs.YtfenfgbkphpboaaGreat
