/-
  No statement: the walk of the law WireParts.
-/
import Derived.Test.YtfenfgbkphpboaaJParts
import Derived.Test.YtfenfgbkphpboaaJOpens
import Derived.Test.YtfenfgbkphpboaaJRPuts
import Derived.Test.YtfenfgbkphpboaaXSame
import Derived.Deep.RegionLaw
import Derived.Deep.RegionHeldLaw
namespace Go.Proofs.Ytfenfgbkphpboaa
open Go.RowKit

theorem of3_any (s : SD) (w : World) : Calls Try.prog 14 #[.agg #[.int .i64 s.t, .int .i64 s.i, .int .i64 s.q, .string s.o]] w fun e w' => e = .returned (.agg #[.int .i64 s.t, .int .i64 s.i, .int .i64 s.q, .string s.o]) ∧ Below w.heap.size w w' := by
  go_enter Try.func14, Try.ntmps14
  go_wp2_with fail
  exact bodyPost_ret (v := .agg #[.int .i64 s.t, .int .i64 s.i, .int .i64 s.q, .string s.o]) (by simp [results, Try.results14, go_sem]) rfl ⟨rfl, ((Below.refl _ _).alloc (Nat.le_refl _) _).alloc (by simp) _⟩

theorem owns_mono' {w : World} {B C : Nat} {v : Value} {l : List UInt8} (h : OwnB w B v l) (hc : C ≤ B) : OwnB w C v l := by
  refine ⟨h.1, ?_⟩
  rcases h.2 with h1 | ⟨g, cap, cur, h1, hb, rest⟩
  · exact .inl h1
  · exact .inr ⟨g, cap, cur, h1, by omega, rest⟩

set_option maxRecDepth 100000 in
set_option maxHeartbeats 16000000 in
theorem wireParts_any (v : AD) (va : Option Addr) (vc : Nat) (s : SD) (x : RD) (a : Option Addr) (c : Nat) (gv : GoV v) (gs : GoS s) (gx : GoR x) (w : World) (hv : Reads w va v.len v.z) (hr : ReadsA w a x.len x.A) :
    Calls Try.prog 3 #[.agg #[.int .i64 v.k, .int .i64 v.n, .string v.s, .slice va v.len vc], .agg #[.int .i64 s.t, .int .i64 s.i, .int .i64 s.q, .string s.o], .agg #[.string x.key, .int .i64 x.t, .int .i64 x.i, .int .i64 x.q, .string x.o, .slice a x.len c]] w fun e w' => e = .returned (.bool true) ∧ Below w.heap.size w w' := by
  obtain ⟨i0, hi, hz0, hz1, hz2⟩ := info_parts infoB
  have und := undB
  have HV := Lib.hid hv
  have HR := Lib.hid hr
  have hgs := gs.o
  have hgv := gv.s
  have hgl := gv.l
  have hxl := hr.1
  unfold maxLen at hgs hgv hgl hxl
  clear hv hr
  go_enter Try.func3, Try.ntmps3
  go_upto_region 1 with fail
  generalize hW : World.alloc (World.alloc (World.alloc w _) _) _ = W
  have K0 := Lib.hid (KP.start (v := v) (va := va) (vc := vc) (s := s) (x := x) (a := a) (c := c) w HV.out HR.out _ _ _ rfl rfl rfl hW.symm)
  clear hW HV HR
  go_wp2_with fail
  refine (known_any W).mono ?_
  rintro e w1 ⟨rfl, hb⟩
  have K1 := Lib.hid (K0.out.kept hb)
  clear hb K0
  obtain ⟨v0, v1, v2, v3⟩ := box4 K1.out.h0
  obtain ⟨s0, s1, s2, s3⟩ := box4 K1.out.h1
  obtain ⟨x0, x1, x2, x3, x4, x5⟩ := box6 K1.out.h2
  have F1 := Lib.hid (few2_any v.k v.n v.s va v.len vc gv.s gv.l w1)
  have RT1 := Lib.hid (show ∀ w', Below w1.heap.size w1 w' → Below w.heap.size w w' from fun w' hb => (K1.out.kept hb).bw)
  by_cases h1 : (decide (v.s.size ≤ 200) && decide (v.len ≤ 40)) = false
  · rw [h1] at F1
    go_wp2_with fail
    refine F1.out.mono ?_
    rintro e w2 ⟨rfl, hb⟩
    have P := Lib.hid (RT1.out _ hb)
    clear hb
    go_wp2_with fail
    go_ret
    exact ⟨rfl, P.out⟩
  have h1' : (decide (v.s.size ≤ 200) && decide (v.len ≤ 40)) = true := by simpa using h1
  rw [h1'] at F1
  have hvv : v.s.size ≤ 200 ∧ v.len ≤ 40 := by simpa using h1'
  clear h1 h1'
  go_wp2_with fail
  refine F1.out.mono ?_
  rintro e w2 ⟨rfl, hb⟩
  have K2 := Lib.hid (K1.out.kept hb)
  clear hb K1 F1 RT1 v0 v1 v2 v3 s0 s1 s2 s3 x0 x1 x2 x3 x4 x5
  obtain ⟨v0, v1, v2, v3⟩ := box4 K2.out.h0
  obtain ⟨s0, s1, s2, s3⟩ := box4 K2.out.h1
  obtain ⟨x0, x1, x2, x3, x4, x5⟩ := box6 K2.out.h2
  by_cases h2 : 16 < v.len
  · have P := Lib.hid K2.out.bw
    go_wp2_with fail
    go_ret
    exact ⟨rfl, P.out⟩
  by_cases h3 : 100 < s.o.size
  · have P := Lib.hid K2.out.bw
    go_wp2_with fail
    go_ret
    exact ⟨rfl, P.out⟩
  have F2 := Lib.hid (few_any x a c gx.k gx.o gx.s w2 K2.out.rr.plain)
  have RT2 := Lib.hid (show ∀ w', Below w2.heap.size w2 w' → Below w.heap.size w w' from fun w' hb => (K2.out.kept hb).bw)
  by_cases h4 : fewR x = false
  · rw [h4] at F2
    go_wp2_with fail
    refine F2.out.mono ?_
    rintro e w3 ⟨rfl, hb⟩
    have P := Lib.hid (RT2.out _ hb)
    clear hb
    go_wp2_with fail
    go_ret
    exact ⟨rfl, P.out⟩
  have h4' : fewR x = true := by simpa using h4
  rw [h4'] at F2
  have FX := Lib.hid (show FewR x by
    obtain ⟨e1, e2, e3, e4⟩ := fewR_all h4'
    exact ⟨e1, e2, gx.t, gx.i, gx.q, gx.n, e4, e3⟩)
  clear h4 h4' gx
  go_wp2_with fail
  refine F2.out.mono ?_
  rintro e w3 ⟨rfl, hb⟩
  have K3 := Lib.hid (K2.out.kept hb)
  clear hb K2 F2 RT2 v0 v1 v2 v3 s0 s1 s2 s3 x0 x1 x2 x3 x4 x5
  obtain ⟨x0, x1, x2, x3, x4, x5⟩ := box6 K3.out.h2
  by_cases h5 : 32 < x.len
  · have P := Lib.hid K3.out.bw
    go_wp2_with fail
    go_ret
    exact ⟨rfl, P.out⟩
  have hl40 := FX.out.l
  go_wp2_with fail
  go_loopw [7] (fun i wr => ∃ k : Nat, i = .int .i64 k ∧ k ≤ x.len ∧ Hid (∀ j, j < k → (x.A j).len ≤ 16) ∧ Hid (KP w wr (w.heap.size + 3) v va vc s x a c)) (fun i _ => x.len - (intOf i).toNat)
  case atStart => exact ⟨0, rfl, Nat.zero_le _, Lib.hid (fun j hj => by omega), K3⟩
  case round =>
    obtain ⟨k, rfl, hk, hS, hK⟩ := hrel
    clear x0 x1 x2 x3 x4 x5 K3
    obtain ⟨x0, x1, x2, x3, x4, x5⟩ := box6 hK.out.h2
    by_cases hlt : k < x.len
    · obtain ⟨b, off, hab, -, hc⟩ := hK.out.rr.2.resolve_left (by omega)
      obtain ⟨y, ce, h5c, -⟩ := hc k hlt
      subst hab
      obtain ⟨p0, p1, p2, p3, p4⟩ := h5c
      by_cases h16 : 16 < (x.A k).len
      · have P := Lib.hid hK.out.bw
        clear hc
        go_wp2_with fail
        go_ret
        exact ⟨rfl, P.out⟩
      · have S2 := Lib.hid (show ∀ j, j < k + 1 → (x.A j).len ≤ 16 from fun j hj => by
          by_cases e : j = k
          · subst e; omega
          · exact hS.out j (by omega))
        clear hc
        go_wp2_with fail
        go_roundw
        case rel => exact ⟨k + 1, by go_num, by omega, S2, hK⟩
        case measure => simp [intOf]; omega
    · obtain rfl : k = x.len := by omega
      go_upto_region 11 with fail
      generalize hW : World.alloc wr _ = W4
      have K4 := Lib.hid (hK.out.kept (show Below wr.heap.size wr W4 by rw [← hW]; exact below_new wr _))
      have hp := hK.out.le
      obtain ⟨p, hpe⟩ : ∃ p, wr.heap.size = p := ⟨_, rfl⟩
      have E4 := Lib.hid (show EncH W4 p (· = p) [] by rw [← hW, ← hpe]; exact EncH.new wr)
      rw [hpe] at hp
      rw [hpe]
      clear hW hK hpe x0 x1 x2 x3 x4 x5
      have SL := Lib.hid hS.out
      have hf : FewA v := ⟨gv.m, hvv.1, hvv.2⟩
      have hVl := encV_len hf gv.n
      have hSl := encSt_len gs.t gs.i gs.q (show s.o.size ≤ 100 by omega)
      have hRl := encR_len FX.out
      have DV := Lib.hid (fun r => dVal_enc gv.n (by omega) (fun _ => by omega) r)
      have DS := Lib.hid (fun r => dSt_enc gs.t gs.i gs.q (show s.o.size ≤ 9223372036854775807 by omega) r)
      have DR := Lib.hid (fun r => dRow_enc (x := x) ⟨by have := FX.out.k; omega, by have := FX.out.o; omega, FX.out.t, FX.out.i, FX.out.q, FX.out.n, fun j hj => ⟨by have := (FX.out.f j hj).1; omega, by have := (FX.out.f j hj).2.1; omega⟩, fun j hj _ => SL.out j hj, by omega⟩ r)
      have C5 := Lib.hid (putValue_any p (· = p) [] v va vc hf gv.n (by simp) W4 E4.out (K4.out.rv.mono (fun b hb _ e => by omega)))
      have C6 := Lib.hid (fun w5 (h : EncS W4 (· = p) p w5 (encV v)) => h.call (f := 9) (fun F hE _ _ => putStamp_any p F _ s.t s.i s.q s.o gs.t gs.i gs.q (by omega) (by omega) w5 hE))
      have C7 := Lib.hid (fun w6 (K : KP w w6 (w.heap.size + 3) v va vc s x a c) (h : EncS W4 (· = p) p w6 (encV v ++ encSt s.t s.i s.q s.o)) => h.call (f := 10) (fun F hE hg _ => putRow_any p F _ x a c FX.out (by rw [List.length_append]; omega) w6 hE (K.rr.mono (fun b hb _ hF => by have := K4.out.le; rcases hg b hF with e | e <;> omega))))
      have PV := Lib.hid (fun w h => rPutValue_any v va vc hf gv.n w h)
      have PS := Lib.hid (fun w => rPutStamp_any s.t s.i s.q s.o gs.t gs.i gs.q (by omega) w)
      have PR := Lib.hid (fun a c w h => rPutRow_any x a c FX.out w h)
      have CV := Lib.hid (And.intro (canV_k v) (cmpV_can v))
      obtain ⟨V, hV⟩ : ∃ V, encV v = V := ⟨_, rfl⟩
      obtain ⟨S1, hS1⟩ : ∃ V, encSt s.t s.i s.q s.o = V := ⟨_, rfl⟩
      obtain ⟨R, hR⟩ : ∃ V, encR x = V := ⟨_, rfl⟩
      obtain ⟨X, hX⟩ : ∃ V, canV v = V := ⟨_, rfl⟩
      rw [hV] at hVl DV C5 C6 C7 PV
      rw [hS1] at hSl DS C6 C7 PS
      rw [hR] at hRl DR C7 PR
      rw [hX] at DV CV
      rw [List.nil_append] at C5
      clear hV hS1 hR hX hf hS
      obtain ⟨v0, v1, v2, v3⟩ := box4 K4.out.h0
      go_wp2_with fail
      refine C5.out.mono ?_
      rintro e w5 ⟨rfl, hE5⟩
      have K5 := Lib.hid (K4.out.own (hE5.kept.mono (fun k hk _ => by omega)))
      have E5 := Lib.hid hE5
      have C6b := Lib.hid (C6.out w5 hE5)
      clear hE5 C5 C6 v0 v1 v2 v3 E4
      obtain ⟨s0, s1, s2, s3⟩ := box4 K5.out.h1
      go_wp2_with fail
      refine C6b.out.mono ?_
      rintro e w6 ⟨rfl, hE6⟩
      have K6 := Lib.hid (K4.out.own (hE6.kept.mono (fun k hk _ => by omega)))
      have C7b := Lib.hid (C7.out w6 K6.out hE6)
      clear hE6 C6b C7 s0 s1 s2 s3 K5 E5
      obtain ⟨x0, x1, x2, x3, x4, x5⟩ := box6 K6.out.h2
      go_wp2_with fail
      refine C7b.out.mono ?_
      rintro e w7 ⟨rfl, hE7⟩
      have K7 := Lib.hid (K4.out.own (hE7.kept.mono (fun k hk _ => by omega)))
      have E7 := Lib.hid hE7
      clear hE7 C7b x0 x1 x2 x3 x4 x5 K6
      have XK := Lib.hid (p := ∀ w', Below w7.heap.size w7 w' → (w'.cell? ⟨w.heap.size, 0, none⟩ = some (.int .i64 v.k) ∧ w'.cell? ⟨w.heap.size, 1, none⟩ = some (.int .i64 v.n) ∧ w'.cell? ⟨w.heap.size, 2, none⟩ = some (.string v.s) ∧ w'.cell? ⟨w.heap.size, 3, none⟩ = some (.slice va v.len vc)) ∧ w'.cell? ⟨w.heap.size + 1, 0, none⟩ = some (.int .i64 s.t) ∧ w'.cell? ⟨w.heap.size + 1, 1, none⟩ = some (.int .i64 s.i) ∧ w'.cell? ⟨w.heap.size + 1, 2, none⟩ = some (.int .i64 s.q) ∧ w'.cell? ⟨w.heap.size + 1, 3, none⟩ = some (.string s.o)) (fun w' hb => ⟨box4 (K7.out.kept hb).h0, box4 (K7.out.kept hb).h1⟩)
      have HDR := Lib.hid (show Below w7.heap.size w7 w7.drew from ⟨rfl, rfl, rfl, Nat.le_refl _, fun _ _ => rfl⟩)
      have O2 := Lib.hid (fun w => (show Calls Try.prog 12 #[.agg #[.int .i64 v.k, .int .i64 v.n, .string v.s, .slice va v.len vc]] w fun e w' => e = .returned (.agg #[.int .i64 v.k, .int .i64 v.n, .string v.s, .slice va v.len vc]) ∧ Below w.heap.size w w' from of2_any v.k v.n v.s va v.len vc w))
      have O3 := Lib.hid (fun w => of3_any s w)
      obtain ⟨⟨v0, v1, v2, v3⟩, s0, s1, s2, s3⟩ := XK.out w7 (Below.refl _ _)
      go_upto_region 14 with fail
      go_region_held3 (fun w' => (w'.cell? ⟨w.heap.size, 0, none⟩ = some (.int .i64 v.k) ∧ w'.cell? ⟨w.heap.size, 1, none⟩ = some (.int .i64 v.n) ∧ w'.cell? ⟨w.heap.size, 2, none⟩ = some (.string v.s) ∧ w'.cell? ⟨w.heap.size, 3, none⟩ = some (.slice va v.len vc)) ∧ w'.cell? ⟨w.heap.size + 1, 0, none⟩ = some (.int .i64 s.t) ∧ w'.cell? ⟨w.heap.size + 1, 1, none⟩ = some (.int .i64 s.i) ∧ w'.cell? ⟨w.heap.size + 1, 2, none⟩ = some (.int .i64 s.q) ∧ w'.cell? ⟨w.heap.size + 1, 3, none⟩ = some (.string s.o)) (first | assumption | (refine ⟨⟨?_, ?_, ?_, ?_⟩, ?_, ?_, ?_, ?_⟩ <;> (first | assumption | (go_keep; done)))) (first
        | (go_at_call 12
           with_reducible refine (O2.out _).mono ?_
           rintro e wa ⟨rfl, hb⟩
           have Ba := Lib.hid (HDR.out.trans hb)
           have cc := XK.out _ Ba.out
           clear hb)
        | (go_at_call 11
           with_reducible refine (PV.out _ (K7.out.kept Ba.out).rv.plain).mono ?_
           rintro e wb ⟨a2, c2, rfl, ho, hb⟩
           have Bb := Lib.hid (Ba.out.trans (hb.mono Ba.out.size))
           have Ob := Lib.hid (show OwnB wb wa.heap.size (.slice a2 V.length c2) V from ho)
           have cc := XK.out _ Bb.out
           clear ho hb)
        | (go_at_call 14
           with_reducible refine (O3.out _).mono ?_
           rintro e wc ⟨rfl, hb⟩
           have Bc := Lib.hid (Bb.out.trans (hb.mono Bb.out.size))
           have Oc := Lib.hid (Ob.out.below hb)
           have cc := XK.out _ Bc.out
           clear hb)
        | (go_at_call 13
           with_reducible refine (PS.out _).mono ?_
           rintro e wd ⟨a3, c3, rfl, ho, hb⟩
           have Bd := Lib.hid (Bc.out.trans (hb.mono Bc.out.size))
           have Od := Lib.hid (owns_mono' (C := w7.heap.size) (Oc.out.below hb) Ba.out.size)
           have Fd := Lib.hid ho.br.from
           have cc := XK.out _ Bd.out
           clear ho hb)
        | (refine step_append_from rfl (.tmp 71) (.tmp 74) 36 rfl (base := w7.heap.size) und hi hz0 hz1 hz2 rfl (.slice a2 V.length c2) (.slice a3 S1.length c3) V.length S1.length (bC V) (bC S1) (by first | (simp [Act.eval]; done) | fail) (by first | (simp [Act.eval]; done) | fail) Od.out Fd.out (bC_one _) (by unfold maxLen; omega) (by omega) Bd.out.size ?_
           intro v' we ho hg hnn
           obtain ⟨hm, hO⟩ := appB ho
           have Be := Lib.hid (Bd.out.grown hg Bd.out.size (fun q hq => (Od.out.lt q hq).1))
           have Oe := Lib.hid (And.intro hm hO)
           have cc := XK.out _ Be.out
           clear ho hg hnn hm hO)
        | fail)
      obtain ⟨n4, hn4⟩ : ∃ n, (V ++ S1).length = n := ⟨_, rfl⟩
      have hn4' : n4 ≤ 560 := by rw [← hn4, List.length_append]; omega
      obtain ⟨a4, c4, rfl⟩ := Oe.out.2.slice
      have O5 := Lib.hid (show we.ownsRow w7.heap.size 5 1 (.slice a4 n4 c4) n4 (bC (V ++ S1)) by have := Oe.out.2; rw [hn4] at this; exact this.row hn4.symm)
      try rw [hn4]
      have Ke := Lib.hid (K7.out.kept Be.out)
      obtain ⟨x0, x1, x2, x3, x4, x5⟩ := box6 Ke.out.h2
      have OX := Lib.hid (ofR_any x a c (by omega) we Ke.out.rr.plain)
      clear Oe Od Oc Ob Fd Ba Bb Bc Bd cc HDR XK O3 PV PS
      go_wp2_with fail
      refine OX.out.mono ?_
      rintro e wf ⟨⟨a5, c5, rfl, hr5⟩, hb⟩
      have Bf := Lib.hid (Be.out.trans (hb.mono Be.out.size))
      have O6 := Lib.hid (owns_low O5.out hb)
      have PRf := Lib.hid (PR.out a5 c5 wf hr5)
      clear hb hr5 OX PR O5 Be Ke x0 x1 x2 x3 x4 x5
      go_wp2_with fail
      refine PRf.out.mono ?_
      rintro e wg ⟨a6, c6, rfl, ho, hb⟩
      have Bg := Lib.hid (Bf.out.trans (hb.mono Bf.out.size))
      have Og := Lib.hid (owns_low O6.out hb)
      have Fg := Lib.hid ho.br.from
      clear ho hb PRf O6 Bf
      go_wp2_with (at_builtin; refine wpList_append_from rfl _ _ 36 rfl und hi hz0 hz1 hz2 rfl _ _ n4 R.length (bC (V ++ S1)) (bC R) rfl rfl Og.out Fg.out (bC_one _) (by unfold maxLen; omega) (by omega) Bg.out.size ?_)
      intro v' wh ho hg hnn
      obtain ⟨a7, c7, rfl⟩ := own_row_slice ho
      have Bh := Lib.hid (Bg.out.grown hg Bg.out.size (fun q hq => (Og.out.lt q hq).1))
      obtain ⟨L, hL⟩ : ∃ L, V ++ S1 ++ R = L := ⟨_, rfl⟩
      have hn7 : n4 + R.length = L.length := by rw [← hL, List.length_append, hn4]
      have O7 := Lib.hid (show OwnB wh w7.heap.size (.slice a7 L.length c7) L by have := OwnB.cast (l := L) ho hn7 (by rw [← hL, bC_app (V ++ S1) R]); rw [hn7] at this; exact this)
      try rw [hn7]
      have hLl : L.length ≤ 30000 := by omega
      have e1 : dVal (L, 0) = (X, (S1 ++ R, 0)) := by rw [← hL, List.append_assoc]; exact DV.out _
      have e2 : dSt (S1 ++ R, 0) = (⟨s.t, s.i, s.q, s.o⟩, (R, 0)) := DS.out R
      have e3 : dRow (R, 0) = (canR x, ([], 0)) := by have := DR.out []; rwa [List.append_nil] at this
      have HZ := Lib.hid (And.intro (sameR_can x) (canR_len x))
      obtain ⟨Z, hZ⟩ : ∃ Z, canR x = Z := ⟨_, rfl⟩
      rw [hZ] at e3 HZ
      have E123 := Lib.hid (And.intro e1 (And.intro e2 e3))
      have E7b := E7.out
      rw [hL] at E7b
      have E7 := Lib.hid E7b
      have HDR2 := Lib.hid (show Below wh.heap.size wh wh.drew from ⟨rfl, rfl, rfl, Nat.le_refl _, fun _ _ => rfl⟩)
      have BY := Lib.hid (bytes_any (E7.out.below (Bh.out.trans (HDR2.out.mono Bh.out.size))) (by omega))
      have cc : (convert 36 9 (.slice a7 L.length c7)).run Try.prog wh.drew = .ok (.string ⟨L.toArray⟩) wh.drew := strB (w := wh.drew) (OwnB.br (B := w7.heap.size) (O7.out.below HDR2.out))
      clear ho hg hnn Og Fg Bg hn4 hn4' hn7 hZ hL DV DS DR E7b e1 e2 e3
      go_upto_region 16 with fail
      go_region_held_law (fun w' => (convert 36 9 (.slice a7 L.length c7)).run Try.prog w' = .ok (.string ⟨L.toArray⟩) w') (first | assumption | exact cc) (first
        | (go_at_call 17
           with_reducible refine BY.out.mono ?_
           rintro e wi ⟨a8, c8, rfl, ho, hb⟩
           have Bi := Lib.hid (Bh.out.trans ((HDR2.out.trans hb).mono Bh.out.size))
           have Oi := Lib.hid (O7.out.below (HDR2.out.trans hb))
           have cc := strB (OwnB.br (B := w7.heap.size) Oi.out)
           have t2 := strB ho.br
           clear ho hb)
        | fail)
      clear cc t2 BY HDR2 O7 Bh
      have OF := Lib.hid (of_any a7 c7 L (by omega) wi (OwnB.br (B := w7.heap.size) Oi.out))
      go_wp2_with fail
      refine OF.out.mono ?_
      rintro e wj ⟨q, rfl, hd, hb⟩
      have hq := hd.at
      have Kj := Lib.hid (K7.out.kept (Bi.out.trans (hb.mono Bi.out.size)))
      have hqN : w.heap.size + 3 ≤ q := by have := Bi.out.size; have := K7.out.le; have := hq.1; omega
      have hqj : q < wj.heap.size := hq.2
      obtain ⟨F, hF⟩ : ∃ F : Nat → Prop, (fun k => wi.heap.size ≤ k ∧ k < wj.heap.size) = F := ⟨_, rfl⟩
      rw [hF] at hd
      have HF := Lib.hid (show ∀ k, F k → k < wj.heap.size from fun k hk => by rw [← hF] at hk; exact hk.2)
      have TV := Lib.hid (takeValue_any q F (L, 0) wj HF.out hd)
      rw [E123.out.1] at TV
      clear hd hb hq hF OF Oi Bi E7 K7
      go_wp2_with fail
      refine TV.out.mono ?_
      rintro e wk ⟨⟨y1, d1, rfl, hr1⟩, hd, hk⟩
      go_upto_region 20 with fail
      generalize hW : World.alloc wk _ = Vk
      have bn : Below wk.heap.size wk Vk := by rw [← hW]; exact below_new wk _
      have Kk := Lib.hid ((Kj.out.own (hk.mono (fun b hb _ => by omega))).kept bn)
      have Xk := Lib.hid (show Vk.heap[wk.heap.size]? = some (.cells #[.int .i64 X.k, .int .i64 X.n, .string X.s, .slice y1 X.len d1] 24 (0, 0)) by rw [← hW]; exact heap_alloc_new wk _)
      have Lk := Lib.hid (hr1.kept (keptNew bn) (fun _ _ h => h))
      have hjk : wj.heap.size ≤ Vk.heap.size := Nat.le_trans hk.size bn.size
      have hjx : wj.heap.size ≤ wk.heap.size := hk.size
      have TS := Lib.hid (takeStamp_any q F (S1 ++ R, 0) Vk (fun k hk => by have := HF.out k hk; omega) (hd.kept (keptNew bn) (fun _ _ h => h)))
      rw [E123.out.2.1] at TS
      simp only at TS
      obtain ⟨bx, hbx⟩ : ∃ b, wk.heap.size = b := ⟨_, rfl⟩
      rw [hbx] at Xk hjx
      rw [hbx]
      clear hd hk hW bn hbx TV Kj hr1
      go_wp2_with fail
      refine TS.out.mono ?_
      rintro e wl ⟨rfl, hd, hk⟩
      go_upto_region 21 with fail
      generalize hW : World.alloc wl _ = Vl
      have bn : Below wl.heap.size wl Vl := by rw [← hW]; exact below_new wl _
      have Kl := Lib.hid ((Kk.out.own (hk.mono (fun b hb _ => by omega))).kept bn)
      have Xl := Lib.hid (show Vl.heap[bx]? = some (.cells #[.int .i64 X.k, .int .i64 X.n, .string X.s, .slice y1 X.len d1] 24 (0, 0)) from (bn.block _ (lt_of_block (hk.heap Xk.out (by omega)))).trans (hk.heap Xk.out (by omega)))
      have Ll := Lib.hid ((Lk.out.kept hk (fun b hb e => by omega)).kept (keptNew bn) (fun _ _ h => h))
      have Yl := Lib.hid (show Vl.heap[wl.heap.size]? = some (.cells #[.int .i64 s.t, .int .i64 s.i, .int .i64 s.q, .string s.o] 26 (0, 0)) by rw [← hW]; exact heap_alloc_new wl _)
      have hjl : wj.heap.size ≤ Vl.heap.size := Nat.le_trans hjk (Nat.le_trans hk.size bn.size)
      have hjy : wj.heap.size ≤ wl.heap.size := Nat.le_trans hjk hk.size
      have TR0 := Lib.hid (takeRow_any q F (R, 0) Vl (fun k hk => by have := HF.out k hk; omega) (hd.kept (keptNew bn) (fun _ _ h => h)))
      rw [E123.out.2.2] at TR0
      simp only at TR0
      obtain ⟨by', hby⟩ : ∃ b, wl.heap.size = b := ⟨_, rfl⟩
      rw [hby] at Yl hjy
      rw [hby]
      clear hd hk hW bn hby TS Kk Xk Lk
      go_wp2_with fail
      refine TR0.out.mono ?_
      rintro e wm ⟨⟨y3, d3, rfl, hr3⟩, hd, hk⟩
      go_upto_region 22 with fail
      generalize hW : World.alloc wm _ = U
      have bn : Below wm.heap.size wm U := by rw [← hW]; exact below_new wm _
      have KU := Lib.hid ((Kl.out.own (hk.mono (fun b hb _ => by omega))).kept bn)
      have XU := Lib.hid (show U.heap[bx]? = some (.cells #[.int .i64 X.k, .int .i64 X.n, .string X.s, .slice y1 X.len d1] 24 (0, 0)) from (bn.block _ (lt_of_block (hk.heap Xl.out (by omega)))).trans (hk.heap Xl.out (by omega)))
      have LU := Lib.hid (((Ll.out.kept hk (fun b hb e => by omega)).kept (keptNew bn) (fun _ _ h => h)).plain)
      have YU := Lib.hid (show U.heap[by']? = some (.cells #[.int .i64 s.t, .int .i64 s.i, .int .i64 s.q, .string s.o] 26 (0, 0)) from (bn.block _ (lt_of_block (hk.heap Yl.out (by omega)))).trans (hk.heap Yl.out (by omega)))
      have ZU := Lib.hid (show U.heap[wm.heap.size]? = some (.cells #[.string Z.key, .int .i64 Z.t, .int .i64 Z.i, .int .i64 Z.q, .string Z.o, .slice y3 Z.len d3] 29 (0, 0)) by rw [← hW]; exact heap_alloc_new wm _)
      have RU := Lib.hid ((hr3.kept (keptNew bn) (fun _ _ h => h)).plain)
      have DU := Lib.hid (hd.kept (keptNew bn) (fun _ _ h => h))
      obtain ⟨bz, hbz⟩ : ∃ b, wm.heap.size = b := ⟨_, rfl⟩
      rw [hbz] at ZU
      rw [hbz]
      have hkk : (X.k == v.k) = true := by rw [CV.out.1]; simp
      have hZl : Z.len ≤ 1000 := by rw [HZ.out.2]; omega
      have HC := Lib.hid (p := ∀ w', Below U.heap.size U w' → (w'.cell? ⟨bx, 0, none⟩ = some (.int .i64 X.k) ∧ w'.cell? ⟨bx, 1, none⟩ = some (.int .i64 X.n) ∧ w'.cell? ⟨bx, 2, none⟩ = some (.string X.s) ∧ w'.cell? ⟨bx, 3, none⟩ = some (.slice y1 X.len d1)) ∧ (w'.cell? ⟨w.heap.size, 0, none⟩ = some (.int .i64 v.k) ∧ w'.cell? ⟨w.heap.size, 1, none⟩ = some (.int .i64 v.n) ∧ w'.cell? ⟨w.heap.size, 2, none⟩ = some (.string v.s) ∧ w'.cell? ⟨w.heap.size, 3, none⟩ = some (.slice va v.len vc)) ∧ (w'.cell? ⟨by', 0, none⟩ = some (.int .i64 s.t) ∧ w'.cell? ⟨by', 1, none⟩ = some (.int .i64 s.i) ∧ w'.cell? ⟨by', 2, none⟩ = some (.int .i64 s.q) ∧ w'.cell? ⟨by', 3, none⟩ = some (.string s.o)) ∧ (w'.cell? ⟨w.heap.size + 1, 0, none⟩ = some (.int .i64 s.t) ∧ w'.cell? ⟨w.heap.size + 1, 1, none⟩ = some (.int .i64 s.i) ∧ w'.cell? ⟨w.heap.size + 1, 2, none⟩ = some (.int .i64 s.q) ∧ w'.cell? ⟨w.heap.size + 1, 3, none⟩ = some (.string s.o)) ∧ (w'.cell? ⟨bz, 0, none⟩ = some (.string Z.key) ∧ w'.cell? ⟨bz, 1, none⟩ = some (.int .i64 Z.t) ∧ w'.cell? ⟨bz, 2, none⟩ = some (.int .i64 Z.i) ∧ w'.cell? ⟨bz, 3, none⟩ = some (.int .i64 Z.q) ∧ w'.cell? ⟨bz, 4, none⟩ = some (.string Z.o) ∧ w'.cell? ⟨bz, 5, none⟩ = some (.slice y3 Z.len d3)) ∧ w'.cell? ⟨w.heap.size + 2, 0, none⟩ = some (.string x.key) ∧ w'.cell? ⟨w.heap.size + 2, 1, none⟩ = some (.int .i64 x.t) ∧ w'.cell? ⟨w.heap.size + 2, 2, none⟩ = some (.int .i64 x.i) ∧ w'.cell? ⟨w.heap.size + 2, 3, none⟩ = some (.int .i64 x.q) ∧ w'.cell? ⟨w.heap.size + 2, 4, none⟩ = some (.string x.o) ∧ w'.cell? ⟨w.heap.size + 2, 5, none⟩ = some (.slice a x.len c)) (fun w' hb => ⟨box4 ((hb.block _ (lt_of_block XU.out)).trans XU.out), box4 (KU.out.kept hb).h0, box4 ((hb.block _ (lt_of_block YU.out)).trans YU.out), box4 (KU.out.kept hb).h1, box6 ((hb.block _ (lt_of_block ZU.out)).trans ZU.out), box6 (KU.out.kept hb).h2⟩)
      have HDR := Lib.hid (show Below U.heap.size U U.drew from ⟨rfl, rfl, rfl, Nat.le_refl _, fun _ _ => rfl⟩)
      have O2X := Lib.hid (fun w => (show Calls Try.prog 12 #[.agg #[.int .i64 X.k, .int .i64 X.n, .string X.s, .slice y1 X.len d1]] w fun e w' => e = .returned (.agg #[.int .i64 X.k, .int .i64 X.n, .string X.s, .slice y1 X.len d1]) ∧ Below w.heap.size w w' from of2_any X.k X.n X.s y1 X.len d1 w))
      have CM := Lib.hid (fun w (h1 : Reads w y1 X.len X.z) (h2 : Reads w va v.len v.z) => (show Calls Try.prog 22 #[.agg #[.int .i64 X.k, .int .i64 X.n, .string X.s, .slice y1 X.len d1], .agg #[.int .i64 v.k, .int .i64 v.n, .string v.s, .slice va v.len vc]] w fun e w' => e = .returned (.int .i64 0) ∧ Below w.heap.size w w' by
        have := rCompare_any X.k X.n X.s y1 X.len d1 X.z v.k v.n v.s va v.len vc v.z w h1 h2
        rw [CV.out.2] at this
        exact this))
      clear hW bn hd hk hr3 hbz TR0 Kl Xl Ll Yl E123
      obtain ⟨⟨p0, p1, p2, p3⟩, ⟨v0, v1, v2, v3⟩, ⟨q0, q1, q2, q3⟩, ⟨s0, s1, s2, s3⟩, ⟨z0, z1, z2, z3, z4, z5⟩, x0, x1, x2, x3, x4, x5⟩ := HC.out U (Below.refl _ _)
      go_region_held3 (fun w' => (w'.cell? ⟨bx, 0, none⟩ = some (.int .i64 X.k) ∧ w'.cell? ⟨bx, 1, none⟩ = some (.int .i64 X.n) ∧ w'.cell? ⟨bx, 2, none⟩ = some (.string X.s) ∧ w'.cell? ⟨bx, 3, none⟩ = some (.slice y1 X.len d1)) ∧ (w'.cell? ⟨w.heap.size, 0, none⟩ = some (.int .i64 v.k) ∧ w'.cell? ⟨w.heap.size, 1, none⟩ = some (.int .i64 v.n) ∧ w'.cell? ⟨w.heap.size, 2, none⟩ = some (.string v.s) ∧ w'.cell? ⟨w.heap.size, 3, none⟩ = some (.slice va v.len vc)) ∧ (w'.cell? ⟨by', 0, none⟩ = some (.int .i64 s.t) ∧ w'.cell? ⟨by', 1, none⟩ = some (.int .i64 s.i) ∧ w'.cell? ⟨by', 2, none⟩ = some (.int .i64 s.q) ∧ w'.cell? ⟨by', 3, none⟩ = some (.string s.o)) ∧ (w'.cell? ⟨w.heap.size + 1, 0, none⟩ = some (.int .i64 s.t) ∧ w'.cell? ⟨w.heap.size + 1, 1, none⟩ = some (.int .i64 s.i) ∧ w'.cell? ⟨w.heap.size + 1, 2, none⟩ = some (.int .i64 s.q) ∧ w'.cell? ⟨w.heap.size + 1, 3, none⟩ = some (.string s.o)) ∧ (w'.cell? ⟨bz, 0, none⟩ = some (.string Z.key) ∧ w'.cell? ⟨bz, 1, none⟩ = some (.int .i64 Z.t) ∧ w'.cell? ⟨bz, 2, none⟩ = some (.int .i64 Z.i) ∧ w'.cell? ⟨bz, 3, none⟩ = some (.int .i64 Z.q) ∧ w'.cell? ⟨bz, 4, none⟩ = some (.string Z.o) ∧ w'.cell? ⟨bz, 5, none⟩ = some (.slice y3 Z.len d3)) ∧ w'.cell? ⟨w.heap.size + 2, 0, none⟩ = some (.string x.key) ∧ w'.cell? ⟨w.heap.size + 2, 1, none⟩ = some (.int .i64 x.t) ∧ w'.cell? ⟨w.heap.size + 2, 2, none⟩ = some (.int .i64 x.i) ∧ w'.cell? ⟨w.heap.size + 2, 3, none⟩ = some (.int .i64 x.q) ∧ w'.cell? ⟨w.heap.size + 2, 4, none⟩ = some (.string x.o) ∧ w'.cell? ⟨w.heap.size + 2, 5, none⟩ = some (.slice a x.len c)) (first | assumption | (refine ⟨⟨?_, ?_, ?_, ?_⟩, ⟨?_, ?_, ?_, ?_⟩, ⟨?_, ?_, ?_, ?_⟩, ⟨?_, ?_, ?_, ?_⟩, ⟨?_, ?_, ?_, ?_, ?_, ?_⟩, ?_, ?_, ?_, ?_, ?_, ?_⟩ <;> (first | assumption | (go_keep; done)))) (first
        | (go_at_call 12
           with_reducible refine (O2X.out _).mono ?_
           rintro e u1 ⟨rfl, hb⟩
           have B1 := Lib.hid (HDR.out.trans hb)
           have cc := HC.out _ B1.out
           clear hb)
        | (go_at_call 12
           with_reducible refine (O2.out _).mono ?_
           rintro e u2 ⟨rfl, hb⟩
           have B2 := Lib.hid (B1.out.trans (hb.mono B1.out.size))
           have cc := HC.out _ B2.out
           clear hb)
        | (go_at_call 22
           with_reducible refine (CM.out _ (LU.out.kept B2.out) (KU.out.kept B2.out).rv.plain).mono ?_
           rintro e u3 ⟨rfl, hb⟩
           have B3 := Lib.hid (B2.out.trans (hb.mono B2.out.size))
           have cc := HC.out _ B3.out
           clear hb)
        | (go_at_call 16
           with_reducible refine (ofR_any Z y3 d3 hZl _ (RU.out.kept B3.out)).mono ?_
           rintro e u4 ⟨⟨a9, c9, rfl, hr9⟩, hb⟩
           have B4 := Lib.hid (B3.out.trans (hb.mono B3.out.size))
           have R4 := Lib.hid hr9
           have cc := HC.out _ B4.out
           clear hb hr9)
        | (go_at_call 16
           with_reducible refine (ofR_any x a c (by omega) _ (KU.out.kept B4.out).rr.plain).mono ?_
           rintro e u5 ⟨⟨aa, ca, rfl, hra⟩, hb⟩
           have B5 := Lib.hid (B4.out.trans (hb.mono B4.out.size))
           have R5 := Lib.hid hra
           have R45 := Lib.hid (R4.out.kept hb)
           have cc := HC.out _ B5.out
           clear hb hra)
        | (go_at_call 23
           with_reducible refine (xSame_any Z x a9 aa c9 ca (by omega) _ R45.out R5.out).mono ?_
           rintro e u6 ⟨rfl, hb⟩
           rw [HZ.out.1]
           have B6 := Lib.hid (B5.out.trans (hb.mono B5.out.size))
           have cc := HC.out _ B6.out
           clear hb)
        | (go_at_call 24
           with_reducible refine (decLeft_any q F ([], 0) _ (DU.out.kept (keptNew B6.out) (fun _ _ h => h))).mono ?_
           rintro e u7 ⟨rfl, rfl⟩)
        | (go_at_call 25
           with_reducible refine (decErr_any q F ([], 0) _ (DU.out.kept (keptNew B6.out) (fun _ _ h => h))).mono ?_
           rintro e u8 ⟨rfl, rfl⟩)
        | fail)
      have P := Lib.hid (KU.out.kept B6.out).bw
      go_wp2_with fail
      go_ret
      exact ⟨rfl, P.out⟩

end Go.Proofs.Ytfenfgbkphpboaa
