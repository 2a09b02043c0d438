/-
  No statement: ElectOne's walk.
-/
import Derived.Test.YtpdobbdbmgeoiaaELN
import Derived.Test.YtpdobbdbmgeoiaaELRise
set_option linter.unusedVariables false
set_option linter.unusedSimpArgs false
namespace Go.Proofs.Ytpdobbdbmgeoiaa
open Go.RowKit

theorem errAs_parts : ∀ (L : List AD) (p : ByteArray), errAs p L = 0 → (∀ x ∈ L, goodB x.m.data.toList = true ∧ errV x.k x.s x.len x.z = 0) ∧ Rising lsS (p :: nmD L)
  | [], p, _ => by simp [nmD, Rising]
  | x :: r, p, h => by
    have h' : errA p x = 0 ∧ errAs x.m r = 0 := by
      by_cases h1 : errA p x = 0
      · exact ⟨h1, by have h2 : (if errA p x = 0 then errAs x.m r else errA p x) = 0 := h; rwa [if_pos h1] at h2⟩
      · have h2 : (if errA p x = 0 then errAs x.m r else errA p x) = 0 := h; rw [if_neg h1] at h2; exact absurd h2 h1
    obtain ⟨h1, h2⟩ := h'
    obtain ⟨i1, i2⟩ := errAs_parts r x.m h2
    unfold errA at h1
    by_cases g1 : goodB x.m.data.toList = false
    · rw [if_pos g1] at h1; cases h1
    · rw [if_neg g1] at h1
      by_cases g2 : lsS p x.m = false
      · rw [if_pos g2] at h1; cases h1
      · rw [if_neg g2] at h1
        have g1' : goodB x.m.data.toList = true := by simpa using g1
        have g2' : lsS p x.m = true := by simpa using g2
        refine ⟨fun y hy => ?_, List.pairwise_cons.2 ⟨fun y hy => ?_, i2⟩⟩
        · rcases List.mem_cons.1 hy with rfl | hy
          · exact ⟨g1', h1⟩
          · exact i1 y hy
        · rcases List.mem_cons.1 hy with rfl | hy
          · exact g2'
          · exact strictS.trans _ _ _ g2' ((List.pairwise_cons.1 i2).1 y hy)

theorem errR_fine {x : RD} (h : errR x = 0) : x.len ≤ 32 ∧ RiseA x.A x.len ∧ goodB x.key.data.toList = true ∧ errS x.t x.i x.q x.o = 0 ∧ ∀ j, j < x.len → goodB (x.A j).m.data.toList = true ∧ errV (x.A j).k (x.A j).s (x.A j).len (x.A j).z = 0 := by
  unfold errR at h
  by_cases g1 : goodB x.key.data.toList = false
  · rw [if_pos g1] at h; cases h
  · rw [if_neg g1] at h
    by_cases g2 : errS x.t x.i x.q x.o = 0
    · rw [if_pos g2] at h
      by_cases g3 : 32 < x.len
      · rw [if_pos g3] at h; cases h
      · rw [if_neg g3] at h
        obtain ⟨h1, h2⟩ := errAs_parts _ _ h
        refine ⟨by omega, fun i j hij hj => ?_, by simpa using g1, g2, fun j hj => h1 _ (List.mem_map.2 ⟨j, by simpa using hj, by simp⟩)⟩
        have h3 := (List.pairwise_cons.1 h2).2
        unfold nmD fromA at h3
        rw [List.map_map, List.pairwise_map] at h3
        have h4 := List.pairwise_iff_getElem.1 h3 i j (by simp; omega) (by simp; omega) hij
        simpa using h4
    · rw [if_neg g2] at h; exact absurd h g2

theorem okE_rise {al : List RD} (h : RiseL al) : ∀ x ∈ al, OkE x := fun x hx => by
  have f := h.f x hx
  have e := errR_fine (h.e x hx)
  exact ⟨by have := f.l; omega, e.2.1, fun j hj => Nat.le_trans (f.f j hj).2.2 (by omega), fun j hj => Nat.le_trans (f.f j hj).2.1 (by omega)⟩

/-- Those of another key. -/
def dropC (L : List RD) (k : ByteArray) : List RD := L.filter fun x => !(x.key.toList == k.toList)

/-- Who is elected goes with its own row alone. -/
theorem min_drop {L : List RD} {k : ByteArray} {c : CH} (h : IsMin c (standL L)) (hk : (c.key.toList == k.toList) = false) : IsMin c (standL (dropC L k)) := by
  refine ⟨?_, fun x hx => h.2 x ?_⟩
  · obtain ⟨x, hx, rfl⟩ := List.mem_map.1 h.1
    obtain ⟨h1, h2⟩ := List.mem_filter.1 hx
    refine List.mem_map.2 ⟨x, List.mem_filter.2 ⟨List.mem_filter.2 ⟨h1, ?_⟩, h2⟩, rfl⟩
    have hk' : (x.key.toList == k.toList) = false := hk
    rw [hk']; rfl
  · obtain ⟨y, hy, rfl⟩ := List.mem_map.1 hx
    obtain ⟨h1, h2⟩ := List.mem_filter.1 hy
    exact List.mem_map.2 ⟨y, List.mem_filter.2 ⟨(List.mem_filter.1 h1).1, h2⟩, rfl⟩

theorem infoRow : (Try.prog.info? 42).map (fun i => (i.zero, i.size, i.bytes)) = some (some (.agg #[.string ⟨#[]⟩, .int .i64 0, .int .i64 0, .int .i64 0, .string ⟨#[]⟩, .slice none 0 0]), 6, 80) := by kernel_rfl

set_option maxHeartbeats 16000000 in
set_option maxRecDepth 100000 in
theorem electOne_walk (a : Option Addr) (c : Nat) (al : List RD) (s : ByteArray) (hc : al.length ≤ c) (g : ∀ x ∈ al, GoR x) (hs : s.size ≤ maxLen) (w : World) (h : ReadsRG (fun q => q < w.heap.size) w a al.length (atD al)) :
    Calls Try.prog 4 #[.slice a al.length c, .string s] w fun e w' => e = .returned (.bool true) ∧ Below w.heap.size w w' := by
  have HA := Lib.hid (p := ∀ u, Below w.heap.size w u → ReadsRG (fun q => q < u.heap.size) u a al.length (atD al)) (fun u hb => (h.kept (keptBelow hb) (fun q hq h => by omega)).mono (fun q h _ => by have := hb.size; omega))
  have HA0 := Lib.hid h
  have HG := Lib.hid g
  obtain ⟨i0, hi, hz0, hz1, hz2⟩ := info_parts infoRow
  have und : Try.prog.underlying 22 = some (.slice 42) := Try.underlying22
  clear h g hc
  go_enter Try.func4, Try.ntmps4
  go_wp2_with fail
  refine (known15_any w).mono ?_
  rintro e w1 ⟨rfl, hb1⟩
  have B1 := Lib.hid hb1
  clear hb1
  go_wp2_with fail
  refine (rise_any al a c HG.out w1 (HA.out w1 B1.out)).mono ?_
  rintro e w2 ⟨⟨r, rfl, hr⟩, hb2⟩
  have B2 := Lib.hid (B1.out.trans (hb2.mono B1.out.size))
  have HR := Lib.hid hr
  clear hb2 hr B1 HG
  cases r with
  | false =>
    go_wp2_with fail
    go_ret
    exact ⟨rfl, B2.out⟩
  | true =>
  have RL := Lib.hid (HR.out (by trivial))
  have hn64 := RL.out.n
  clear HR
  by_cases h100 : 100 < s.size
  · have d1 : (100 : Int) < (s.size : Int) := by omega
    go_wp2_with fail
    go_ret
    exact ⟨rfl, B2.out⟩
  have d1 : ¬ (100 : Int) < (s.size : Int) := by omega
  go_wp2_with fail
  clear d1
  refine (rep_any al a c (by omega) (okE_rise RL.out) w2 (HA.out w2 B2.out)).mono ?_
  rintro e w3 ⟨h3, hb3⟩
  have B3 := Lib.hid (B2.out.trans (hb3.mono B2.out.size))
  clear hb3 B2
  rcases h3 with ⟨q, rfl, hq⟩ | ⟨rfl, -⟩
  case inr =>
    go_upto_region 6 with fail
    generalize hV : World.alloc w3 _ = V
    have B4 := Lib.hid (show Below w.heap.size w V by rw [← hV]; exact B3.out.alloc B3.out.size _)
    have hV3 : V.heap[w3.heap.size]? = some (.cells #[.string ⟨#[]⟩, .string ⟨#[]⟩, .int .i64 0] 32 (0, 0)) := by rw [← hV]; exact heap_alloc_new w3 _
    obtain ⟨y0, y1, y2⟩ := threeE hV3
    clear hV hV3
    go_wp2_with fail
    go_ret
    exact ⟨rfl, B4.out⟩
  have MQ := Lib.hid hq
  clear hq
  go_upto_region 6 with fail
  generalize hV : World.alloc w3 _ = V
  have B4 := Lib.hid (show Below w.heap.size w V by rw [← hV]; exact B3.out.alloc B3.out.size _)
  have hV3 : V.heap[w3.heap.size]? = some (.cells #[.string q.key, .string q.rep, .int .i64 q.load] 32 (0, 0)) := by rw [← hV]; exact heap_alloc_new w3 _
  have X4 := Lib.hid hV3
  obtain ⟨y0, y1, y2⟩ := threeE hV3
  obtain ⟨X, hX⟩ : ∃ X, w3.heap.size = X := ⟨_, rfl⟩
  rw [hX] at X4 y0 y1 y2 ⊢
  clear hV hV3 hX B3
  cases hk : (q.key.toList == s.toList) with
  | true =>
    go_wp2_with fail
    go_ret
    exact ⟨rfl, B4.out⟩
  | false =>
  have MD := Lib.hid (min_drop MQ.out hk)
  clear MQ
  go_wp2_with fail
  clear hk y0 y1 y2
  have TO := Lib.hid (p := ∀ j, j < al.length → al.take (j + 1) = al.take j ++ [atD al j]) (fun j hj => by rw [List.take_add_one, List.getElem?_eq_getElem hj, atD_lt hj]; rfl)
  have FO := Lib.hid (p := al.take al.length = al) (List.take_length ..)
  obtain ⟨Z, hZ⟩ : ∃ Z, V.heap.size = Z := ⟨_, rfl⟩
  have HZ := Lib.hid hZ
  have O4 : Hid (OwnRG (fun q => q < w.heap.size) V Z (.slice none 0 0) []) := Lib.hid ⟨World.ownsRow_nil _ _ _ _, fun t ht => by cases ht⟩
  have hwZ := Lib.hid (show w.heap.size ≤ Z by rw [← hZ]; exact B4.out.size)
  clear hZ
  go_loopw [7, 8] (fun v i wr => ∃ (j : Nat) (T : List RTd) (va : Option Addr) (vl vc : Nat), v = .slice va vl vc ∧ i = .int .i64 j ∧ j ≤ al.length ∧ T.length ≤ j ∧ vl = T.length ∧ Hid (T.map (·.1) = dropC (al.take j) s) ∧ Hid (OwnRG (fun q => q < w.heap.size) wr Z (.slice va vl vc) T) ∧ Hid (Below Z V wr)) (fun _ i _ => al.length - (intOf i).toNat)
  case atStart => exact ⟨0, [], none, 0, 0, rfl, rfl, Nat.zero_le _, Nat.le_refl _, rfl, Lib.hid rfl, O4, Lib.hid (by rw [← HZ.out]; exact Below.refl _ _)⟩
  case round =>
    clear O4
    obtain ⟨j, T, va, vl, vc, rfl, rfl, hj, hTj, hvl, HM, HO, HB⟩ := hrel
    subst hvl
    by_cases hlt : j < al.length
    · have e1 : (j : Int) < (al.length : Int) := by omega
      have hBw := B4.out.trans (HB.out.mono hwZ.out)
      obtain ⟨b, off, y, cy, rfl, hbg, h6, hry⟩ := HA0.out.cellsD hlt
      have TK := Lib.hid (TO.out j hlt)
      obtain ⟨x, hx⟩ : ∃ x, atD al j = x := ⟨_, rfl⟩
      rw [hx] at h6 hry TK
      obtain ⟨x0, x1, x2, x3, x4, x5⟩ := (h6.keptS (keptBelow hBw) (by omega) : Cells6 wr b (off + j * 6) x y cy)
      have AT := Lib.hid (ReadsAG.kept hry (keptBelow hBw) (fun q hq h => by omega))
      clear hx h6 hry hBw
      cases hq : (x.key.toList == s.toList) with
      | true =>
        have hq2 : (x.key.toList != s.toList) = false := by rw [bne, hq]; rfl
        have M2 := Lib.hid (show T.map (·.1) = dropC (al.take (j + 1)) s by rw [TK.out]; unfold dropC; rw [List.filter_append, List.filter_cons, if_neg (by rw [hq]; decide)]; simpa [dropC] using HM.out)
        go_wp2_with fail
        go_roundw
        case rel => exact ⟨j + 1, T, va, _, vc, rfl, by go_num, by omega, by omega, rfl, M2, HO, HB⟩
        case measure => simp [intOf]; omega
      | false =>
        have hq2 : (x.key.toList != s.toList) = true := by rw [bne, hq]; rfl
        have M2 := Lib.hid (show (T ++ [(x, y, cy)]).map (·.1) = dropC (al.take (j + 1)) s by rw [TK.out, List.map_append, HM.out]; unfold dropC; rw [List.filter_append, List.filter_cons, if_pos (by rw [hq]; rfl)]; rfl)
        have hzr : Z ≤ wr.heap.size := by have := HB.out.size; rw [HZ.out] at this; exact this
        have OE := Lib.hid (HO.out.below ((Below.refl _ wr).alloc (Nat.le_refl _) (rowB (x, y, cy))))
        have BE := Lib.hid (HB.out.alloc hzr (rowB (x, y, cy)))
        have NEW := Lib.hid (new_sixD wr (x, y, cy))
        have AE := Lib.hid (ReadsAG.kept AT.out (keptNew ((Below.refl _ wr).alloc (Nat.le_refl _) (rowB (x, y, cy)))) (fun _ _ h => h))
        have OL := Lib.hid (p := ∀ k, k < w.heap.size → (Value.slice va T.length vc).ownBlock ≠ some k) (fun k hk e => by have := (HO.out.1.lt k e).1; have := hwZ.out; omega)
        unfold rowB at OE BE NEW AE
        have hlen : T.length ≤ 1000 := by omega
        go_wp2_with (at_builtin; refine wpList_append_new rfl _ _ 22 rfl (base := Z) und hi hz0 hz1 hz2 rfl (by decide) (.slice va T.length vc) T.length 1 1 ⟨wr.heap.size, 0, none⟩ (T.flatMap sixD) (sixD (x, y, cy)) rfl rfl OE.out.1 rfl NEW.out (sixD_one _) (by unfold maxLen; omega) (by omega) (by have := hzr; simp; omega) ?_)
        intro v5 w5 hown5 hgrow5 hq5
        obtain ⟨va', vc', rfl⟩ := own_rowG hown5
        have O5 : Hid (OwnRG (fun q => q < w.heap.size) w5 Z (.slice va' (T.length + 1) vc') (T ++ [(x, y, cy)])) := Lib.hid (OE.out.more OL.out AE.out hown5 hgrow5)
        have B5 := Lib.hid (BE.out.grown hgrow5 (by have := hzr; simp; omega) (fun q hq => (OE.out.1.lt q hq).1))
        clear hown5 hgrow5 hq5 OE BE NEW AE OL AT HO HB x0 x1 x2 x3 x4 x5 HM
        go_wp2_with fail
        go_roundw
        case rel => exact ⟨j + 1, T ++ [(x, y, cy)], va', T.length + 1, vc', rfl, by go_num, by omega, by rw [List.length_append]; show T.length + 1 ≤ j + 1; omega, by rw [List.length_append]; rfl, M2, O5, B5⟩
        case measure => simp [intOf]; omega
    · obtain rfl : j = al.length := by omega
      have e1 : ¬ ((al.length : Nat) : Int) < (al.length : Int) := by omega
      rw [FO.out] at HM
      have hTl := Lib.hid (show (dropC al s).length = T.length by rw [← HM.out, List.length_map])
      have B5 := Lib.hid (B4.out.trans (HB.out.mono hwZ.out))
      have RD := Lib.hid (show ReadsR wr va (dropC al s).length (atD (dropC al s)) by
        have := (HO.out.reads (H := fun q => True) (atD (dropC al s)) (fun j x hx => by
          have h1 : (T.map (·.1))[j]? = some x.1 := by rw [List.getElem?_map, hx]; rfl
          rw [HM.out] at h1
          obtain ⟨h2, h3⟩ := List.getElem?_eq_some_iff.1 h1
          rw [atD_lt h2, h3]) (fun _ _ => trivial) (fun _ _ => trivial)).2.2
        rw [hTl.out]
        exact this.mono (fun q _ h => h))
      have X5 := Lib.hid ((HB.out.block _ (by have := lt_of_block X4.out; rw [HZ.out] at this; exact this)).trans X4.out)
      have RP := Lib.hid (rep_any (dropC al s) va vc (Nat.le_trans (List.length_filter_le _ _) (by omega)) (fun x hx => okE_rise RL.out x (List.mem_filter.1 hx).1) wr RD.out)
      rw [hTl.out] at RP
      clear HM HO HB RD X4 B4 HA HA0 TO FO hTl
      go_wp2_with fail
      refine RP.out.mono ?_
      rintro e w6 ⟨h6, hb⟩
      have B6 := Lib.hid (B5.out.trans (hb.mono B5.out.size))
      have X6 := Lib.hid ((hb.block _ (lt_of_block X5.out)).trans X5.out)
      clear hb X5 B5 RP
      rcases h6 with ⟨d, rfl, hd⟩ | ⟨-, hd⟩
      case inr =>
        exfalso
        have := MD.out.1
        rw [hd] at this
        cases this
      obtain rfl := hd.one MD.out
      clear hd MD
      go_upto_region 15 with fail
      generalize hV : World.alloc w6 _ = V6
      have hbV : Below w6.heap.size w6 V6 := by rw [← hV]; exact (Below.refl _ _).alloc (Nat.le_refl _) _
      have hV3 : V6.heap[w6.heap.size]? = some (.cells #[.string d.key, .string d.rep, .int .i64 d.load] 32 (0, 0)) := by rw [← hV]; exact heap_alloc_new w6 _
      obtain ⟨y0, y1, y2⟩ := threeE hV3
      obtain ⟨z0, z1, z2⟩ := threeE ((hbV.block _ (lt_of_block X6.out)).trans X6.out)
      have P := Lib.hid (B6.out.trans (hbV.mono B6.out.size))
      clear hV hbV hV3 X6 B6
      go_wp2_with fail
      go_ret
      exact ⟨rfl, P.out⟩

end Go.Proofs.Ytpdobbdbmgeoiaa
