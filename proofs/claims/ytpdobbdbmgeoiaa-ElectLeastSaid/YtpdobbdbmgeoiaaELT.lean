/-
  No statement: the order in turn, as the library's sort asks it.
-/
import Derived.Test.YtpdobbdbmgeoiaaELC
set_option linter.unusedVariables false
set_option linter.unusedSimpArgs false
namespace Go.Proofs.Ytpdobbdbmgeoiaa
open Go.RowKit Go.Sort

/-- The order in turn, its variables in memory. -/
def Tur (w : World) (O S F0 F1 F2 : Nat) : Prop :=
  w.heap[O]? = some (.cells #[.slice (some ⟨S, 0, none⟩) 3 3] 85 (0, 0)) ∧
  w.heap[S]? = some (.cells #[.func (.func 40) #[] #[.pointer (some ⟨F0, 0, none⟩)], .func (.func 42) #[] #[.pointer (some ⟨F1, 0, none⟩)], .func (.func 42) #[] #[.pointer (some ⟨F2, 0, none⟩)]] 56 (0, 0)) ∧
  w.heap[F0]? = some (.cells #[.func (.func 21) #[] #[]] 59 (0, 0)) ∧
  w.heap[F1]? = some (.cells #[.func (.func 23) #[] #[]] 61 (0, 0)) ∧
  w.heap[F2]? = some (.cells #[.func (.func 24) #[] #[]] 61 (0, 0))
theorem Tur.kept {w w' : World} {O S F0 F1 F2 : Nat} (h : Tur w O S F0 F1 F2) (hb : Below w.heap.size w w') : Tur w' O S F0 F1 F2 :=
  ⟨(hb.block _ (lt_of_block h.1)).trans h.1, (hb.block _ (lt_of_block h.2.1)).trans h.2.1, (hb.block _ (lt_of_block h.2.2.1)).trans h.2.2.1, (hb.block _ (lt_of_block h.2.2.2.1)).trans h.2.2.2.1, (hb.block _ (lt_of_block h.2.2.2.2)).trans h.2.2.2.2⟩
theorem Tur.cells {w : World} {O S F0 F1 F2 : Nat} (h : Tur w O S F0 F1 F2) : w.cell? ⟨O, 0, none⟩ = some (.slice (some ⟨S, 0, none⟩) 3 3) ∧ w.cell? ⟨S, 0, none⟩ = some (.func (.func 40) #[] #[.pointer (some ⟨F0, 0, none⟩)]) ∧ w.cell? ⟨S, 1, none⟩ = some (.func (.func 42) #[] #[.pointer (some ⟨F1, 0, none⟩)]) ∧ w.cell? ⟨S, 2, none⟩ = some (.func (.func 42) #[] #[.pointer (some ⟨F2, 0, none⟩)]) := by
  have h0 := cell_of_row w O 0 _ _ (0, 0) h.1
  obtain ⟨h1, h2, h3⟩ := threeE h.2.1
  exact ⟨by simpa using h0, h1, h2, h3⟩

set_option maxRecDepth 100000 in
set_option maxHeartbeats 4000000 in
theorem turn_any (x y : CH) (O S F0 F1 F2 : Nat) (w : World) (h : Tur w O S F0 F1 F2) :
    Calls Try.prog 39 #[chV x, chV y, .pointer (some ⟨O, 0, none⟩)] w fun e w' => e = .returned (.int .i64 (cmpC x y)) ∧ GrC w w' := by
  have TU := Lib.hid (p := ∀ V, GrC w V → Tur V O S F0 F1 F2) (fun V hg => h.kept hg.below)
  have C0 := Lib.hid (p := ∀ V, GrC w V → Calls Try.prog 40 #[.agg #[.string x.key, .string x.rep, .int .i64 x.load], .agg #[.string y.key, .string y.rep, .int .i64 y.load], .pointer (some ⟨F0, 0, none⟩)] V fun e w' => e = .returned (.int .i64 (cmpI x.load y.load)) ∧ GrC V w') (fun V hg => byI_any x y F0 V (TU.out V hg).2.2.1)
  have C1 := Lib.hid (p := ∀ V, GrC w V → Calls Try.prog 42 #[.agg #[.string x.key, .string x.rep, .int .i64 x.load], .agg #[.string y.key, .string y.rep, .int .i64 y.load], .pointer (some ⟨F1, 0, none⟩)] V fun e w' => e = .returned (.int .i64 (cmpS x.rep y.rep)) ∧ GrC V w') (fun V hg => byR_any x y F1 V (TU.out V hg).2.2.2.1)
  have C2 := Lib.hid (p := ∀ V, GrC w V → Calls Try.prog 42 #[.agg #[.string x.key, .string x.rep, .int .i64 x.load], .agg #[.string y.key, .string y.rep, .int .i64 y.load], .pointer (some ⟨F2, 0, none⟩)] V fun e w' => e = .returned (.int .i64 (cmpS x.key y.key)) ∧ GrC V w') (fun V hg => byK_any x y F2 V (TU.out V hg).2.2.2.2)
  have CE := Lib.hid (show cmpC x y = orI (cmpI x.load y.load) (orI (cmpS x.rep y.rep) (cmpS x.key y.key)) from rfl)
  obtain ⟨R, hR⟩ : ∃ R, cmpC x y = R := ⟨_, rfl⟩
  obtain ⟨c0, h0⟩ : ∃ c, cmpI x.load y.load = c := ⟨_, rfl⟩
  obtain ⟨c1, h1⟩ : ∃ c, cmpS x.rep y.rep = c := ⟨_, rfl⟩
  obtain ⟨c2, h2⟩ : ∃ c, cmpS x.key y.key = c := ⟨_, rfl⟩
  rw [hR, h0, h1, h2] at CE
  rw [h0] at C0
  rw [h1] at C1
  rw [h2] at C2
  rw [hR]
  clear h hR h0 h1 h2
  go_enter Try.func39, Try.ntmps39
  go_upto_region 1 with fail
  generalize hW : World.alloc (World.alloc w _) _ = W
  obtain ⟨hb, b1, b2, hsz⟩ := two_boxes w (.cells #[.string x.key, .string x.rep, .int .i64 x.load] 32) (.cells #[.string y.key, .string y.rep, .int .i64 y.load] 32)
  have G0 : Hid (GrC w W) := Lib.hid (by rw [← hW]; exact ((GrC.refl _).alloc _).alloc _)
  rw [hW] at hb b1 b2 hsz
  clear hW
  have BX := Lib.hid (p := ∀ V, GrC W V → (V.cell? ⟨w.heap.size, 0, none⟩ = some (.string x.key) ∧ V.cell? ⟨w.heap.size, 1, none⟩ = some (.string x.rep) ∧ V.cell? ⟨w.heap.size, 2, none⟩ = some (.int .i64 x.load)) ∧ V.cell? ⟨w.heap.size + 1, 0, none⟩ = some (.string y.key) ∧ V.cell? ⟨w.heap.size + 1, 1, none⟩ = some (.string y.rep) ∧ V.cell? ⟨w.heap.size + 1, 2, none⟩ = some (.int .i64 y.load)) (fun V hg => by
    have hb2 := hg.below
    exact ⟨threeE ((hb2.block _ (lt_of_block b1)).trans b1), threeE ((hb2.block _ (lt_of_block b2)).trans b2)⟩)
  obtain ⟨o0, s0, s1, s2⟩ := (TU.out W G0.out).cells
  clear hb b1 b2 hsz
  have GW := Lib.hid (GrC.refl W)
  have hc0 : c0 = 0 ∨ ¬ c0 = 0 := Classical.em _
  go_wp2_with fail
  clear o0 s0 s1 s2
  go_loopw [11] (fun i wr => ∃ k : Nat, i = .int .i64 k ∧ k ≤ 3 ∧ Hid ((0 < k → c0 = 0) ∧ (1 < k → c1 = 0) ∧ (2 < k → c2 = 0)) ∧ Hid (GrC W wr)) (fun i _ => 3 - (intOf i).toNat)
  case atStart => exact ⟨0, rfl, Nat.zero_le _, Lib.hid ⟨fun h => by omega, fun h => by omega, fun h => by omega⟩, GW⟩
  case round =>
    clear GW
    obtain ⟨k, rfl, hk, HZ, GR⟩ := hrel
    obtain ⟨o0, s0, s1, s2⟩ := (TU.out wr (G0.out.trans GR.out)).cells
    obtain ⟨⟨x0, x1, x2⟩, y0, y1, y2⟩ := BX.out wr GR.out
    have hk3 : k = 0 ∨ k = 1 ∨ k = 2 ∨ k = 3 := by omega
    rcases hk3 with rfl | rfl | rfl | rfl
    · go_wp2_with fail
      refine (C0.out wr (G0.out.trans GR.out)).mono ?_
      rintro e w9 ⟨rfl, hg⟩
      have G9 := Lib.hid (GR.out.trans hg)
      clear hg o0 s0 s1 s2 x0 x1 x2 y0 y1 y2
      by_cases hz : c0 = 0
      · have Z2 := Lib.hid (p := (0 < 0 + 1 → c0 = 0) ∧ (1 < 0 + 1 → c1 = 0) ∧ (2 < 0 + 1 → c2 = 0)) ⟨fun _ => hz, fun h => by omega, fun h => by omega⟩
        have q0 : (c0 != 0) = false := by simp [hz]
        go_wp2_with fail
        go_roundw
        case rel => exact ⟨0 + 1, by go_num, by omega, Z2, G9⟩
        case measure => simp [intOf]
      · have hR : R = c0 := by rw [CE.out]; unfold orI; rw [if_neg hz]
        subst hR
        have q0 : (R != 0) = true := by simp [hz]
        go_wp2_with fail
        go_ret
        exact ⟨rfl, G0.out.trans G9.out⟩
    · go_wp2_with fail
      refine (C1.out wr (G0.out.trans GR.out)).mono ?_
      rintro e w9 ⟨rfl, hg⟩
      have G9 := Lib.hid (GR.out.trans hg)
      clear hg o0 s0 s1 s2 x0 x1 x2 y0 y1 y2
      by_cases hz : c1 = 0
      · have Z2 := Lib.hid (p := (0 < 1 + 1 → c0 = 0) ∧ (1 < 1 + 1 → c1 = 0) ∧ (2 < 1 + 1 → c2 = 0)) ⟨fun _ => HZ.out.1 (by omega), fun _ => hz, fun h => by omega⟩
        have q0 : (c1 != 0) = false := by simp [hz]
        go_wp2_with fail
        go_roundw
        case rel => exact ⟨1 + 1, by go_num, by omega, Z2, G9⟩
        case measure => simp [intOf]
      · have hR : R = c1 := by rw [CE.out, HZ.out.1 (by omega)]; unfold orI; rw [if_pos rfl, if_neg hz]
        subst hR
        have q0 : (R != 0) = true := by simp [hz]
        go_wp2_with fail
        go_ret
        exact ⟨rfl, G0.out.trans G9.out⟩
    · go_wp2_with fail
      refine (C2.out wr (G0.out.trans GR.out)).mono ?_
      rintro e w9 ⟨rfl, hg⟩
      have G9 := Lib.hid (GR.out.trans hg)
      clear hg o0 s0 s1 s2 x0 x1 x2 y0 y1 y2
      by_cases hz : c2 = 0
      · have Z2 := Lib.hid (p := (0 < 2 + 1 → c0 = 0) ∧ (1 < 2 + 1 → c1 = 0) ∧ (2 < 2 + 1 → c2 = 0)) ⟨fun _ => HZ.out.1 (by omega), fun _ => HZ.out.2.1 (by omega), fun _ => hz⟩
        have q0 : (c2 != 0) = false := by simp [hz]
        go_wp2_with fail
        go_roundw
        case rel => exact ⟨2 + 1, by go_num, by omega, Z2, G9⟩
        case measure => simp [intOf]
      · have hR : R = c2 := by rw [CE.out, HZ.out.1 (by omega), HZ.out.2.1 (by omega)]; unfold orI; rw [if_pos rfl, if_pos rfl]
        subst hR
        have q0 : (R != 0) = true := by simp [hz]
        go_wp2_with fail
        go_ret
        exact ⟨rfl, G0.out.trans G9.out⟩
    · have hz := HZ.out
      have h0 := hz.1 (by omega)
      have h1 := hz.2.1 (by omega)
      have h2 := hz.2.2 (by omega)
      have hR : R = 0 := by rw [CE.out, h0, h1, h2]; rfl
      subst hR
      go_wp2_with fail
      go_ret
      exact ⟨rfl, G0.out.trans GR.out⟩

theorem cmpC_neg (a b : CH) : cmpC a b = - cmpC b a := by
  have hI : ∀ a b : Int, cmpI a b = - cmpI b a := fun a b => by unfold cmpI; omega
  have hS : ∀ a b : ByteArray, cmpS a b = - cmpS b a := fun a b => by
    unfold cmpS
    cases h1 : Op.bytesLess a.toList b.toList <;> cases h2 : Op.bytesLess b.toList a.toList
    · rfl
    · rfl
    · rfl
    · have := strictS.asymm (a := a) (b := b) h1
      unfold lsS at this
      rw [h2] at this; cases this
  have hO : ∀ a b a' b' : Int, a = -a' → b = -b' → orI a b = - orI a' b' := fun a b a' b' h h' => by unfold orI; split <;> split <;> omega
  exact hO _ _ _ _ (hI _ _) (hO _ _ _ _ (hS _ _) (hS _ _))
theorem cmpC_self (a : CH) : cmpC a a = 0 := by unfold cmpC; rw [cmpI_self, cmpS_self, cmpS_self]; rfl
theorem ordC (a b c : CH) : Ord3 (cmpC a b) (cmpC b c) (cmpC a c) := ordOr (ordI _ _ _) (ordOr (ordS _ _ _) (ordS _ _ _))
theorem cmpC_zero {a b : CH} (h : cmpC a b = 0) : a = b := by
  have hs : ∀ a b : ByteArray, cmpS a b = 0 → a = b := fun a b h => by
    unfold cmpS at h
    cases h1 : Op.bytesLess a.toList b.toList <;> cases h2 : Op.bytesLess b.toList a.toList <;> simp [h1, h2] at h
    exact bytes_eq (bytesLess_total _ _ h1 h2)
  unfold cmpC orI at h
  have h1 : cmpI a.load b.load = 0 := Decidable.by_contra fun hn => by rw [if_neg hn] at h; exact hn h
  rw [if_pos h1] at h
  have h2 : cmpS a.rep b.rep = 0 := Decidable.by_contra fun hn => by rw [if_neg hn] at h; exact hn h
  rw [if_pos h2] at h
  have e1 : a.load = b.load := Decidable.by_contra fun hn => cmpI_ne hn h1
  have e2 := hs _ _ h2
  have e3 := hs _ _ h
  cases a; cases b
  simp only at e1 e2 e3
  subst e1; subst e2; subst e3
  rfl

theorem swoC : SWO (ltOf cmpC) where
  irrefl x := by unfold ltOf; rw [cmpC_self]; rfl
  trans x y z h1 h2 := by
    unfold ltOf at *
    simp only [decide_eq_true_eq] at *
    have := ordC x y z (by omega) (by omega)
    omega
  ntrans x y z h1 h2 := by
    unfold ltOf at *
    simp only [decide_eq_false_iff_not] at *
    have h3 := cmpC_neg x y
    have h4 := cmpC_neg y z
    have h5 := cmpC_neg x z
    have := ordC z y x (by omega) (by omega)
    omega

theorem cmpLays_any (blk off size : Nat) (O S F0 F1 F2 : Nat) (w : World) (h : Tur w O S F0 F1 F2) (hO : blk ≠ O ∧ blk ≠ S ∧ blk ≠ F0 ∧ blk ≠ F1 ∧ blk ≠ F2) : CmpLays Try.prog 39 #[.pointer (some ⟨O, 0, none⟩)] encC 3 cmpC blk off size w := fun m os dk hs x y => by
  have hk : ∀ q, q < w.heap.size → q ≠ blk → (sortWorldK encC 3 w blk off m dk os).heap[q]? = w.heap[q]? := fun q hq hne => by
    have hp : (putRowK encC 3 (Go.Sort.ahead w m) blk off dk).heap[q]? = w.heap[q]? := by
      unfold putRowK putRow mapBlock Go.Sort.ahead
      rw [Array.getElem?_modify, if_neg (fun e => hne e.symm)]
    show ((putRowK encC 3 (Go.Sort.ahead w m) blk off dk).heap ++ os)[q]? = _
    rw [Array.getElem?_append_left (by rw [size_putRowK]; exact hq)]
    exact hp
  have T : Tur (sortWorldK encC 3 w blk off m dk os) O S F0 F1 F2 :=
    ⟨(hk _ (lt_of_block h.1) (fun e => hO.1 e.symm)).trans h.1, (hk _ (lt_of_block h.2.1) (fun e => hO.2.1 e.symm)).trans h.2.1, (hk _ (lt_of_block h.2.2.1) (fun e => hO.2.2.1 e.symm)).trans h.2.2.1, (hk _ (lt_of_block h.2.2.2.1) (fun e => hO.2.2.2.1 e.symm)).trans h.2.2.2.1, (hk _ (lt_of_block h.2.2.2.2) (fun e => hO.2.2.2.2 e.symm)).trans h.2.2.2.2⟩
  exact turn_any x y O S F0 F1 F2 _ T

end Go.Proofs.Ytpdobbdbmgeoiaa
