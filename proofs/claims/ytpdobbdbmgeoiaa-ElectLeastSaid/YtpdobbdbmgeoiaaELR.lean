/-
  No statement: which rows stand.
-/
import Derived.Test.YtpdobbdbmgeoiaaEPath
import Derived.Test.YtpdobbdbmgeoiaaELS
import Derived.Deep.RegionWith
set_option linter.unusedVariables false
set_option linter.unusedSimpArgs false
namespace Go.Proofs.Ytpdobbdbmgeoiaa
open Go.RowKit

/-- An attribute of a row, and its fields; zero where there is none. -/
def attrF (x : RD) (nm : ByteArray) : Option AD := if has (nmD (twsA x.A x.len)) nm = true then some (x.A (pos lsS (nmD (twsA x.A x.len)) nm)) else none
def gK : Option AD → Int
  | some v => v.k
  | none => 0
def gN : Option AD → Int
  | some v => twN v.k v.n
  | none => 0
def gS : Option AD → ByteArray
  | some v => twS v.k v.s
  | none => ⟨#[]⟩
def repK : ByteArray := ⟨#[114, 101, 112]⟩
def loadK : ByteArray := ⟨#[108, 111, 97, 100]⟩
def loadC (x : RD) : Int := if gK (attrF x loadK) = 1 then gN (attrF x loadK) else 0
def standB (x : RD) : Bool := decide (gK (attrF x repK) = 2) && decide (0 < depthP (gS (attrF x repK)).data.toList)
def choiceC (x : RD) : CH := ⟨x.key, gS (attrF x repK), loadC x⟩
/-- Those that stand. -/
def standL (L : List RD) : List CH := (L.filter standB).map choiceC

/-- A row that the program takes. -/
structure OkE (x : RD) : Prop where
  l : x.len ≤ 1000
  r : RiseA x.A x.len
  a : ∀ j, j < x.len → (x.A j).len ≤ 1000000
  s : ∀ j, j < x.len → (x.A j).s.size ≤ 281474976710656

theorem gS_size {x : RD} (h : OkE x) (nm : ByteArray) : (gS (attrF x nm)).size ≤ 281474976710656 := by
  unfold attrF
  split
  · next hh =>
    have hp : pos lsS (nmD (twsA x.A x.len)) nm < x.len := by
      have := (mem_iff_pos strictS (rising_nm h.r)).1 ((has_iff _ _).1 hh)
      have := (List.getElem?_eq_some_iff.1 this).1
      simpa [nmD, twsA] using this
    show (twS _ _).size ≤ _
    unfold twS
    split
    · exact h.s _ hp
    · exact Nat.zero_le _
  · exact Nat.zero_le _

theorem get_one {x : RD} (h : OkE x) (nm : ByteArray) (a : Option Addr) (c : Nat) (w : World) (hr : ReadsA w a x.len x.A) :
    Calls Try.prog 34 #[.slice a x.len c, .string nm] w fun e w' => (∃ a' l' c' b, e = .returned (.tuple #[.agg #[.int .i64 (gK (attrF x nm)), .int .i64 (gN (attrF x nm)), .string (gS (attrF x nm)), .slice a' l' c'], .bool b])) ∧ Below w.heap.size w w' := by
  refine (getL_any a x.len c x.A nm h.l h.a h.r w hr).mono ?_
  rintro e w' ⟨h1, h2⟩
  refine ⟨?_, h2⟩
  unfold attrF
  split at h1
  · next hh =>
    rw [if_pos hh]
    obtain ⟨v, a', c', -, rfl, rfl, -, -⟩ := h1
    exact ⟨a', _, c', true, rfl⟩
  · next hh =>
    rw [if_neg hh]
    exact ⟨none, 0, 0, false, h1⟩

set_option maxRecDepth 100000 in
set_option maxHeartbeats 4000000 in
theorem load_any {x : RD} (h : OkE x) (a : Option Addr) (c : Nat) (w : World) (hr : ReadsA w a x.len x.A) :
    Calls Try.prog 36 #[.agg #[.string x.key, .int .i64 x.t, .int .i64 x.i, .int .i64 x.q, .string x.o, .slice a x.len c]] w fun e w' => e = .returned (.int .i64 (loadC x)) ∧ Below w.heap.size w w' := by
  have GT := Lib.hid (p := ∀ W, Below w.heap.size w W → Calls Try.prog 34 #[.slice a x.len c, .string ⟨#[108, 111, 97, 100]⟩] W fun e w' => (∃ a' l' c' b, e = .returned (.tuple #[.agg #[.int .i64 (gK (attrF x loadK)), .int .i64 (gN (attrF x loadK)), .string (gS (attrF x loadK)), .slice a' l' c'], .bool b])) ∧ Below W.heap.size W w') (fun W hb => get_one h loadK a c W (hr.kept hb))
  unfold loadC
  obtain ⟨K, hK⟩ : ∃ K, gK (attrF x loadK) = K := ⟨_, rfl⟩
  obtain ⟨N, hN⟩ : ∃ N, gN (attrF x loadK) = N := ⟨_, rfl⟩
  obtain ⟨S, hS⟩ : ∃ S, gS (attrF x loadK) = S := ⟨_, rfl⟩
  rw [hK, hN, hS] at GT
  rw [hK, hN]
  clear hK hN hS h hr
  go_enter Try.func36, Try.ntmps36
  go_upto_region 1 with fail
  generalize hW : World.alloc w _ = W
  have hb : Below w.heap.size w W := by rw [← hW]; exact (Below.refl _ _).alloc (Nat.le_refl _) _
  have h6 : W.heap[w.heap.size]? = some (.cells #[.string x.key, .int .i64 x.t, .int .i64 x.i, .int .i64 x.q, .string x.o, .slice a x.len c] 42 (0, 0)) := by rw [← hW]; exact heap_alloc_new w _
  clear hW
  have BW := Lib.hid hb
  obtain ⟨x0, x1, x2, x3, x4, x5⟩ := sixE h6
  clear hb h6
  go_wp2_with fail
  refine (GT.out W BW.out).mono ?_
  rintro e w2 ⟨⟨a', l', c', b, rfl⟩, hb⟩
  have B2 := Lib.hid (BW.out.trans (hb.mono BW.out.size))
  clear hb x0 x1 x2 x3 x4 x5 GT
  go_upto_region 2 with fail
  generalize hV : World.alloc w2 _ = V
  have B3 := Lib.hid (show Below w.heap.size w V by rw [← hV]; exact B2.out.alloc B2.out.size _)
  have h4 : V.heap[w2.heap.size]? = some (.cells #[.int .i64 K, .int .i64 N, .string S, .slice a' l' c'] 68 (0, 0)) := by rw [← hV]; exact heap_alloc_new w2 _
  obtain ⟨⟨v0, v1, v2, v3⟩, -⟩ := four h4
  clear hV h4 B2
  by_cases hk : K = 1
  · subst hk
    go_wp2_with fail
    go_ret
    exact ⟨rfl, B3.out⟩
  · have q0 : (K != 1) = true := by simpa using hk
    go_wp2_with fail
    go_ret
    exact ⟨rfl, B3.out⟩

theorem three_setC {w : World} {b : Nat} {a0 a1 a2 : Value} {t : TypeId} (h : w.heap[b]? = some (.cells #[a0, a1, a2] t (0, 0))) (v0 v1 v2 : Value) : (((w.setCell ⟨b, 0, none⟩ v0).setCell ⟨b, 1, none⟩ v1).setCell ⟨b, 2, none⟩ v2).heap[b]? = some (.cells #[v0, v1, v2] t (0, 0)) := by
  rw [heap_setCell_same _ b 2 _ t v2 (heap_setCell_same _ b 1 _ t v1 (heap_setCell_same _ b 0 _ t v0 h))]
  rfl
theorem three_other (w : World) {b k : Nat} (hne : k ≠ b) (v0 v1 v2 : Value) : (((w.setCell ⟨b, 0, none⟩ v0).setCell ⟨b, 1, none⟩ v1).setCell ⟨b, 2, none⟩ v2).heap[k]? = w.heap[k]? :=
  (Below.heap_setCell _ _ _ _ (by show k ≠ b; exact hne)).trans ((Below.heap_setCell _ _ _ _ (by show k ≠ b; exact hne)).trans (Below.heap_setCell _ _ _ _ (by show k ≠ b; exact hne)))
theorem three_below {B : Nat} {a w : World} {b : Nat} (h : Below B a w) (hb : B ≤ b) (v0 v1 v2 : Value) : Below B a (((w.setCell ⟨b, 0, none⟩ v0).setCell ⟨b, 1, none⟩ v1).setCell ⟨b, 2, none⟩ v2) :=
  ((h.setCell (p := ⟨b, 0, none⟩) hb v0).setCell (p := ⟨b, 1, none⟩) hb v1).setCell (p := ⟨b, 2, none⟩) hb v2

set_option maxRecDepth 100000 in
set_option maxHeartbeats 4000000 in
theorem stands_any {x : RD} (h : OkE x) (a : Option Addr) (c : Nat) (w : World) (hr : ReadsA w a x.len x.A) :
    Calls Try.prog 17 #[.agg #[.string x.key, .int .i64 x.t, .int .i64 x.i, .int .i64 x.q, .string x.o, .slice a x.len c]] w fun e w' => e = .returned (.tuple #[if standB x = true then chV (choiceC x) else .agg #[.string ⟨#[]⟩, .string ⟨#[]⟩, .int .i64 0], .bool (standB x)]) ∧ Below w.heap.size w w' := by
  have GT := Lib.hid (p := ∀ W, Below w.heap.size w W → Calls Try.prog 34 #[.slice a x.len c, .string ⟨#[114, 101, 112]⟩] W fun e w' => (∃ a' l' c' b, e = .returned (.tuple #[.agg #[.int .i64 (gK (attrF x repK)), .int .i64 (gN (attrF x repK)), .string (gS (attrF x repK)), .slice a' l' c'], .bool b])) ∧ Below W.heap.size W w') (fun W hb => get_one h repK a c W (hr.kept hb))
  have LD := Lib.hid (p := ∀ W, Below w.heap.size w W → Calls Try.prog 36 #[.agg #[.string x.key, .int .i64 x.t, .int .i64 x.i, .int .i64 x.q, .string x.o, .slice a x.len c]] W fun e w' => e = .returned (.int .i64 (loadC x)) ∧ Below W.heap.size W w') (fun W hb => load_any h a c W (hr.kept hb))
  have DP := Lib.hid (p := ∀ W, Calls Try.prog 35 #[.string (gS (attrF x repK))] W fun e w' => e = .returned (.int .i64 (depthP (gS (attrF x repK)).data.toList)) ∧ Below W.heap.size W w') (fun W => depth_any _ (gS_size h repK) W)
  have SB := Lib.hid (show standB x = (decide (gK (attrF x repK) = 2) && decide (0 < depthP (gS (attrF x repK)).data.toList)) from rfl)
  have CC := Lib.hid (show choiceC x = ⟨x.key, gS (attrF x repK), loadC x⟩ from rfl)
  obtain ⟨K, hK⟩ : ∃ K, gK (attrF x repK) = K := ⟨_, rfl⟩
  obtain ⟨N, hN⟩ : ∃ N, gN (attrF x repK) = N := ⟨_, rfl⟩
  obtain ⟨S, hS⟩ : ∃ S, gS (attrF x repK) = S := ⟨_, rfl⟩
  obtain ⟨Q, hQ⟩ : ∃ Q, loadC x = Q := ⟨_, rfl⟩
  obtain ⟨B, hB⟩ : ∃ B, standB x = B := ⟨_, rfl⟩
  obtain ⟨Z, hZ⟩ : ∃ Z, choiceC x = Z := ⟨_, rfl⟩
  rw [hK, hN, hS] at GT
  rw [hS] at DP
  rw [hK, hS, hB] at SB
  rw [hQ] at LD
  rw [hS, hQ, hZ] at CC
  rw [hB, hZ]
  obtain ⟨D, hD⟩ : ∃ D, depthP S.data.toList = D := ⟨_, rfl⟩
  rw [hD] at DP SB
  have hZ2 := CC.out
  subst hZ2
  clear hK hN hS h hr hQ hB hZ hD CC
  go_enter Try.func17, Try.ntmps17
  go_upto_region 1 with fail
  generalize hW : World.alloc (World.alloc w _) _ = W
  obtain ⟨hb, b1, b2, hsz⟩ := two_boxes w (.cells #[.string x.key, .int .i64 x.t, .int .i64 x.i, .int .i64 x.q, .string x.o, .slice a x.len c] 42) (.cells #[.string ⟨#[]⟩, .string ⟨#[]⟩, .int .i64 0] 32)
  rw [hW] at hb b1 b2 hsz
  clear hW hsz
  have BX := Lib.hid (And.intro hb (And.intro b1 b2))
  obtain ⟨x0, x1, x2, x3, x4, x5⟩ := sixE b1
  clear hb b1 b2
  go_wp2_with fail
  refine (GT.out W BX.out.1).mono ?_
  rintro e w2 ⟨⟨a', l', c', b, rfl⟩, hb⟩
  have B2 := Lib.hid (And.intro (BX.out.1.trans (hb.mono BX.out.1.size)) (And.intro ((hb.block _ (lt_of_block BX.out.2.1)).trans BX.out.2.1) ((hb.block _ (lt_of_block BX.out.2.2)).trans BX.out.2.2)))
  clear hb x0 x1 x2 x3 x4 x5 GT BX
  go_upto_region 2 with fail
  generalize hV : World.alloc w2 _ = V
  have hbV : Below w2.heap.size w2 V := by rw [← hV]; exact (Below.refl _ _).alloc (Nat.le_refl _) _
  have B3 := Lib.hid (show Below w.heap.size w V ∧ V.heap[w.heap.size]? = some (.cells #[.string x.key, .int .i64 x.t, .int .i64 x.i, .int .i64 x.q, .string x.o, .slice a x.len c] 42 (0, 0)) ∧ V.heap[w.heap.size + 1]? = some (.cells #[.string ⟨#[]⟩, .string ⟨#[]⟩, .int .i64 0] 32 (0, 0)) ∧ V.heap[w2.heap.size]? = some (.cells #[.int .i64 K, .int .i64 N, .string S, .slice a' l' c'] 68 (0, 0)) from ⟨B2.out.1.trans (hbV.mono B2.out.1.size), (hbV.block _ (lt_of_block B2.out.2.1)).trans B2.out.2.1, (hbV.block _ (lt_of_block B2.out.2.2)).trans B2.out.2.2, by rw [← hV]; exact heap_alloc_new w2 _⟩)
  have HU := Lib.hid (show w.heap.size ≠ w.heap.size + 1 ∧ w2.heap.size ≠ w.heap.size + 1 from ⟨by omega, by have := lt_of_block B2.out.2.2; omega⟩)
  clear hV hbV B2
  obtain ⟨U, hU⟩ : ∃ U, w2.heap.size = U := ⟨_, rfl⟩
  rw [hU] at B3 HU ⊢
  clear hU
  obtain ⟨⟨v0, v1, v2, v3⟩, -⟩ := four B3.out.2.2.2
  have TH := fun (W : World) (hh : W.heap[w.heap.size + 1]? = some (.cells #[.string ⟨#[]⟩, .string ⟨#[]⟩, .int .i64 0] 32 (0, 0))) => And.intro (threeE hh) (And.intro (frozen_of_row W (w.heap.size + 1) 0 _ _ hh) (And.intro (frozen_of_row W (w.heap.size + 1) 1 _ _ hh) (frozen_of_row W (w.heap.size + 1) 2 _ _ hh)))
  have THH := Lib.hid TH
  clear TH
  by_cases hk : K = 2
  · subst hk
    go_wp2_with fail
    refine (DP.out V).mono ?_
    rintro e w3 ⟨rfl, hb⟩
    have B4 := Lib.hid (show Below w.heap.size w w3 ∧ w3.heap[w.heap.size]? = some (.cells #[.string x.key, .int .i64 x.t, .int .i64 x.i, .int .i64 x.q, .string x.o, .slice a x.len c] 42 (0, 0)) ∧ w3.heap[w.heap.size + 1]? = some (.cells #[.string ⟨#[]⟩, .string ⟨#[]⟩, .int .i64 0] 32 (0, 0)) ∧ w3.heap[U]? = some (.cells #[.int .i64 2, .int .i64 N, .string S, .slice a' l' c'] 68 (0, 0)) from ⟨B3.out.1.trans (hb.mono B3.out.1.size), (hb.block _ (lt_of_block B3.out.2.1)).trans B3.out.2.1, (hb.block _ (lt_of_block B3.out.2.2.1)).trans B3.out.2.2.1, (hb.block _ (lt_of_block B3.out.2.2.2)).trans B3.out.2.2.2⟩)
    clear hb v0 v1 v2 v3 B3 DP
    by_cases hd : 0 < D
    · have hBt : B = true := by rw [SB.out]; simp [hd]
      subst hBt
      have d1 : ¬ D ≤ 0 := by omega
      have d2 : decide (D ≤ 0) = false := decide_eq_false d1
      have HC2 := Lib.hid (p := ∀ V' : World, V'.heap[w.heap.size]? = w3.heap[w.heap.size]? → V'.heap[U]? = w3.heap[U]? → (V'.cell? ⟨w.heap.size, 0, none⟩ = some (.string x.key) ∧ V'.cell? ⟨w.heap.size, 1, none⟩ = some (.int .i64 x.t) ∧ V'.cell? ⟨w.heap.size, 2, none⟩ = some (.int .i64 x.i) ∧ V'.cell? ⟨w.heap.size, 3, none⟩ = some (.int .i64 x.q) ∧ V'.cell? ⟨w.heap.size, 4, none⟩ = some (.string x.o) ∧ V'.cell? ⟨w.heap.size, 5, none⟩ = some (.slice a x.len c)) ∧ V'.cell? ⟨U, 2, none⟩ = some (.string S)) (fun V' h1 h2 => by
        obtain ⟨y0, y1, y2, y3, y4, y5⟩ := sixE (h1.trans B4.out.2.1)
        obtain ⟨⟨u0, u1, u2, u3⟩, -⟩ := four (h2.trans B4.out.2.2.2)
        exact ⟨⟨y0, y1, y2, y3, y4, y5⟩, u2⟩)
      have HCC := Lib.hid (p := ∀ V' : World, Below w3.heap.size w3 V' → (V'.cell? ⟨w.heap.size, 0, none⟩ = some (.string x.key) ∧ V'.cell? ⟨w.heap.size, 1, none⟩ = some (.int .i64 x.t) ∧ V'.cell? ⟨w.heap.size, 2, none⟩ = some (.int .i64 x.i) ∧ V'.cell? ⟨w.heap.size, 3, none⟩ = some (.int .i64 x.q) ∧ V'.cell? ⟨w.heap.size, 4, none⟩ = some (.string x.o) ∧ V'.cell? ⟨w.heap.size, 5, none⟩ = some (.slice a x.len c)) ∧ V'.cell? ⟨U, 2, none⟩ = some (.string S)) (fun V' hb => HC2.out V' (hb.block _ (lt_of_block B4.out.2.1)) (hb.block _ (lt_of_block B4.out.2.2.2)))
      have HDR := Lib.hid (show Below w3.heap.size w3 w3.drew from ⟨rfl, rfl, rfl, Nat.le_refl _, fun _ _ => rfl⟩)
      obtain ⟨⟨x0, x1, x2, x3, x4, x5⟩, v2⟩ := HCC.out w3 (Below.refl _ _)
      go_upto_region 4 with fail
      go_region_held3 (fun w' => (w'.cell? ⟨w.heap.size, 0, none⟩ = some (.string x.key) ∧ w'.cell? ⟨w.heap.size, 1, none⟩ = some (.int .i64 x.t) ∧ w'.cell? ⟨w.heap.size, 2, none⟩ = some (.int .i64 x.i) ∧ w'.cell? ⟨w.heap.size, 3, none⟩ = some (.int .i64 x.q) ∧ w'.cell? ⟨w.heap.size, 4, none⟩ = some (.string x.o) ∧ w'.cell? ⟨w.heap.size, 5, none⟩ = some (.slice a x.len c)) ∧ w'.cell? ⟨U, 2, none⟩ = some (.string S)) (first | assumption | exact cs.out | exact HCC.out _ B9.out | exact HCC.out _ HDR.out) (first
        | (go_at_call 36
           with_reducible refine (LD.out _ (B4.out.1.trans (HDR.out.mono B4.out.1.size))).mono ?_
           rintro e w9 ⟨rfl, hb⟩
           have B9 := Lib.hid (HDR.out.trans (hb.mono HDR.out.size))
           have cc := HCC.out _ B9.out
           have R9 := Lib.hid ((B9.out.block _ (lt_of_block B4.out.2.2.1)).trans B4.out.2.2.1)
           obtain ⟨⟨r0, r1, r2⟩, z0, z1, z2⟩ := THH.out w9 R9.out
           have cs := Lib.hid (HC2.out (((w9.setCell ⟨w.heap.size + 1, 0, none⟩ (.string x.key)).setCell ⟨w.heap.size + 1, 1, none⟩ (.string S)).setCell ⟨w.heap.size + 1, 2, none⟩ (.int .i64 Q)) ((three_other w9 HU.out.1 _ _ _).trans (B9.out.block _ (lt_of_block B4.out.2.1))) ((three_other w9 HU.out.2 _ _ _).trans (B9.out.block _ (lt_of_block B4.out.2.2.2))))
           clear hb)
        | fail)
      have E9 := Lib.hid (three_setC R9.out (.string x.key) (.string S) (.int .i64 Q))
      have P9 := Lib.hid (three_below (B4.out.1.trans (B9.out.mono B4.out.1.size)) (show w.heap.size ≤ w.heap.size + 1 by omega) (.string x.key) (.string S) (.int .i64 Q))
      clear x0 x1 x2 x3 x4 x5 v2 cc r0 r1 r2 z0 z1 z2
      go_wp2_with fail
      obtain ⟨g0, g1, g2⟩ := threeE E9.out
      exact bodyPost_ret (v := .tuple #[.agg #[.string x.key, .string S, .int .i64 Q], .bool true]) (by simp [results, Try.results17, go_sem, g0, g1, g2]) rfl ⟨rfl, P9.out⟩
    · have hBf : B = false := by rw [SB.out]; simp [hd]
      subst hBf
      have d1 : D ≤ 0 := by omega
      have d2 : decide (D ≤ 0) = true := decide_eq_true d1
      obtain ⟨⟨r0, r1, r2⟩, z0, z1, z2⟩ := THH.out w3 B4.out.2.2.1
      have E9 := Lib.hid (three_setC B4.out.2.2.1 (.string ⟨#[]⟩) (.string ⟨#[]⟩) (.int .i64 0))
      have P9 := Lib.hid (three_below B4.out.1 (show w.heap.size ≤ w.heap.size + 1 by omega) (.string ⟨#[]⟩) (.string ⟨#[]⟩) (.int .i64 0))
      go_wp2_with fail
      obtain ⟨g0, g1, g2⟩ := threeE E9.out
      exact bodyPost_ret (v := .tuple #[.agg #[.string ⟨#[]⟩, .string ⟨#[]⟩, .int .i64 0], .bool false]) (by simp [results, Try.results17, go_sem, g0, g1, g2]) rfl ⟨rfl, P9.out⟩
  · have q0 : (K != 2) = true := by simpa using hk
    have hBf : B = false := by rw [SB.out]; simp [hk]
    subst hBf
    obtain ⟨⟨r0, r1, r2⟩, z0, z1, z2⟩ := THH.out V B3.out.2.2.1
    have E9 := Lib.hid (three_setC B3.out.2.2.1 (.string ⟨#[]⟩) (.string ⟨#[]⟩) (.int .i64 0))
    have P9 := Lib.hid (three_below B3.out.1 (show w.heap.size ≤ w.heap.size + 1 by omega) (.string ⟨#[]⟩) (.string ⟨#[]⟩) (.int .i64 0))
    go_wp2_with fail
    obtain ⟨g0, g1, g2⟩ := threeE E9.out
    exact bodyPost_ret (v := .tuple #[.agg #[.string ⟨#[]⟩, .string ⟨#[]⟩, .int .i64 0], .bool false]) (by simp [results, Try.results17, go_sem, g0, g1, g2]) rfl ⟨rfl, P9.out⟩

end Go.Proofs.Ytpdobbdbmgeoiaa
