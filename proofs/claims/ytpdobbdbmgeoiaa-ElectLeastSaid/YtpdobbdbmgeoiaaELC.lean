/-
  No statement: the orders of package elect: a field's, several in turn.
-/
import Derived.Test.YtpdobbdbmgeoiaaSCmp
import Derived.Test.YtpdobbdbmgeoiaaTbTwin
import Derived.Shelf.SlSortCmp.WholeK
import Derived.Deep.RegionHeld3
set_option linter.unusedVariables false
set_option linter.unusedSimpArgs false
namespace Go.Proofs.Ytpdobbdbmgeoiaa
open Go.RowKit Go.Sort

/-- A choice. -/
structure CH where
  key : ByteArray
  rep : ByteArray
  load : Int
instance : Inhabited CH := ⟨⟨⟨#[]⟩, ⟨#[]⟩, 0⟩⟩
def encC (c : CH) : List Value := [.string c.key, .string c.rep, .int .i64 c.load]
abbrev chV (c : CH) : Value := .agg #[.string c.key, .string c.rep, .int .i64 c.load]

/-- The order of choices. -/
def cmpC (a b : CH) : Int := orI (cmpI a.load b.load) (orI (cmpS a.rep b.rep) (cmpS a.key b.key))

/-- A world that has only grown, and drawn. -/
def GrC (W w' : World) : Prop := ∃ q os, w' = grow (W.drewN q) os
theorem GrC.refl (W : World) : GrC W W := ⟨0, #[], by simp [World.drewN]⟩
theorem GrC.trans {a b c : World} (h : GrC a b) (h' : GrC b c) : GrC a c := by
  obtain ⟨q, os, rfl⟩ := h
  obtain ⟨q', os', rfl⟩ := h'
  refine ⟨q + q', os ++ os', ?_⟩
  rw [← grow_grow]
  simp [grow, World.drewN, Nat.add_assoc]
theorem GrC.alloc {a b : World} (h : GrC a b) (o : Obj) : GrC a (b.alloc o) := h.trans ⟨0, #[o], by rw [alloc_eq_grow]; simp [World.drewN]⟩
theorem GrC.drewN {a b : World} (h : GrC a b) (n : Nat) : GrC a (b.drewN n) := h.trans ⟨n, #[], by simp⟩
theorem GrC.drew {a b : World} (h : GrC a b) : GrC a b.drew := h.drewN 1
theorem GrC.below {a b : World} (h : GrC a b) : Below a.heap.size a b := by
  obtain ⟨q, os, rfl⟩ := h
  refine ⟨rfl, rfl, rfl, by simp [grow, World.drewN], fun k hk => ?_⟩
  show (a.heap ++ os)[k]? = _
  rw [Array.getElem?_append_left hk]

theorem threeE {w : World} {b : Nat} {v0 v1 v2 : Value} {t : TypeId} (h : w.heap[b]? = some (.cells #[v0, v1, v2] t (0, 0))) :
    w.cell? ⟨b, 0, none⟩ = some v0 ∧ w.cell? ⟨b, 1, none⟩ = some v1 ∧ w.cell? ⟨b, 2, none⟩ = some v2 := by
  refine ⟨?_, ?_, ?_⟩ <;> simp [World.cell?, h]

theorem loadF_any (c : CH) (W : World) : Calls Try.prog 21 #[chV c] W fun e w' => e = .returned (.int .i64 c.load) ∧ GrC W w' := by
  go_enter Try.func21, Try.ntmps21
  go_wp2_with fail
  go_ret
  exact ⟨rfl, (GrC.refl _).alloc _⟩
theorem repF_any (c : CH) (W : World) : Calls Try.prog 23 #[chV c] W fun e w' => e = .returned (.string c.rep) ∧ GrC W w' := by
  go_enter Try.func23, Try.ntmps23
  go_wp2_with fail
  go_ret
  exact ⟨rfl, (GrC.refl _).alloc _⟩
theorem keyF_any (c : CH) (W : World) : Calls Try.prog 24 #[chV c] W fun e w' => e = .returned (.string c.key) ∧ GrC W w' := by
  go_enter Try.func24, Try.ntmps24
  go_wp2_with fail
  go_ret
  exact ⟨rfl, (GrC.refl _).alloc _⟩

set_option maxRecDepth 100000 in
set_option maxHeartbeats 4000000 in
theorem byI_any (x y : CH) (F : Nat) (w : World) (hF : w.heap[F]? = some (.cells #[.func (.func 21) #[] #[]] 59 (0, 0))) :
    Calls Try.prog 40 #[chV x, chV y, .pointer (some ⟨F, 0, none⟩)] w fun e w' => e = .returned (.int .i64 (cmpI x.load y.load)) ∧ GrC w w' := by
  have FA := Lib.hid (p := ∀ (c : CH) (W : World), Calls Try.prog 21 #[.agg #[.string c.key, .string c.rep, .int .i64 c.load]] W fun e w' => e = .returned (.int .i64 c.load) ∧ GrC W w') (fun c W => loadF_any c W)
  have CA := Lib.hid (p := ∀ W, Calls Try.prog 41 #[.int .i64 x.load, .int .i64 y.load] W fun e w' => e = .returned (.int .i64 (cmpI x.load y.load)) ∧ W = w') (fun W => cmp64_any x.load y.load W)
  obtain ⟨r, hr⟩ : ∃ r, cmpI x.load y.load = r := ⟨_, rfl⟩
  rw [hr] at CA ⊢
  clear hr
  have HF := Lib.hid hF
  clear hF
  go_enter Try.func40, Try.ntmps40
  go_upto_region 1 with fail
  generalize hW : World.alloc (World.alloc w _) _ = W
  obtain ⟨hb, b1, b2, hsz⟩ := two_boxes w (.cells #[.string x.key, .string x.rep, .int .i64 x.load] 32) (.cells #[.string y.key, .string y.rep, .int .i64 y.load] 32)
  have G0 : Hid (GrC w W) := Lib.hid (by rw [← hW]; exact ((GrC.refl _).alloc _).alloc _)
  rw [hW] at hb b1 b2 hsz
  clear hW
  have HCC := Lib.hid (p := ∀ V, GrC W V → (V.cell? ⟨F, 0, none⟩ = some (.func (.func 21) #[] #[]) ∧ V.cell? ⟨w.heap.size, 0, none⟩ = some (.string x.key) ∧ V.cell? ⟨w.heap.size, 1, none⟩ = some (.string x.rep) ∧ V.cell? ⟨w.heap.size, 2, none⟩ = some (.int .i64 x.load)) ∧ V.cell? ⟨w.heap.size + 1, 0, none⟩ = some (.string y.key) ∧ V.cell? ⟨w.heap.size + 1, 1, none⟩ = some (.string y.rep) ∧ V.cell? ⟨w.heap.size + 1, 2, none⟩ = some (.int .i64 y.load)) (fun V hg => by
    have hb2 := hg.below
    have f0 := cell_of_row V F 0 _ _ (0, 0) ((hb2.block _ (Nat.lt_of_lt_of_le (lt_of_block HF.out) hb.size)).trans ((hb.block _ (lt_of_block HF.out)).trans HF.out))
    obtain ⟨x0, x1, x2⟩ := threeE ((hb2.block _ (lt_of_block b1)).trans b1)
    obtain ⟨y0, y1, y2⟩ := threeE ((hb2.block _ (lt_of_block b2)).trans b2)
    exact ⟨⟨by simpa using f0, x0, x1, x2⟩, y0, y1, y2⟩)
  have GD := Lib.hid ((GrC.refl W).drew)
  obtain ⟨⟨f0, x0, x1, x2⟩, y0, y1, y2⟩ := HCC.out W (GrC.refl W)
  clear hb b1 b2 hsz
  go_region_held3 (fun w' => (w'.cell? ⟨F, 0, none⟩ = some (.func (.func 21) #[] #[]) ∧ w'.cell? ⟨w.heap.size, 0, none⟩ = some (.string x.key) ∧ w'.cell? ⟨w.heap.size, 1, none⟩ = some (.string x.rep) ∧ w'.cell? ⟨w.heap.size, 2, none⟩ = some (.int .i64 x.load)) ∧ w'.cell? ⟨w.heap.size + 1, 0, none⟩ = some (.string y.key) ∧ w'.cell? ⟨w.heap.size + 1, 1, none⟩ = some (.string y.rep) ∧ w'.cell? ⟨w.heap.size + 1, 2, none⟩ = some (.int .i64 y.load)) (first | assumption | exact HCC.out _ G2.out | exact HCC.out _ G1.out | exact HCC.out _ GD.out) (first
    | (go_at_call 41
       with_reducible refine (CA.out _).mono ?_
       rintro e w9 ⟨rfl, rfl⟩)
    | (go_at_call 21
       with_reducible refine (FA.out _ _).mono ?_
       rintro e w2 ⟨rfl, hg⟩
       have G2 := Lib.hid (G1.out.trans hg)
       have cc := HCC.out _ G2.out
       clear hg)
    | (go_at_call 21
       with_reducible refine (FA.out _ _).mono ?_
       rintro e w1 ⟨rfl, hg⟩
       have G1 := Lib.hid (GD.out.trans hg)
       have cc := HCC.out _ G1.out
       clear hg)
    | fail)
  all_goals
    have P := Lib.hid (G0.out.trans G2.out)
  go_wp2_with fail
  all_goals
    go_ret
    exact ⟨rfl, P.out⟩

set_option maxRecDepth 100000 in
set_option maxHeartbeats 4000000 in
theorem byR_any (x y : CH) (F : Nat) (w : World) (hF : w.heap[F]? = some (.cells #[.func (.func 23) #[] #[]] 61 (0, 0))) :
    Calls Try.prog 42 #[chV x, chV y, .pointer (some ⟨F, 0, none⟩)] w fun e w' => e = .returned (.int .i64 (cmpS x.rep y.rep)) ∧ GrC w w' := by
  have FA := Lib.hid (p := ∀ (c : CH) (W : World), Calls Try.prog 23 #[.agg #[.string c.key, .string c.rep, .int .i64 c.load]] W fun e w' => e = .returned (.string c.rep) ∧ GrC W w') (fun c W => repF_any c W)
  have CA := Lib.hid (p := ∀ W, Calls Try.prog 43 #[.string x.rep, .string y.rep] W fun e w' => e = .returned (.int .i64 (cmpS x.rep y.rep)) ∧ W = w') (fun W => cmpStr_any x.rep y.rep W)
  obtain ⟨r, hr⟩ : ∃ r, cmpS x.rep y.rep = r := ⟨_, rfl⟩
  rw [hr] at CA ⊢
  clear hr
  have HF := Lib.hid hF
  clear hF
  go_enter Try.func42, Try.ntmps42
  go_upto_region 1 with fail
  generalize hW : World.alloc (World.alloc w _) _ = W
  obtain ⟨hb, b1, b2, hsz⟩ := two_boxes w (.cells #[.string x.key, .string x.rep, .int .i64 x.load] 32) (.cells #[.string y.key, .string y.rep, .int .i64 y.load] 32)
  have G0 : Hid (GrC w W) := Lib.hid (by rw [← hW]; exact ((GrC.refl _).alloc _).alloc _)
  rw [hW] at hb b1 b2 hsz
  clear hW
  have HCC := Lib.hid (p := ∀ V, GrC W V → (V.cell? ⟨F, 0, none⟩ = some (.func (.func 23) #[] #[]) ∧ V.cell? ⟨w.heap.size, 0, none⟩ = some (.string x.key) ∧ V.cell? ⟨w.heap.size, 1, none⟩ = some (.string x.rep) ∧ V.cell? ⟨w.heap.size, 2, none⟩ = some (.int .i64 x.load)) ∧ V.cell? ⟨w.heap.size + 1, 0, none⟩ = some (.string y.key) ∧ V.cell? ⟨w.heap.size + 1, 1, none⟩ = some (.string y.rep) ∧ V.cell? ⟨w.heap.size + 1, 2, none⟩ = some (.int .i64 y.load)) (fun V hg => by
    have hb2 := hg.below
    have f0 := cell_of_row V F 0 _ _ (0, 0) ((hb2.block _ (Nat.lt_of_lt_of_le (lt_of_block HF.out) hb.size)).trans ((hb.block _ (lt_of_block HF.out)).trans HF.out))
    obtain ⟨x0, x1, x2⟩ := threeE ((hb2.block _ (lt_of_block b1)).trans b1)
    obtain ⟨y0, y1, y2⟩ := threeE ((hb2.block _ (lt_of_block b2)).trans b2)
    exact ⟨⟨by simpa using f0, x0, x1, x2⟩, y0, y1, y2⟩)
  have GD := Lib.hid ((GrC.refl W).drew)
  obtain ⟨⟨f0, x0, x1, x2⟩, y0, y1, y2⟩ := HCC.out W (GrC.refl W)
  clear hb b1 b2 hsz
  go_region_held3 (fun w' => (w'.cell? ⟨F, 0, none⟩ = some (.func (.func 23) #[] #[]) ∧ w'.cell? ⟨w.heap.size, 0, none⟩ = some (.string x.key) ∧ w'.cell? ⟨w.heap.size, 1, none⟩ = some (.string x.rep) ∧ w'.cell? ⟨w.heap.size, 2, none⟩ = some (.int .i64 x.load)) ∧ w'.cell? ⟨w.heap.size + 1, 0, none⟩ = some (.string y.key) ∧ w'.cell? ⟨w.heap.size + 1, 1, none⟩ = some (.string y.rep) ∧ w'.cell? ⟨w.heap.size + 1, 2, none⟩ = some (.int .i64 y.load)) (first | assumption | exact HCC.out _ G2.out | exact HCC.out _ G1.out | exact HCC.out _ GD.out) (first
    | (go_at_call 43
       with_reducible refine (CA.out _).mono ?_
       rintro e w9 ⟨rfl, rfl⟩)
    | (go_at_call 23
       with_reducible refine (FA.out _ _).mono ?_
       rintro e w2 ⟨rfl, hg⟩
       have G2 := Lib.hid (G1.out.trans hg)
       have cc := HCC.out _ G2.out
       clear hg)
    | (go_at_call 23
       with_reducible refine (FA.out _ _).mono ?_
       rintro e w1 ⟨rfl, hg⟩
       have G1 := Lib.hid (GD.out.trans hg)
       have cc := HCC.out _ G1.out
       clear hg)
    | fail)
  all_goals
    have P := Lib.hid (G0.out.trans G2.out)
  go_wp2_with fail
  all_goals
    go_ret
    exact ⟨rfl, P.out⟩

set_option maxRecDepth 100000 in
set_option maxHeartbeats 4000000 in
theorem byK_any (x y : CH) (F : Nat) (w : World) (hF : w.heap[F]? = some (.cells #[.func (.func 24) #[] #[]] 61 (0, 0))) :
    Calls Try.prog 42 #[chV x, chV y, .pointer (some ⟨F, 0, none⟩)] w fun e w' => e = .returned (.int .i64 (cmpS x.key y.key)) ∧ GrC w w' := by
  have FA := Lib.hid (p := ∀ (c : CH) (W : World), Calls Try.prog 24 #[.agg #[.string c.key, .string c.rep, .int .i64 c.load]] W fun e w' => e = .returned (.string c.key) ∧ GrC W w') (fun c W => keyF_any c W)
  have CA := Lib.hid (p := ∀ W, Calls Try.prog 43 #[.string x.key, .string y.key] W fun e w' => e = .returned (.int .i64 (cmpS x.key y.key)) ∧ W = w') (fun W => cmpStr_any x.key y.key W)
  obtain ⟨r, hr⟩ : ∃ r, cmpS x.key y.key = r := ⟨_, rfl⟩
  rw [hr] at CA ⊢
  clear hr
  have HF := Lib.hid hF
  clear hF
  go_enter Try.func42, Try.ntmps42
  go_upto_region 1 with fail
  generalize hW : World.alloc (World.alloc w _) _ = W
  obtain ⟨hb, b1, b2, hsz⟩ := two_boxes w (.cells #[.string x.key, .string x.rep, .int .i64 x.load] 32) (.cells #[.string y.key, .string y.rep, .int .i64 y.load] 32)
  have G0 : Hid (GrC w W) := Lib.hid (by rw [← hW]; exact ((GrC.refl _).alloc _).alloc _)
  rw [hW] at hb b1 b2 hsz
  clear hW
  have HCC := Lib.hid (p := ∀ V, GrC W V → (V.cell? ⟨F, 0, none⟩ = some (.func (.func 24) #[] #[]) ∧ V.cell? ⟨w.heap.size, 0, none⟩ = some (.string x.key) ∧ V.cell? ⟨w.heap.size, 1, none⟩ = some (.string x.rep) ∧ V.cell? ⟨w.heap.size, 2, none⟩ = some (.int .i64 x.load)) ∧ V.cell? ⟨w.heap.size + 1, 0, none⟩ = some (.string y.key) ∧ V.cell? ⟨w.heap.size + 1, 1, none⟩ = some (.string y.rep) ∧ V.cell? ⟨w.heap.size + 1, 2, none⟩ = some (.int .i64 y.load)) (fun V hg => by
    have hb2 := hg.below
    have f0 := cell_of_row V F 0 _ _ (0, 0) ((hb2.block _ (Nat.lt_of_lt_of_le (lt_of_block HF.out) hb.size)).trans ((hb.block _ (lt_of_block HF.out)).trans HF.out))
    obtain ⟨x0, x1, x2⟩ := threeE ((hb2.block _ (lt_of_block b1)).trans b1)
    obtain ⟨y0, y1, y2⟩ := threeE ((hb2.block _ (lt_of_block b2)).trans b2)
    exact ⟨⟨by simpa using f0, x0, x1, x2⟩, y0, y1, y2⟩)
  have GD := Lib.hid ((GrC.refl W).drew)
  obtain ⟨⟨f0, x0, x1, x2⟩, y0, y1, y2⟩ := HCC.out W (GrC.refl W)
  clear hb b1 b2 hsz
  go_region_held3 (fun w' => (w'.cell? ⟨F, 0, none⟩ = some (.func (.func 24) #[] #[]) ∧ w'.cell? ⟨w.heap.size, 0, none⟩ = some (.string x.key) ∧ w'.cell? ⟨w.heap.size, 1, none⟩ = some (.string x.rep) ∧ w'.cell? ⟨w.heap.size, 2, none⟩ = some (.int .i64 x.load)) ∧ w'.cell? ⟨w.heap.size + 1, 0, none⟩ = some (.string y.key) ∧ w'.cell? ⟨w.heap.size + 1, 1, none⟩ = some (.string y.rep) ∧ w'.cell? ⟨w.heap.size + 1, 2, none⟩ = some (.int .i64 y.load)) (first | assumption | exact HCC.out _ G2.out | exact HCC.out _ G1.out | exact HCC.out _ GD.out) (first
    | (go_at_call 43
       with_reducible refine (CA.out _).mono ?_
       rintro e w9 ⟨rfl, rfl⟩)
    | (go_at_call 24
       with_reducible refine (FA.out _ _).mono ?_
       rintro e w2 ⟨rfl, hg⟩
       have G2 := Lib.hid (G1.out.trans hg)
       have cc := HCC.out _ G2.out
       clear hg)
    | (go_at_call 24
       with_reducible refine (FA.out _ _).mono ?_
       rintro e w1 ⟨rfl, hg⟩
       have G1 := Lib.hid (GD.out.trans hg)
       have cc := HCC.out _ G1.out
       clear hg)
    | fail)
  all_goals
    have P := Lib.hid (G0.out.trans G2.out)
  go_wp2_with fail
  all_goals
    go_ret
    exact ⟨rfl, P.out⟩

end Go.Proofs.Ytpdobbdbmgeoiaa
