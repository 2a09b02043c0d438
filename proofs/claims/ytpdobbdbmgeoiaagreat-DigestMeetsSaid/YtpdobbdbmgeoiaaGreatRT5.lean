/-
  No statement: the document's table: Put of a row that may be, where there is room.
-/
import Derived.Test.YtpdobbdbmgeoiaaGreatDgTab
import Derived.Deep.CutBlock
import Derived.Deep.DeepCutAuto
set_option linter.unusedVariables false
set_option linter.unusedSimpArgs false
namespace Go.Proofs.YtpdobbdbmgeoiaaGreat
open Go.RowKit

set_option maxRecDepth 100000 in
set_option maxHeartbeats 8000000 in
theorem rPut_any (most : Int) (L : List RD) (a : Option Addr) (c : Nat) (x : RD) (y : Option Addr) (cy : Nat) (hn : L.length ≤ 900) (hac : a = none → c = 0) (hlc : L.length ≤ c) (w : World) (G : Nat → Prop) (hG : ∀ q, G q → q < w.heap.size)
    (CHK : ∀ W, Below w.heap.size w W → Calls Tryz.prog 37 #[rowA x y cy] W fun e w' => e = .returned (.int .i64 0) ∧ Below W.heap.size W w')
    (hold : isQ L x.key = true → cmpSt (getQ L x.key).t (getQ L x.key).i (getQ L x.key).q (getQ L x.key).o x.t x.i x.q x.o < 0) (hroom : isQ L x.key = false → (L.length : Int) < most)
    (hab : ∀ b off, a = some ⟨b, off, none⟩ → b < w.heap.size) (T0 : List RTd) (hT0 : T0.map (·.1) = L) (hQ0 : RowsQ G w a T0)
    (h : ReadsRG G w a L.length (atD L)) (hy : ReadsAG G w y x.len x.A) :
    Calls Tryz.prog 8 #[tabV most a L.length c, rowA x y cy] w fun e w' => (∃ (va : Option Addr) (vc : Nat) (T : List RTd), e = .returned (.tuple #[tabV most va T.length vc, .int .i64 0]) ∧ OwnQ G w' w.heap.size (.slice va T.length vc) T ∧ T.map (·.1) = insQ (putRest L x.key) x) ∧ Below w.heap.size w w' := by
  obtain ⟨i0, hi, hz0, hz1, hz2⟩ := info_parts rowInfo
  have und : Tryz.prog.underlying 28 = some (.slice 44) := Tryz.underlying28
  have HG := Lib.hid hG
  have HA := Lib.hid h
  have CK := Lib.hid CHK
  have HT0 := Lib.hid hT0
  have HQ0 := Lib.hid (p := ∀ W, Below w.heap.size w W → RowsQ G W a T0) (fun W hb => hQ0.kept (keptBelow hb) (fun q hq h => by have := hG q hq; omega) (fun b off e h => by have := hab b off e; omega))
  have HTL := Lib.hid (show T0.length = L.length by rw [← hT0, List.length_map])
  have HAC := Lib.hid hac
  have HDL := Lib.hid (p := ∀ l : List RD, l = dropQ L x.key → l.length ≤ L.length) (fun l h => by rw [h]; exact List.length_filter_le _ _)
  have HY := Lib.hid hy
  have RB := Lib.hid (p := ∀ W, Below w.heap.size w W → ReadsRG (fun q => q < W.heap.size) W a L.length (atD L)) (fun W hb => (h.kept (keptBelow hb) (fun q hq h => by have := hG q hq; omega)).mono (fun q h _ => by have := hb.size; have := hG q h; omega))
  have GT := Lib.hid (p := ∀ W, Below w.heap.size w W → Calls Tryz.prog 11 #[tabV most a L.length c, .string x.key] W fun e w' => (∃ y' cy', e = .returned (.tuple #[rowA (getQ L x.key) y' cy', .bool (isQ L x.key)])) ∧ Below W.heap.size W w') (fun W hb => (rGet_any most L a c x.key (by omega) W (RB.out W hb)).mono (fun e w' h => ⟨by obtain ⟨⟨y', cy', he, _⟩, _⟩ := h; exact ⟨y', cy', he⟩, h.2⟩))
  have HOLD := Lib.hid hold
  have HROOM := Lib.hid hroom
  have PRT := Lib.hid (p := isQ L x.key = true → putRest L x.key = dropQ L x.key) (fun h => by unfold putRest; rw [if_pos h])
  have PRF := Lib.hid (p := isQ L x.key = false → putRest L x.key = L) (fun h => by unfold putRest; rw [if_neg (by rw [h]; decide)])
  have DR := Lib.hid (p := ∀ W, Below w.heap.size w W → Calls Tryz.prog 13 #[tabV most a L.length c, .string x.key] W fun e w' => (∃ (va : Option Addr) (vc : Nat) (T : List RTd), e = .returned (tabV most va T.length vc) ∧ OwnQ G w' W.heap.size (.slice va T.length vc) T ∧ T.map (·.1) = dropQ L x.key) ∧ Below W.heap.size W w') (fun W hb => rDrop_any most L a c x.key (by omega) W G (fun q hq => by have := hb.size; have := hG q hq; omega) (h.kept (keptBelow hb) (fun q hq h => by have := hG q hq; omega)))
  obtain ⟨I, hI⟩ : ∃ I, isQ L x.key = I := ⟨_, rfl⟩
  obtain ⟨X, hX⟩ : ∃ X, getQ L x.key = X := ⟨_, rfl⟩
  obtain ⟨R, hR⟩ : ∃ R, putRest L x.key = R := ⟨_, rfl⟩
  obtain ⟨n, hnn⟩ : ∃ n, L.length = n := ⟨_, rfl⟩
  rw [hI, hX] at HOLD
  rw [hI, hnn] at HROOM
  rw [hI, hR] at PRT PRF
  simp only [hI, hX, hnn] at GT
  simp only [hnn] at DR RB
  rw [hR]
  rw [hnn] at HA hn hlc HTL HDL ⊢
  clear h hy hold hroom CHK hI hX hR hnn hT0 hQ0 hac hab hG
  obtain ⟨C, hC⟩ : ∃ C, cmpSt X.t X.i X.q X.o x.t x.i x.q x.o = C := ⟨_, rfl⟩
  have CM := Lib.hid (p := ∀ V', Calls Tryz.prog 38 #[.agg #[.int .i64 X.t, .int .i64 X.i, .int .i64 X.q, .string X.o], .agg #[.int .i64 x.t, .int .i64 x.i, .int .i64 x.q, .string x.o]] V' fun e w' => e = .returned (.int .i64 C) ∧ Below V'.heap.size V' w') (fun V' => by rw [← hC]; exact rCmpStamp_any X.t X.i X.q X.o x.t x.i x.q x.o V')
  rw [hC] at HOLD
  clear hC
  go_enter Tryz.func8, Tryz.ntmps8
  go_upto_region 1 with fail
  generalize hW : World.alloc (World.alloc (World.alloc w _) _) _ = W
  obtain ⟨hb, b1, b2, b3, hsz⟩ := three_boxes w (.cells #[.int .i64 most, .slice a n c] 30) (.cells #[.string x.key, .int .i64 x.t, .int .i64 x.i, .int .i64 x.q, .string x.o, .slice y x.len cy] 44) (.cells #[.int .i64 0, .slice none 0 0] 30)
  rw [hW] at hb b1 b2 b3 hsz
  clear hW hsz
  have K0 : Hid (PuK w W most x y cy a n c) := Lib.hid ⟨hb, b1, b2, b3⟩
  clear hb b1 b2 b3
  obtain ⟨x0, x1, x2, x3, x4, x5⟩ := sixE K0.out.2.2.1
  go_wp2_with fail
  refine (CK.out W K0.out.1).mono ?_
  rintro e w1 ⟨rfl, hb⟩
  have K1 := Lib.hid (K0.out.below hb)
  clear hb K0 x0 x1 x2 x3 x4 x5 CK
  obtain ⟨x0, x1, x2, x3, x4, x5⟩ := sixE K1.out.2.2.1
  obtain ⟨⟨t0, t1⟩, -⟩ := twoE K1.out.2.1
  go_wp2_with fail
  refine (GT.out w1 K1.out.1).mono ?_
  rintro e w2 ⟨⟨y', cy', rfl⟩, hb⟩
  have K2 := Lib.hid (K1.out.below hb)
  clear hb K1 x0 x1 x2 x3 x4 x5 t0 t1 GT
  go_upto_block 0 with fail
  generalize hV : World.alloc w2 _ = V
  have hbV : Below w2.heap.size w2 V := by rw [← hV]; exact (Below.refl _ _).alloc (Nat.le_refl _) _
  have hV2 : V.heap[w2.heap.size]? = some (.cells #[.string X.key, .int .i64 X.t, .int .i64 X.i, .int .i64 X.q, .string X.o, .slice y' X.len cy'] 44 (0, 0)) := by rw [← hV]; exact heap_alloc_new w2 _
  clear hV
  obtain ⟨z0, z1, z2, z3, z4, z5⟩ := sixE hV2
  have K3 := Lib.hid (K2.out.below hbV)
  clear hbV hV2 K2
  obtain ⟨B7, hB7⟩ : ∃ B, w2.heap.size = B := ⟨_, rfl⟩
  rw [hB7] at z0 z1 z2 z3 z4 z5 ⊢
  clear hB7
  go_cut [] (fun wc => ∃ (va : Option Addr) (vc : Nat) (T : List RTd), Hid (PuK w wc most x y cy va T.length vc) ∧ Hid (RowsQ G wc va T) ∧ Hid (ReadsRG (fun q => q < wc.heap.size) wc va T.length (atD (T.map (·.1)))) ∧ Hid (T.map (·.1) = R) ∧ Hid ((va = none → vc = 0) ∧ T.length ≤ vc ∧ T.length ≤ 901))
  case first =>
    cases I with
    | false =>
      have hr := HROOM.out rfl
      have c1 : decide (most ≤ (n : Int)) = false := decide_eq_false (by omega)
      have c2 : ¬ most ≤ (n : Int) := by omega
      obtain ⟨⟨t0, t1⟩, f0, f1⟩ := twoE K3.out.2.1
      go_wp2_with fail
      go_meet
      case rel =>
        have e1 : T0.map (·.1) = R := HT0.out.trans (PRF.out (by first | trivial | rfl)).symm
        refine ⟨a, c, T0, Lib.hid (by rw [HTL.out]; exact K3.out), Lib.hid (HQ0.out V K3.out.1), Lib.hid (by rw [HTL.out, HT0.out]; exact RB.out V K3.out.1), Lib.hid e1, Lib.hid ⟨HAC.out, by rw [HTL.out]; exact hlc, by rw [HTL.out]; omega⟩⟩
    | true =>
      have hc := HOLD.out rfl
      have c1 : decide (0 ≤ C) = false := decide_eq_false (by omega)
      obtain ⟨x0, x1, x2, x3, x4, x5⟩ := sixE K3.out.2.2.1
      go_wp2_with fail
      refine (CM.out V).mono ?_
      rintro e w5 ⟨rfl, hb⟩
      have K5 := Lib.hid (K3.out.below hb)
      have c2 : ¬ (0 : Int) ≤ C := by omega
      clear hb z0 z1 z2 z3 z4 z5 x0 x1 x2 x3 x4 x5
      obtain ⟨x0, x1, x2, x3, x4, x5⟩ := sixE K5.out.2.2.1
      obtain ⟨⟨t0, t1⟩, f0, f1⟩ := twoE K5.out.2.1
      go_wp2_with fail
      refine (DR.out _ K5.out.1).mono ?_
      rintro e w6 ⟨⟨va, vc, T, rfl, hO, hT⟩, hb⟩
      have K6 := Lib.hid (K5.out.below hb)
      have O6 := Lib.hid hO
      have T6 := Lib.hid hT
      clear hb hO hT t0 t1 f0 f1 x0 x1 x2 x3 x4 x5
      obtain ⟨⟨t0, t1⟩, f0, f1⟩ := twoE K6.out.2.1
      go_wp2_with fail
      go_meet
      case rel =>
        obtain ⟨k1, k2, k3, k4⟩ := K6.out
        have hw5 : w.heap.size < w5.heap.size := lt_of_block K5.out.2.1
        have hS := K5.out.1.size
        have O7 := ((O6.out.setBox (U := w.heap.size) (o := 0) hw5 (fun q hq => by have := HG.out q hq; omega) (.int .i64 most)).setBox (U := w.heap.size) (o := 1) hw5 (fun q hq => by have := HG.out q hq; omega) (.slice va T.length vc))
        have e1 : T.map (·.1) = R := T6.out.trans (PRT.out (by first | trivial | rfl)).symm
        have hl : T.length ≤ n := by have := HDL.out _ T6.out; rwa [List.length_map] at this
        refine ⟨va, vc, T, Lib.hid ⟨(k1.setCell (p := ⟨w.heap.size, 0, none⟩) (Nat.le_refl _) _).setCell (p := ⟨w.heap.size, 1, none⟩) (Nat.le_refl _) _, two_setD k2 _ _, ?_, ?_⟩, Lib.hid O7.rows.1, Lib.hid ?_, Lib.hid e1, Lib.hid ⟨O7.rows.2.1, O7.rows.2.2, by omega⟩⟩
        · exact (Below.heap_setCell _ _ _ _ (by show w.heap.size + 1 ≠ w.heap.size; omega)).trans ((Below.heap_setCell _ _ _ _ (by show w.heap.size + 1 ≠ w.heap.size; omega)).trans k3)
        · exact (Below.heap_setCell _ _ _ _ (by show w.heap.size + 2 ≠ w.heap.size; omega)).trans ((Below.heap_setCell _ _ _ _ (by show w.heap.size + 2 ≠ w.heap.size; omega)).trans k4)
        · exact ((O7.reads (H := fun _ => True) (atD (T.map (·.1))) (fun j z hz => by rw [atD_lt (by rw [List.length_map]; exact (List.getElem?_eq_some_iff.1 hz).1), List.getElem_map, (List.getElem?_eq_some_iff.1 hz).2]) (fun _ _ => trivial) (fun _ _ => trivial)).2.2).mono (fun q _ h => h)
  case rest =>
  obtain ⟨va, vc, T, K7, Q7, R7, E7, C7⟩ := hcut
  clear K3 z0 z1 z2 z3 z4 z5 CM DR HROOM RB HA HT0 HQ0 PRT PRF HOLD
  have AT := Lib.hid (show Calls Tryz.prog 40 #[tabV most va T.length vc, .string x.key] wc fun e w' => e = .returned (.tuple #[.int .i64 (posQ R x.key), .bool (isQ R x.key)]) ∧ Below wc.heap.size wc w' by
    have := rAt_any most (T.map (·.1)) va vc x.key (by rw [List.length_map]; have := C7.out.2.2; omega) wc (by rw [List.length_map]; exact R7.out)
    rw [List.length_map, E7.out] at this
    exact this)
  have PL := Lib.hid (show posQ R x.key ≤ T.length by have := posQ_le R x.key; rw [← E7.out, List.length_map] at this; rw [← E7.out]; exact this)
  obtain ⟨P, hP⟩ : ∃ P, posQ R x.key = P := ⟨_, rfl⟩
  have EP := Lib.hid (show insQ R x = R.take P ++ x :: R.drop P by unfold insQ; rw [hP])
  rw [hP] at AT PL
  clear hP R7
  obtain ⟨x0, x1, x2, x3, x4, x5⟩ := sixE K7.out.2.2.1
  obtain ⟨⟨t0, t1⟩, f0, f1⟩ := twoE K7.out.2.1
  go_wp2_with fail
  refine AT.out.mono ?_
  rintro e w8 ⟨rfl, hb⟩
  have K8 := Lib.hid (K7.out.below hb)
  have Q8 := Lib.hid (show RowsQ G w8 va T from Q7.out.kept (keptNew hb) (fun _ _ h => h) (fun _ _ _ h => h))
  clear hb t0 t1 f0 f1 x0 x1 x2 x3 x4 x5 K7 Q7 AT
  have TAB := Lib.hid (p := ∀ W, Below w8.heap.size w8 W → W.cell? ⟨w.heap.size, 0, none⟩ = some (.int .i64 most) ∧ W.cell? ⟨w.heap.size, 1, none⟩ = some (.slice va T.length vc) ∧ W.cell? ⟨w.heap.size + 1, 0, none⟩ = some (.string x.key) ∧ W.cell? ⟨w.heap.size + 1, 1, none⟩ = some (.int .i64 x.t) ∧ W.cell? ⟨w.heap.size + 1, 2, none⟩ = some (.int .i64 x.i) ∧ W.cell? ⟨w.heap.size + 1, 3, none⟩ = some (.int .i64 x.q) ∧ W.cell? ⟨w.heap.size + 1, 4, none⟩ = some (.string x.o) ∧ W.cell? ⟨w.heap.size + 1, 5, none⟩ = some (.slice y x.len cy)) (fun W hb => by
    have k := K8.out.below hb
    obtain ⟨⟨t0, t1⟩, -⟩ := twoE k.2.1
    obtain ⟨x0, x1, x2, x3, x4, x5⟩ := sixE k.2.2.1
    exact ⟨t0, t1, x0, x1, x2, x3, x4, x5⟩)
  have CC8 := Lib.hid (TAB.out w8 (Below.refl _ _))
  obtain ⟨t0, t1, x0, x1, x2, x3, x4, x5⟩ := CC8.out
  have hTn : T.length ≤ 901 := C7.out.2.2
  have hPn : P ≤ 901 := by have := PL.out; omega
  have hP1 : (P : Int) ≤ (T.length : Int) := by have := PL.out; omega
  have hP2 : (P : Int) ≤ (vc : Int) := by have := PL.out; have := C7.out.2.1; omega
  have FIN := Lib.hid (p := ∀ (F : World) (va3 : Option Addr) (vc3 : Nat), Below w.heap.size w8 F → F.ownsRow w8.heap.size 44 6 (.slice va3 (T.length + 1) vc3) (T.length + 1) ((T.take P).flatMap sixD ++ sixD (x, y, cy) ++ (T.drop P).flatMap sixD) → ∃ T' : List RTd, T'.length = T.length + 1 ∧ OwnQ G F w.heap.size (.slice va3 T'.length vc3) T' ∧ T'.map (·.1) = insQ R x) (fun F va3 vc3 hB hO => by
    have hl : (T.take P ++ (x, y, cy) :: T.drop P).length = T.length + 1 := by rw [List.length_append, List.length_cons, List.length_take, List.length_drop]; have := PL.out; omega
    have hf : (T.take P ++ (x, y, cy) :: T.drop P).flatMap sixD = (T.take P).flatMap sixD ++ sixD (x, y, cy) ++ (T.drop P).flatMap sixD := by rw [List.flatMap_append, List.flatMap_cons, List.append_assoc]
    have hzw : w.heap.size ≤ w8.heap.size := K8.out.1.size
    have hk : Kept (fun k => w.heap.size ≤ k) w8 F := ⟨hB.os, hB.tape, hB.output, hB.size, fun k hk hn => hB.block k (by omega)⟩
    refine ⟨T.take P ++ (x, y, cy) :: T.drop P, hl, ⟨by rw [hl, hf]; exact owns_mono hO hzw, fun t ht => ?_⟩, ?_⟩
    · have hT : t ∈ T ∨ t = (x, y, cy) := by
        rcases List.mem_append.1 ht with h | h
        · exact .inl (List.mem_of_mem_take h)
        · rcases List.mem_cons.1 h with h | h
          · exact .inr h
          · exact .inl (List.mem_of_mem_drop h)
      rcases hT with h | rfl
      · exact (Q8.out.2 t h).kept hk (fun q hq h => by have := HG.out q hq; omega)
      · exact HY.out.kept (keptBelow (K8.out.1.trans hB)) (fun q hq h => by have := HG.out q hq; omega)
    · rw [EP.out, ← E7.out, List.map_append, List.map_cons, List.map_take, List.map_drop])
  rcases Q8.out.1 with ⟨hva, hT⟩ | ⟨b, off, rfl, hcells⟩
  · subst hva
    subst hT
    obtain rfl : P = 0 := by have := PL.out; simpa using this
    have hvc := C7.out.1 rfl
    subst hvc
    simp only [List.length_nil] at t1 CC8 TAB K8 Q8
    have F1 := Lib.hid (p := ∀ W, Below w8.heap.size w8 W → FromM W (.slice none 0 0) 0 6 []) (fun W hb => .inl ⟨rfl, rfl, rfl⟩)
    have F2 := F1
    go_upto_region 15 with fail
    go_cut [12] (fun v12 wc => ∃ (U : Nat) (va5 : Option Addr) (vc5 : Nat), v12 = .pointer (some ⟨U, 0, none⟩) ∧ Hid (w8.heap.size ≤ U ∧ wc.heap[U]? = some (.cells #[.int .i64 most, .slice va5 (0 + 1) vc5] 30 (0, 0))) ∧ Hid (wc.ownsRow w8.heap.size 44 6 (.slice va5 (0 + 1) vc5) (0 + 1) ([] ++ sixD (x, y, cy))) ∧ Hid (Below w8.heap.size w8 wc))
    case first =>
      go_region_held3 (fun w' => w'.cell? ⟨w.heap.size, 0, none⟩ = some (.int .i64 most) ∧ w'.cell? ⟨w.heap.size, 1, none⟩ = some (.slice none 0 0) ∧ w'.cell? ⟨w.heap.size + 1, 0, none⟩ = some (.string x.key) ∧ w'.cell? ⟨w.heap.size + 1, 1, none⟩ = some (.int .i64 x.t) ∧ w'.cell? ⟨w.heap.size + 1, 2, none⟩ = some (.int .i64 x.i) ∧ w'.cell? ⟨w.heap.size + 1, 3, none⟩ = some (.int .i64 x.q) ∧ w'.cell? ⟨w.heap.size + 1, 4, none⟩ = some (.string x.o) ∧ w'.cell? ⟨w.heap.size + 1, 5, none⟩ = some (.slice y x.len cy)) (first | assumption | exact CC8.out | exact CC3.out | exact CC5.out | (refine TAB.out _ ?_; (repeat (first | exact B5.out | exact B3.out | exact Below.refl _ _ | refine Below.drewQ ?_ | (refine Below.setCell ?_ ?_ _; rotate_left 1; (focus (dsimp only; first | omega | (have := B3.out.size; omega)))) | (refine Below.alloc ?_ ?_ _; rotate_left 1; (focus ((try simp only [World.size_alloc, drew_heap]); first | exact Nat.le_refl _ | omega | (have := B5.out.size; omega) | (have := B3.out.size; omega)))))); done)) (first
        | (refine step_chainM (w0 := w8) rfl (.tmp 72) (.tmp 76) 28 rfl und hi hz0 hz1 hz2 rfl (by decide) (.slice (some ⟨w8.heap.size, 0, none⟩) 0 0) (.slice none 0 0) 0 0 [] [] rfl rfl ?_ ?_ ?_ (sixD_ones []) (by unfold maxLen; omega) (by omega) ?_
           focus (repeat (first | exact B5.out | exact B3.out | exact Below.refl _ _ | refine Below.drewQ ?_ | (refine Below.setCell ?_ ?_ _; rotate_left 1; (focus (dsimp only; first | omega | (have := B3.out.size; omega)))) | (refine Below.alloc ?_ ?_ _; rotate_left 1; (focus ((try simp only [World.size_alloc, drew_heap]); first | exact Nat.le_refl _ | omega | (have := B5.out.size; omega) | (have := B3.out.size; omega))))))
           focus (refine own_emptyM ?_ (by omega); ((try simp only [alloc_get, drew_heap, World.size_alloc]); repeat (first | rw [if_pos trivial] | rw [if_pos rfl] | rw [if_pos (by omega)] | rw [if_neg (by omega)])))
           focus (refine F1.out _ ?_; (repeat (first | exact B5.out | exact B3.out | exact Below.refl _ _ | refine Below.drewQ ?_ | (refine Below.setCell ?_ ?_ _; rotate_left 1; (focus (dsimp only; first | omega | (have := B3.out.size; omega)))) | (refine Below.alloc ?_ ?_ _; rotate_left 1; (focus ((try simp only [World.size_alloc, drew_heap]); first | exact Nat.le_refl _ | omega | (have := B5.out.size; omega) | (have := B3.out.size; omega)))))))
           intro v3 w3 hb ho hg
           have O3 := Lib.hid ho
           have B3 := Lib.hid hb
           have G3 := Lib.hid hg
           have CC3 := Lib.hid (TAB.out w3 hb)
           first
             | (have T3 : Hid (w3.heap[w8.heap.size]? = some (.cells #[.int .i64 0, .slice none 0 0] 30 (0, 0))) := Lib.hid (new3 G3.out (by omega) (heap_alloc_new w8 _)))
             | (have T3 : Hid (w3.heap[w8.heap.size]? = some (.cells #[.int .i64 0, .slice none 0 0] 30 (0, 0))) := Lib.hid (new3 G3.out (by omega) (alloc2_old w8 _ _)))
             | (have T3 : Hid (w3.heap[w8.heap.size]? = some (.cells #[.int .i64 0, .slice none 0 0] 30 (0, 0))) := Lib.hid (new3 G3.out (by omega) (alloc3_0 w8 _ _ _)))
             | (have T3 : Hid (w3.heap[w8.heap.size + 1]? = some (.cells #[.int .i64 0, .slice none 0 0] 30 (0, 0))) := Lib.hid (new3 G3.out (by omega) (alloc2_new w8 _ _)))
             | (have T3 : Hid (w3.heap[w8.heap.size + 1]? = some (.cells #[.int .i64 0, .slice none 0 0] 30 (0, 0))) := Lib.hid (new3 G3.out (by omega) (alloc3_1 w8 _ _ _)))
             | (have T3 : Hid (w3.heap[w8.heap.size + 2]? = some (.cells #[.int .i64 0, .slice none 0 0] 30 (0, 0))) := Lib.hid (new3 G3.out (by omega) (alloc3_2 w8 _ _ _)))
             | skip
           first
             | (have N3 : Hid (w3.heap[w8.heap.size]? = some (.cells #[.string x.key, .int .i64 x.t, .int .i64 x.i, .int .i64 x.q, .string x.o, .slice y x.len cy] 44 (0, 0))) := Lib.hid (new3 G3.out (by omega) (heap_alloc_new w8 _)))
             | (have N3 : Hid (w3.heap[w8.heap.size]? = some (.cells #[.string x.key, .int .i64 x.t, .int .i64 x.i, .int .i64 x.q, .string x.o, .slice y x.len cy] 44 (0, 0))) := Lib.hid (new3 G3.out (by omega) (alloc2_old w8 _ _)))
             | (have N3 : Hid (w3.heap[w8.heap.size]? = some (.cells #[.string x.key, .int .i64 x.t, .int .i64 x.i, .int .i64 x.q, .string x.o, .slice y x.len cy] 44 (0, 0))) := Lib.hid (new3 G3.out (by omega) (alloc3_0 w8 _ _ _)))
             | (have N3 : Hid (w3.heap[w8.heap.size + 1]? = some (.cells #[.string x.key, .int .i64 x.t, .int .i64 x.i, .int .i64 x.q, .string x.o, .slice y x.len cy] 44 (0, 0))) := Lib.hid (new3 G3.out (by omega) (alloc2_new w8 _ _)))
             | (have N3 : Hid (w3.heap[w8.heap.size + 1]? = some (.cells #[.string x.key, .int .i64 x.t, .int .i64 x.i, .int .i64 x.q, .string x.o, .slice y x.len cy] 44 (0, 0))) := Lib.hid (new3 G3.out (by omega) (alloc3_1 w8 _ _ _)))
             | (have N3 : Hid (w3.heap[w8.heap.size + 2]? = some (.cells #[.string x.key, .int .i64 x.t, .int .i64 x.i, .int .i64 x.q, .string x.o, .slice y x.len cy] 44 (0, 0))) := Lib.hid (new3 G3.out (by omega) (alloc3_2 w8 _ _ _)))
             | skip
           clear hb ho hg)
        | (refine step_chainM (w0 := w8) rfl (.tmp 72) (.tmp 76) 28 rfl und hi hz0 hz1 hz2 rfl (by decide) (.slice (some ⟨w8.heap.size + 1, 0, none⟩) 0 0) (.slice none 0 0) 0 0 [] [] rfl rfl ?_ ?_ ?_ (sixD_ones []) (by unfold maxLen; omega) (by omega) ?_
           focus (repeat (first | exact B5.out | exact B3.out | exact Below.refl _ _ | refine Below.drewQ ?_ | (refine Below.setCell ?_ ?_ _; rotate_left 1; (focus (dsimp only; first | omega | (have := B3.out.size; omega)))) | (refine Below.alloc ?_ ?_ _; rotate_left 1; (focus ((try simp only [World.size_alloc, drew_heap]); first | exact Nat.le_refl _ | omega | (have := B5.out.size; omega) | (have := B3.out.size; omega))))))
           focus (refine own_emptyM ?_ (by omega); ((try simp only [alloc_get, drew_heap, World.size_alloc]); repeat (first | rw [if_pos trivial] | rw [if_pos rfl] | rw [if_pos (by omega)] | rw [if_neg (by omega)])))
           focus (refine F1.out _ ?_; (repeat (first | exact B5.out | exact B3.out | exact Below.refl _ _ | refine Below.drewQ ?_ | (refine Below.setCell ?_ ?_ _; rotate_left 1; (focus (dsimp only; first | omega | (have := B3.out.size; omega)))) | (refine Below.alloc ?_ ?_ _; rotate_left 1; (focus ((try simp only [World.size_alloc, drew_heap]); first | exact Nat.le_refl _ | omega | (have := B5.out.size; omega) | (have := B3.out.size; omega)))))))
           intro v3 w3 hb ho hg
           have O3 := Lib.hid ho
           have B3 := Lib.hid hb
           have G3 := Lib.hid hg
           have CC3 := Lib.hid (TAB.out w3 hb)
           first
             | (have T3 : Hid (w3.heap[w8.heap.size]? = some (.cells #[.int .i64 0, .slice none 0 0] 30 (0, 0))) := Lib.hid (new3 G3.out (by omega) (heap_alloc_new w8 _)))
             | (have T3 : Hid (w3.heap[w8.heap.size]? = some (.cells #[.int .i64 0, .slice none 0 0] 30 (0, 0))) := Lib.hid (new3 G3.out (by omega) (alloc2_old w8 _ _)))
             | (have T3 : Hid (w3.heap[w8.heap.size]? = some (.cells #[.int .i64 0, .slice none 0 0] 30 (0, 0))) := Lib.hid (new3 G3.out (by omega) (alloc3_0 w8 _ _ _)))
             | (have T3 : Hid (w3.heap[w8.heap.size + 1]? = some (.cells #[.int .i64 0, .slice none 0 0] 30 (0, 0))) := Lib.hid (new3 G3.out (by omega) (alloc2_new w8 _ _)))
             | (have T3 : Hid (w3.heap[w8.heap.size + 1]? = some (.cells #[.int .i64 0, .slice none 0 0] 30 (0, 0))) := Lib.hid (new3 G3.out (by omega) (alloc3_1 w8 _ _ _)))
             | (have T3 : Hid (w3.heap[w8.heap.size + 2]? = some (.cells #[.int .i64 0, .slice none 0 0] 30 (0, 0))) := Lib.hid (new3 G3.out (by omega) (alloc3_2 w8 _ _ _)))
             | skip
           first
             | (have N3 : Hid (w3.heap[w8.heap.size]? = some (.cells #[.string x.key, .int .i64 x.t, .int .i64 x.i, .int .i64 x.q, .string x.o, .slice y x.len cy] 44 (0, 0))) := Lib.hid (new3 G3.out (by omega) (heap_alloc_new w8 _)))
             | (have N3 : Hid (w3.heap[w8.heap.size]? = some (.cells #[.string x.key, .int .i64 x.t, .int .i64 x.i, .int .i64 x.q, .string x.o, .slice y x.len cy] 44 (0, 0))) := Lib.hid (new3 G3.out (by omega) (alloc2_old w8 _ _)))
             | (have N3 : Hid (w3.heap[w8.heap.size]? = some (.cells #[.string x.key, .int .i64 x.t, .int .i64 x.i, .int .i64 x.q, .string x.o, .slice y x.len cy] 44 (0, 0))) := Lib.hid (new3 G3.out (by omega) (alloc3_0 w8 _ _ _)))
             | (have N3 : Hid (w3.heap[w8.heap.size + 1]? = some (.cells #[.string x.key, .int .i64 x.t, .int .i64 x.i, .int .i64 x.q, .string x.o, .slice y x.len cy] 44 (0, 0))) := Lib.hid (new3 G3.out (by omega) (alloc2_new w8 _ _)))
             | (have N3 : Hid (w3.heap[w8.heap.size + 1]? = some (.cells #[.string x.key, .int .i64 x.t, .int .i64 x.i, .int .i64 x.q, .string x.o, .slice y x.len cy] 44 (0, 0))) := Lib.hid (new3 G3.out (by omega) (alloc3_1 w8 _ _ _)))
             | (have N3 : Hid (w3.heap[w8.heap.size + 2]? = some (.cells #[.string x.key, .int .i64 x.t, .int .i64 x.i, .int .i64 x.q, .string x.o, .slice y x.len cy] 44 (0, 0))) := Lib.hid (new3 G3.out (by omega) (alloc3_2 w8 _ _ _)))
             | skip
           clear hb ho hg)
        | (refine step_chainM (w0 := w8) rfl (.tmp 72) (.tmp 76) 28 rfl und hi hz0 hz1 hz2 rfl (by decide) (.slice (some ⟨w8.heap.size + 2, 0, none⟩) 0 0) (.slice none 0 0) 0 0 [] [] rfl rfl ?_ ?_ ?_ (sixD_ones []) (by unfold maxLen; omega) (by omega) ?_
           focus (repeat (first | exact B5.out | exact B3.out | exact Below.refl _ _ | refine Below.drewQ ?_ | (refine Below.setCell ?_ ?_ _; rotate_left 1; (focus (dsimp only; first | omega | (have := B3.out.size; omega)))) | (refine Below.alloc ?_ ?_ _; rotate_left 1; (focus ((try simp only [World.size_alloc, drew_heap]); first | exact Nat.le_refl _ | omega | (have := B5.out.size; omega) | (have := B3.out.size; omega))))))
           focus (refine own_emptyM ?_ (by omega); ((try simp only [alloc_get, drew_heap, World.size_alloc]); repeat (first | rw [if_pos trivial] | rw [if_pos rfl] | rw [if_pos (by omega)] | rw [if_neg (by omega)])))
           focus (refine F1.out _ ?_; (repeat (first | exact B5.out | exact B3.out | exact Below.refl _ _ | refine Below.drewQ ?_ | (refine Below.setCell ?_ ?_ _; rotate_left 1; (focus (dsimp only; first | omega | (have := B3.out.size; omega)))) | (refine Below.alloc ?_ ?_ _; rotate_left 1; (focus ((try simp only [World.size_alloc, drew_heap]); first | exact Nat.le_refl _ | omega | (have := B5.out.size; omega) | (have := B3.out.size; omega)))))))
           intro v3 w3 hb ho hg
           have O3 := Lib.hid ho
           have B3 := Lib.hid hb
           have G3 := Lib.hid hg
           have CC3 := Lib.hid (TAB.out w3 hb)
           first
             | (have T3 : Hid (w3.heap[w8.heap.size]? = some (.cells #[.int .i64 0, .slice none 0 0] 30 (0, 0))) := Lib.hid (new3 G3.out (by omega) (heap_alloc_new w8 _)))
             | (have T3 : Hid (w3.heap[w8.heap.size]? = some (.cells #[.int .i64 0, .slice none 0 0] 30 (0, 0))) := Lib.hid (new3 G3.out (by omega) (alloc2_old w8 _ _)))
             | (have T3 : Hid (w3.heap[w8.heap.size]? = some (.cells #[.int .i64 0, .slice none 0 0] 30 (0, 0))) := Lib.hid (new3 G3.out (by omega) (alloc3_0 w8 _ _ _)))
             | (have T3 : Hid (w3.heap[w8.heap.size + 1]? = some (.cells #[.int .i64 0, .slice none 0 0] 30 (0, 0))) := Lib.hid (new3 G3.out (by omega) (alloc2_new w8 _ _)))
             | (have T3 : Hid (w3.heap[w8.heap.size + 1]? = some (.cells #[.int .i64 0, .slice none 0 0] 30 (0, 0))) := Lib.hid (new3 G3.out (by omega) (alloc3_1 w8 _ _ _)))
             | (have T3 : Hid (w3.heap[w8.heap.size + 2]? = some (.cells #[.int .i64 0, .slice none 0 0] 30 (0, 0))) := Lib.hid (new3 G3.out (by omega) (alloc3_2 w8 _ _ _)))
             | skip
           first
             | (have N3 : Hid (w3.heap[w8.heap.size]? = some (.cells #[.string x.key, .int .i64 x.t, .int .i64 x.i, .int .i64 x.q, .string x.o, .slice y x.len cy] 44 (0, 0))) := Lib.hid (new3 G3.out (by omega) (heap_alloc_new w8 _)))
             | (have N3 : Hid (w3.heap[w8.heap.size]? = some (.cells #[.string x.key, .int .i64 x.t, .int .i64 x.i, .int .i64 x.q, .string x.o, .slice y x.len cy] 44 (0, 0))) := Lib.hid (new3 G3.out (by omega) (alloc2_old w8 _ _)))
             | (have N3 : Hid (w3.heap[w8.heap.size]? = some (.cells #[.string x.key, .int .i64 x.t, .int .i64 x.i, .int .i64 x.q, .string x.o, .slice y x.len cy] 44 (0, 0))) := Lib.hid (new3 G3.out (by omega) (alloc3_0 w8 _ _ _)))
             | (have N3 : Hid (w3.heap[w8.heap.size + 1]? = some (.cells #[.string x.key, .int .i64 x.t, .int .i64 x.i, .int .i64 x.q, .string x.o, .slice y x.len cy] 44 (0, 0))) := Lib.hid (new3 G3.out (by omega) (alloc2_new w8 _ _)))
             | (have N3 : Hid (w3.heap[w8.heap.size + 1]? = some (.cells #[.string x.key, .int .i64 x.t, .int .i64 x.i, .int .i64 x.q, .string x.o, .slice y x.len cy] 44 (0, 0))) := Lib.hid (new3 G3.out (by omega) (alloc3_1 w8 _ _ _)))
             | (have N3 : Hid (w3.heap[w8.heap.size + 2]? = some (.cells #[.string x.key, .int .i64 x.t, .int .i64 x.i, .int .i64 x.q, .string x.o, .slice y x.len cy] 44 (0, 0))) := Lib.hid (new3 G3.out (by omega) (alloc3_2 w8 _ _ _)))
             | skip
           clear hb ho hg)
        | (refine step_chainM (w0 := w8) rfl (.tmp 77) (.tmp 79) 28 rfl und hi hz0 hz1 hz2 rfl (by decide) v3 (.slice (some ⟨w8.heap.size, 0, none⟩) 1 1) (0 + 0) 1 ([] ++ []) (sixD (x, y, cy)) rfl rfl ?_ ?_ ?_ (sixD_one (x, y, cy)) (by unfold maxLen; omega) (by omega) ?_
           focus (repeat (first | exact B5.out | exact B3.out | exact Below.refl _ _ | refine Below.drewQ ?_ | (refine Below.setCell ?_ ?_ _; rotate_left 1; (focus (dsimp only; first | omega | (have := B3.out.size; omega)))) | (refine Below.alloc ?_ ?_ _; rotate_left 1; (focus ((try simp only [World.size_alloc, drew_heap]); first | exact Nat.le_refl _ | omega | (have := B5.out.size; omega) | (have := B3.out.size; omega))))))
           focus (repeat (first | exact O3.out | refine World.ownsRow.drew ?_ | refine World.ownsRow.alloc ?_ _))
           focus (refine fromSix ?_; first | exact N3.out | exact (Below.heap_alloc _ _ _ (lt_of_block N3.out)).trans N3.out)
           intro v5 w5 hb ho hg
           obtain ⟨va5, vc5, rfl⟩ := own_rowG ho
           have O5 := Lib.hid ho
           have B5 := Lib.hid hb
           have G5 := Lib.hid hg
           have CC5 := Lib.hid (TAB.out w5 hb)
           first
             | (have h3 := T3.out
                have T5 := Lib.hid (keep5 O3.out G5.out (by (try simp only [World.size_alloc, drew_heap]); omega) h3 (by decide) (by first | rfl | exact Below.heap_alloc _ _ _ (lt_of_block h3)))
                clear h3
                obtain ⟨⟨c0, c1⟩, g0, g1⟩ := twoE T5.out)
             | (have T5 : Hid (w5.heap[w3.heap.size]? = some (.cells #[.int .i64 0, .slice none 0 0] 30 (0, 0))) := Lib.hid (new5 O3.out G5.out (Nat.le_refl _) (heap_alloc_new w3 _))
                obtain ⟨⟨c0, c1⟩, g0, g1⟩ := twoE T5.out)
             | (have T5 : Hid (w5.heap[w3.heap.size]? = some (.cells #[.int .i64 0, .slice none 0 0] 30 (0, 0))) := Lib.hid (new5 O3.out G5.out (Nat.le_refl _) (alloc2_old w3 _ _))
                obtain ⟨⟨c0, c1⟩, g0, g1⟩ := twoE T5.out)
             | (have T5 : Hid (w5.heap[w3.heap.size + 1]? = some (.cells #[.int .i64 0, .slice none 0 0] 30 (0, 0))) := Lib.hid (new5 O3.out G5.out (Nat.le_succ _) (alloc2_new w3 _ _))
                obtain ⟨⟨c0, c1⟩, g0, g1⟩ := twoE T5.out)
             | skip
           clear hb ho hg)
        | (refine step_chainM (w0 := w8) rfl (.tmp 77) (.tmp 79) 28 rfl und hi hz0 hz1 hz2 rfl (by decide) v3 (.slice (some ⟨w8.heap.size + 1, 0, none⟩) 1 1) (0 + 0) 1 ([] ++ []) (sixD (x, y, cy)) rfl rfl ?_ ?_ ?_ (sixD_one (x, y, cy)) (by unfold maxLen; omega) (by omega) ?_
           focus (repeat (first | exact B5.out | exact B3.out | exact Below.refl _ _ | refine Below.drewQ ?_ | (refine Below.setCell ?_ ?_ _; rotate_left 1; (focus (dsimp only; first | omega | (have := B3.out.size; omega)))) | (refine Below.alloc ?_ ?_ _; rotate_left 1; (focus ((try simp only [World.size_alloc, drew_heap]); first | exact Nat.le_refl _ | omega | (have := B5.out.size; omega) | (have := B3.out.size; omega))))))
           focus (repeat (first | exact O3.out | refine World.ownsRow.drew ?_ | refine World.ownsRow.alloc ?_ _))
           focus (refine fromSix ?_; first | exact N3.out | exact (Below.heap_alloc _ _ _ (lt_of_block N3.out)).trans N3.out)
           intro v5 w5 hb ho hg
           obtain ⟨va5, vc5, rfl⟩ := own_rowG ho
           have O5 := Lib.hid ho
           have B5 := Lib.hid hb
           have G5 := Lib.hid hg
           have CC5 := Lib.hid (TAB.out w5 hb)
           first
             | (have h3 := T3.out
                have T5 := Lib.hid (keep5 O3.out G5.out (by (try simp only [World.size_alloc, drew_heap]); omega) h3 (by decide) (by first | rfl | exact Below.heap_alloc _ _ _ (lt_of_block h3)))
                clear h3
                obtain ⟨⟨c0, c1⟩, g0, g1⟩ := twoE T5.out)
             | (have T5 : Hid (w5.heap[w3.heap.size]? = some (.cells #[.int .i64 0, .slice none 0 0] 30 (0, 0))) := Lib.hid (new5 O3.out G5.out (Nat.le_refl _) (heap_alloc_new w3 _))
                obtain ⟨⟨c0, c1⟩, g0, g1⟩ := twoE T5.out)
             | (have T5 : Hid (w5.heap[w3.heap.size]? = some (.cells #[.int .i64 0, .slice none 0 0] 30 (0, 0))) := Lib.hid (new5 O3.out G5.out (Nat.le_refl _) (alloc2_old w3 _ _))
                obtain ⟨⟨c0, c1⟩, g0, g1⟩ := twoE T5.out)
             | (have T5 : Hid (w5.heap[w3.heap.size + 1]? = some (.cells #[.int .i64 0, .slice none 0 0] 30 (0, 0))) := Lib.hid (new5 O3.out G5.out (Nat.le_succ _) (alloc2_new w3 _ _))
                obtain ⟨⟨c0, c1⟩, g0, g1⟩ := twoE T5.out)
             | skip
           clear hb ho hg)
        | (refine step_chainM (w0 := w8) rfl (.tmp 77) (.tmp 79) 28 rfl und hi hz0 hz1 hz2 rfl (by decide) v3 (.slice (some ⟨w8.heap.size + 2, 0, none⟩) 1 1) (0 + 0) 1 ([] ++ []) (sixD (x, y, cy)) rfl rfl ?_ ?_ ?_ (sixD_one (x, y, cy)) (by unfold maxLen; omega) (by omega) ?_
           focus (repeat (first | exact B5.out | exact B3.out | exact Below.refl _ _ | refine Below.drewQ ?_ | (refine Below.setCell ?_ ?_ _; rotate_left 1; (focus (dsimp only; first | omega | (have := B3.out.size; omega)))) | (refine Below.alloc ?_ ?_ _; rotate_left 1; (focus ((try simp only [World.size_alloc, drew_heap]); first | exact Nat.le_refl _ | omega | (have := B5.out.size; omega) | (have := B3.out.size; omega))))))
           focus (repeat (first | exact O3.out | refine World.ownsRow.drew ?_ | refine World.ownsRow.alloc ?_ _))
           focus (refine fromSix ?_; first | exact N3.out | exact (Below.heap_alloc _ _ _ (lt_of_block N3.out)).trans N3.out)
           intro v5 w5 hb ho hg
           obtain ⟨va5, vc5, rfl⟩ := own_rowG ho
           have O5 := Lib.hid ho
           have B5 := Lib.hid hb
           have G5 := Lib.hid hg
           have CC5 := Lib.hid (TAB.out w5 hb)
           first
             | (have h3 := T3.out
                have T5 := Lib.hid (keep5 O3.out G5.out (by (try simp only [World.size_alloc, drew_heap]); omega) h3 (by decide) (by first | rfl | exact Below.heap_alloc _ _ _ (lt_of_block h3)))
                clear h3
                obtain ⟨⟨c0, c1⟩, g0, g1⟩ := twoE T5.out)
             | (have T5 : Hid (w5.heap[w3.heap.size]? = some (.cells #[.int .i64 0, .slice none 0 0] 30 (0, 0))) := Lib.hid (new5 O3.out G5.out (Nat.le_refl _) (heap_alloc_new w3 _))
                obtain ⟨⟨c0, c1⟩, g0, g1⟩ := twoE T5.out)
             | (have T5 : Hid (w5.heap[w3.heap.size]? = some (.cells #[.int .i64 0, .slice none 0 0] 30 (0, 0))) := Lib.hid (new5 O3.out G5.out (Nat.le_refl _) (alloc2_old w3 _ _))
                obtain ⟨⟨c0, c1⟩, g0, g1⟩ := twoE T5.out)
             | (have T5 : Hid (w5.heap[w3.heap.size + 1]? = some (.cells #[.int .i64 0, .slice none 0 0] 30 (0, 0))) := Lib.hid (new5 O3.out G5.out (Nat.le_succ _) (alloc2_new w3 _ _))
                obtain ⟨⟨c0, c1⟩, g0, g1⟩ := twoE T5.out)
             | skip
           clear hb ho hg)
        | (refine step_chainM (w0 := w8) rfl (.tmp 77) (.tmp 79) 28 rfl und hi hz0 hz1 hz2 rfl (by decide) v3 (.slice (some ⟨w3.heap.size, 0, none⟩) 1 1) (0 + 0) 1 ([] ++ []) (sixD (x, y, cy)) rfl rfl ?_ ?_ ?_ (sixD_one (x, y, cy)) (by unfold maxLen; omega) (by omega) ?_
           focus (repeat (first | exact B5.out | exact B3.out | exact Below.refl _ _ | refine Below.drewQ ?_ | (refine Below.setCell ?_ ?_ _; rotate_left 1; (focus (dsimp only; first | omega | (have := B3.out.size; omega)))) | (refine Below.alloc ?_ ?_ _; rotate_left 1; (focus ((try simp only [World.size_alloc, drew_heap]); first | exact Nat.le_refl _ | omega | (have := B5.out.size; omega) | (have := B3.out.size; omega))))))
           focus (repeat (first | exact O3.out | refine World.ownsRow.drew ?_ | refine World.ownsRow.alloc ?_ _))
           focus (refine fromSix ?_; ((try simp only [alloc_get, drew_heap, World.size_alloc]); repeat (first | rw [if_pos trivial] | rw [if_pos rfl] | rw [if_pos (by omega)] | rw [if_neg (by omega)])))
           intro v5 w5 hb ho hg
           obtain ⟨va5, vc5, rfl⟩ := own_rowG ho
           have O5 := Lib.hid ho
           have B5 := Lib.hid hb
           have G5 := Lib.hid hg
           have CC5 := Lib.hid (TAB.out w5 hb)
           first
             | (have h3 := T3.out
                have T5 := Lib.hid (keep5 O3.out G5.out (by (try simp only [World.size_alloc, drew_heap]); omega) h3 (by decide) (by first | rfl | exact Below.heap_alloc _ _ _ (lt_of_block h3)))
                clear h3
                obtain ⟨⟨c0, c1⟩, g0, g1⟩ := twoE T5.out)
             | (have T5 : Hid (w5.heap[w3.heap.size]? = some (.cells #[.int .i64 0, .slice none 0 0] 30 (0, 0))) := Lib.hid (new5 O3.out G5.out (Nat.le_refl _) (heap_alloc_new w3 _))
                obtain ⟨⟨c0, c1⟩, g0, g1⟩ := twoE T5.out)
             | (have T5 : Hid (w5.heap[w3.heap.size]? = some (.cells #[.int .i64 0, .slice none 0 0] 30 (0, 0))) := Lib.hid (new5 O3.out G5.out (Nat.le_refl _) (alloc2_old w3 _ _))
                obtain ⟨⟨c0, c1⟩, g0, g1⟩ := twoE T5.out)
             | (have T5 : Hid (w5.heap[w3.heap.size + 1]? = some (.cells #[.int .i64 0, .slice none 0 0] 30 (0, 0))) := Lib.hid (new5 O3.out G5.out (Nat.le_succ _) (alloc2_new w3 _ _))
                obtain ⟨⟨c0, c1⟩, g0, g1⟩ := twoE T5.out)
             | skip
           clear hb ho hg)
        | (refine step_chainM (w0 := w8) rfl (.tmp 77) (.tmp 79) 28 rfl und hi hz0 hz1 hz2 rfl (by decide) v3 (.slice (some ⟨w3.heap.size + 1, 0, none⟩) 1 1) (0 + 0) 1 ([] ++ []) (sixD (x, y, cy)) rfl rfl ?_ ?_ ?_ (sixD_one (x, y, cy)) (by unfold maxLen; omega) (by omega) ?_
           focus (repeat (first | exact B5.out | exact B3.out | exact Below.refl _ _ | refine Below.drewQ ?_ | (refine Below.setCell ?_ ?_ _; rotate_left 1; (focus (dsimp only; first | omega | (have := B3.out.size; omega)))) | (refine Below.alloc ?_ ?_ _; rotate_left 1; (focus ((try simp only [World.size_alloc, drew_heap]); first | exact Nat.le_refl _ | omega | (have := B5.out.size; omega) | (have := B3.out.size; omega))))))
           focus (repeat (first | exact O3.out | refine World.ownsRow.drew ?_ | refine World.ownsRow.alloc ?_ _))
           focus (refine fromSix ?_; ((try simp only [alloc_get, drew_heap, World.size_alloc]); repeat (first | rw [if_pos trivial] | rw [if_pos rfl] | rw [if_pos (by omega)] | rw [if_neg (by omega)])))
           intro v5 w5 hb ho hg
           obtain ⟨va5, vc5, rfl⟩ := own_rowG ho
           have O5 := Lib.hid ho
           have B5 := Lib.hid hb
           have G5 := Lib.hid hg
           have CC5 := Lib.hid (TAB.out w5 hb)
           first
             | (have h3 := T3.out
                have T5 := Lib.hid (keep5 O3.out G5.out (by (try simp only [World.size_alloc, drew_heap]); omega) h3 (by decide) (by first | rfl | exact Below.heap_alloc _ _ _ (lt_of_block h3)))
                clear h3
                obtain ⟨⟨c0, c1⟩, g0, g1⟩ := twoE T5.out)
             | (have T5 : Hid (w5.heap[w3.heap.size]? = some (.cells #[.int .i64 0, .slice none 0 0] 30 (0, 0))) := Lib.hid (new5 O3.out G5.out (Nat.le_refl _) (heap_alloc_new w3 _))
                obtain ⟨⟨c0, c1⟩, g0, g1⟩ := twoE T5.out)
             | (have T5 : Hid (w5.heap[w3.heap.size]? = some (.cells #[.int .i64 0, .slice none 0 0] 30 (0, 0))) := Lib.hid (new5 O3.out G5.out (Nat.le_refl _) (alloc2_old w3 _ _))
                obtain ⟨⟨c0, c1⟩, g0, g1⟩ := twoE T5.out)
             | (have T5 : Hid (w5.heap[w3.heap.size + 1]? = some (.cells #[.int .i64 0, .slice none 0 0] 30 (0, 0))) := Lib.hid (new5 O3.out G5.out (Nat.le_succ _) (alloc2_new w3 _ _))
                obtain ⟨⟨c0, c1⟩, g0, g1⟩ := twoE T5.out)
             | skip
           clear hb ho hg)
        | fail)
      all_goals
        have O6 : w5.ownsRow w8.heap.size 44 6 (.slice va5 (0 + 1) vc5) (0 + 1) ([] ++ sixD (x, y, cy)) := by have := O5.out; rwa [Nat.zero_add, List.nil_append] at this
        have H6 := Lib.hid O6
        clear O6
        try rw [show 0 + 0 = 0 from Nat.zero_add 0]
      go_wp2_with fail
      all_goals
        go_meet
        case rel =>
          first
            | exact ⟨w5.heap.size, va5, vc5, rfl, Lib.hid ⟨B5.out.size, heap_alloc_new w5 _⟩, Lib.hid (H6.out.alloc _), Lib.hid (B5.out.alloc B5.out.size _)⟩
            | (have hz3 := B3.out.size
               refine ⟨_, va5, vc5, rfl, Lib.hid ⟨?_, two_setD T5.out _ _⟩, Lib.hid (own_set2 H6.out T5.out (by decide) _ _), Lib.hid ((B5.out.setCell ?_ _).setCell ?_ _)⟩ <;> ((try dsimp only); omega))
    case rest =>
    obtain ⟨U, va5, vc5, rfl, U9, O9, B9⟩ := hcut
    obtain ⟨⟨u0, u1⟩, g0, g1⟩ := twoE U9.out.2
    have CC9 := Lib.hid (TAB.out _ B9.out)
    obtain ⟨s0, s1, -⟩ := CC9.out
    have O9' := Lib.hid (O9.out.drew)
    have F9 := Lib.hid (F2.out wc.drew (B9.out.trans ((drewD wc).mono B9.out.size)))
    have hz9 : w8.heap.size ≤ wc.drew.heap.size := B9.out.size
    clear x0 x1 x2 x3 x4 x5 F1
    go_upto_region 16 with fail
    go_region_law
      (refine step_append_fromM (w := wc.drew) (base := w8.heap.size) (size := 6) (e := 44) rfl (.tmp 83) (.tmp 87) 28 rfl und hi hz0 hz1 hz2 rfl (by decide) (.slice va5 (0 + 1) vc5) (.slice none 0 0) (0 + 1) 0 ([] ++ sixD (x, y, cy)) [] rfl rfl O9'.out F9.out (sixD_ones []) (by unfold maxLen; omega) (by omega) hz9 ?_
       intro v3 w3 ho hg
       obtain ⟨va3, vc3, rfl⟩ := own_rowG ho
       have O3 := Lib.hid ho
       have B3 := Lib.hid (show Below w8.heap.size w8 w3 from (B9.out.trans ((drewD wc).mono B9.out.size)).grown hg hz9 (fun q hq => (O9'.out.lt q hq).1))
       have U3 := Lib.hid (show w3.heap[U]? = some (.cells #[.int .i64 most, .slice va5 (0 + 1) vc5] 30 (0, 0)) from (hg.block U (lt_of_block U9.out.2) (fun e => own_type O9'.out U9.out.2 (by decide) e.symm)).trans U9.out.2)
       obtain ⟨⟨u30, u31⟩, g30, g31⟩ := twoE U3.out
       clear ho hg)
    all_goals
      have NL : (0 + 1) + 0 = 1 := by omega
      rw [NL] at O3
      have hzw : w.heap.size ≤ w8.heap.size := K8.out.1.size
      have hr8 : w.heap.size + 2 < w8.heap.size := lt_of_block K8.out.2.2.2
      have U4 := Lib.hid (show (w3.setCell ⟨U, 1, none⟩ (.slice va3 (1) vc3)).heap[U]? = some (.cells #[.int .i64 most, .slice va3 (1) vc3] 30 (0, 0)) by rw [heap_setCell_same w3 U 1 _ _ (.slice va3 (1) vc3) U3.out]; rfl)
      have R4 := Lib.hid (show (w3.setCell ⟨U, 1, none⟩ (.slice va3 (1) vc3)).heap[w.heap.size + 2]? = some (.cells #[.int .i64 0, .slice none 0 0] 30 (0, 0)) from (Below.heap_setCell _ _ _ _ (by have := U9.out.1; show w.heap.size + 2 ≠ U; omega)).trans ((B3.out.block _ hr8).trans K8.out.2.2.2))
      have B4 := Lib.hid (show Below w8.heap.size w8 (w3.setCell ⟨U, 1, none⟩ (.slice va3 (1) vc3)) from B3.out.setCell (p := ⟨U, 1, none⟩) U9.out.1 _)
      have O4 := Lib.hid (show (w3.setCell ⟨U, 1, none⟩ (.slice va3 (1) vc3)).ownsRow w8.heap.size 44 6 (.slice va3 (1) vc3) (1) ([] ++ sixD (x, y, cy) ++ []) from O3.out.kept (⟨rfl, rfl, rfl, by simp, fun q _ hq => Below.heap_setCell _ _ _ _ (fun e => hq (by rw [e]))⟩ : w3.grownBy (w3.setCell ⟨U, 1, none⟩ (.slice va3 (1) vc3)) (some U)) (.inr (own_type O3.out U3.out (by decide))))
      clear u30 u31 g30 g31 u0 u1 g0 g1 s0 s1 O3 B3 U3
      generalize w3.setCell ⟨U, 1, none⟩ (.slice va3 (1) vc3) = w4 at *
      obtain ⟨⟨u0, u1⟩, g0, g1⟩ := twoE U4.out
      obtain ⟨⟨d0, d1⟩, f0, f1⟩ := twoE R4.out
      have E := Lib.hid (two_setD R4.out (.int .i64 most) (.slice va3 (1) vc3))
      have B5 := Lib.hid (((B4.out.mono hzw).setCell (p := ⟨w.heap.size + 2, 0, none⟩) (by show w.heap.size ≤ w.heap.size + 2; omega) (.int .i64 most)).setCell (p := ⟨w.heap.size + 2, 1, none⟩) (by show w.heap.size ≤ w.heap.size + 2; omega) (.slice va3 (1) vc3))
      have O5 := Lib.hid (own_set2 O4.out R4.out (by decide) (.int .i64 most) (.slice va3 (1) vc3))
      have hr : w.heap.size + 1 + 1 = w.heap.size + 2 := rfl
      obtain ⟨T', hl', hO', hm'⟩ := FIN.out _ va3 vc3 B5.out O5.out
      have hl9 := Lib.hid hl'
      have P9 := Lib.hid (And.intro hO' (And.intro hm' (K8.out.1.trans B5.out)))
      clear hl' hO' hm'
    go_wp2_with fail
    all_goals
      obtain ⟨⟨g0, g1⟩, -⟩ := twoE E.out
      exact bodyPost_ret (v := .tuple #[tabV most va3 T'.length vc3, .int .i64 0]) (by rw [hl9.out]; simp [results, Tryz.results8, go_sem, g0, g1]) rfl ⟨⟨va3, vc3, T', rfl, P9.out.1, P9.out.2.1⟩, P9.out.2.2⟩
  · have F1 := Lib.hid (p := ∀ W, Below w8.heap.size w8 W → FromM W (.slice (some ⟨b, off, none⟩) P vc) P 6 ((T.take P).flatMap sixD)) (fun W hb => (from_take hcells P PL.out).below hb)
    have F2 := Lib.hid (p := ∀ W, Below w8.heap.size w8 W → FromM W (.slice (if vc = P then some ⟨b, off, none⟩ else some ⟨b, off + P * 6, none⟩) (T.length - P) (vc - P)) (T.length - P) 6 ((T.drop P).flatMap sixD)) (fun W hb => (by
      have h2 := C7.out.2.1
      have h3 := PL.out
      by_cases hv : vc = P
      · rw [if_pos hv]
        have hl : T.length - P = 0 := by omega
        have hd : T.drop P = [] := List.drop_of_length_le (by omega)
        rw [hl, hd]
        exact .inr ⟨_, _, rfl, rfl, fun j x hj => by simp at hj⟩
      · rw [if_neg hv]
        exact from_drop hcells P h3 : FromM w8 _ _ _ _).below hb)
    clear hcells
    go_upto_region 15 with fail
    go_cut [12] (fun v12 wc => ∃ (U : Nat) (va5 : Option Addr) (vc5 : Nat), v12 = .pointer (some ⟨U, 0, none⟩) ∧ Hid (w8.heap.size ≤ U ∧ wc.heap[U]? = some (.cells #[.int .i64 most, .slice va5 (P + 1) vc5] 30 (0, 0))) ∧ Hid (wc.ownsRow w8.heap.size 44 6 (.slice va5 (P + 1) vc5) (P + 1) ((T.take P).flatMap sixD ++ sixD (x, y, cy))) ∧ Hid (Below w8.heap.size w8 wc))
    case first =>
      go_region_held3 (fun w' => w'.cell? ⟨w.heap.size, 0, none⟩ = some (.int .i64 most) ∧ w'.cell? ⟨w.heap.size, 1, none⟩ = some (.slice (some ⟨b, off, none⟩) T.length vc) ∧ w'.cell? ⟨w.heap.size + 1, 0, none⟩ = some (.string x.key) ∧ w'.cell? ⟨w.heap.size + 1, 1, none⟩ = some (.int .i64 x.t) ∧ w'.cell? ⟨w.heap.size + 1, 2, none⟩ = some (.int .i64 x.i) ∧ w'.cell? ⟨w.heap.size + 1, 3, none⟩ = some (.int .i64 x.q) ∧ w'.cell? ⟨w.heap.size + 1, 4, none⟩ = some (.string x.o) ∧ w'.cell? ⟨w.heap.size + 1, 5, none⟩ = some (.slice y x.len cy)) (first | assumption | exact CC8.out | exact CC3.out | exact CC5.out | (refine TAB.out _ ?_; (repeat (first | exact B5.out | exact B3.out | exact Below.refl _ _ | refine Below.drewQ ?_ | (refine Below.setCell ?_ ?_ _; rotate_left 1; (focus (dsimp only; first | omega | (have := B3.out.size; omega)))) | (refine Below.alloc ?_ ?_ _; rotate_left 1; (focus ((try simp only [World.size_alloc, drew_heap]); first | exact Nat.le_refl _ | omega | (have := B5.out.size; omega) | (have := B3.out.size; omega)))))); done)) (first
        | (refine step_chainM (w0 := w8) rfl (.tmp 72) (.tmp 76) 28 rfl und hi hz0 hz1 hz2 rfl (by decide) (.slice (some ⟨w8.heap.size, 0, none⟩) 0 0) (.slice (some ⟨b, off, none⟩) P vc) 0 P [] ((T.take P).flatMap sixD) rfl rfl ?_ ?_ ?_ (sixD_ones _) (by unfold maxLen; omega) (by omega) ?_
           focus (repeat (first | exact B5.out | exact B3.out | exact Below.refl _ _ | refine Below.drewQ ?_ | (refine Below.setCell ?_ ?_ _; rotate_left 1; (focus (dsimp only; first | omega | (have := B3.out.size; omega)))) | (refine Below.alloc ?_ ?_ _; rotate_left 1; (focus ((try simp only [World.size_alloc, drew_heap]); first | exact Nat.le_refl _ | omega | (have := B5.out.size; omega) | (have := B3.out.size; omega))))))
           focus (refine own_emptyM ?_ (by omega); ((try simp only [alloc_get, drew_heap, World.size_alloc]); repeat (first | rw [if_pos trivial] | rw [if_pos rfl] | rw [if_pos (by omega)] | rw [if_neg (by omega)])))
           focus (refine F1.out _ ?_; (repeat (first | exact B5.out | exact B3.out | exact Below.refl _ _ | refine Below.drewQ ?_ | (refine Below.setCell ?_ ?_ _; rotate_left 1; (focus (dsimp only; first | omega | (have := B3.out.size; omega)))) | (refine Below.alloc ?_ ?_ _; rotate_left 1; (focus ((try simp only [World.size_alloc, drew_heap]); first | exact Nat.le_refl _ | omega | (have := B5.out.size; omega) | (have := B3.out.size; omega)))))))
           intro v3 w3 hb ho hg
           have O3 := Lib.hid ho
           have B3 := Lib.hid hb
           have G3 := Lib.hid hg
           have CC3 := Lib.hid (TAB.out w3 hb)
           first
             | (have T3 : Hid (w3.heap[w8.heap.size]? = some (.cells #[.int .i64 0, .slice none 0 0] 30 (0, 0))) := Lib.hid (new3 G3.out (by omega) (heap_alloc_new w8 _)))
             | (have T3 : Hid (w3.heap[w8.heap.size]? = some (.cells #[.int .i64 0, .slice none 0 0] 30 (0, 0))) := Lib.hid (new3 G3.out (by omega) (alloc2_old w8 _ _)))
             | (have T3 : Hid (w3.heap[w8.heap.size]? = some (.cells #[.int .i64 0, .slice none 0 0] 30 (0, 0))) := Lib.hid (new3 G3.out (by omega) (alloc3_0 w8 _ _ _)))
             | (have T3 : Hid (w3.heap[w8.heap.size + 1]? = some (.cells #[.int .i64 0, .slice none 0 0] 30 (0, 0))) := Lib.hid (new3 G3.out (by omega) (alloc2_new w8 _ _)))
             | (have T3 : Hid (w3.heap[w8.heap.size + 1]? = some (.cells #[.int .i64 0, .slice none 0 0] 30 (0, 0))) := Lib.hid (new3 G3.out (by omega) (alloc3_1 w8 _ _ _)))
             | (have T3 : Hid (w3.heap[w8.heap.size + 2]? = some (.cells #[.int .i64 0, .slice none 0 0] 30 (0, 0))) := Lib.hid (new3 G3.out (by omega) (alloc3_2 w8 _ _ _)))
             | skip
           first
             | (have N3 : Hid (w3.heap[w8.heap.size]? = some (.cells #[.string x.key, .int .i64 x.t, .int .i64 x.i, .int .i64 x.q, .string x.o, .slice y x.len cy] 44 (0, 0))) := Lib.hid (new3 G3.out (by omega) (heap_alloc_new w8 _)))
             | (have N3 : Hid (w3.heap[w8.heap.size]? = some (.cells #[.string x.key, .int .i64 x.t, .int .i64 x.i, .int .i64 x.q, .string x.o, .slice y x.len cy] 44 (0, 0))) := Lib.hid (new3 G3.out (by omega) (alloc2_old w8 _ _)))
             | (have N3 : Hid (w3.heap[w8.heap.size]? = some (.cells #[.string x.key, .int .i64 x.t, .int .i64 x.i, .int .i64 x.q, .string x.o, .slice y x.len cy] 44 (0, 0))) := Lib.hid (new3 G3.out (by omega) (alloc3_0 w8 _ _ _)))
             | (have N3 : Hid (w3.heap[w8.heap.size + 1]? = some (.cells #[.string x.key, .int .i64 x.t, .int .i64 x.i, .int .i64 x.q, .string x.o, .slice y x.len cy] 44 (0, 0))) := Lib.hid (new3 G3.out (by omega) (alloc2_new w8 _ _)))
             | (have N3 : Hid (w3.heap[w8.heap.size + 1]? = some (.cells #[.string x.key, .int .i64 x.t, .int .i64 x.i, .int .i64 x.q, .string x.o, .slice y x.len cy] 44 (0, 0))) := Lib.hid (new3 G3.out (by omega) (alloc3_1 w8 _ _ _)))
             | (have N3 : Hid (w3.heap[w8.heap.size + 2]? = some (.cells #[.string x.key, .int .i64 x.t, .int .i64 x.i, .int .i64 x.q, .string x.o, .slice y x.len cy] 44 (0, 0))) := Lib.hid (new3 G3.out (by omega) (alloc3_2 w8 _ _ _)))
             | skip
           clear hb ho hg)
        | (refine step_chainM (w0 := w8) rfl (.tmp 72) (.tmp 76) 28 rfl und hi hz0 hz1 hz2 rfl (by decide) (.slice (some ⟨w8.heap.size + 1, 0, none⟩) 0 0) (.slice (some ⟨b, off, none⟩) P vc) 0 P [] ((T.take P).flatMap sixD) rfl rfl ?_ ?_ ?_ (sixD_ones _) (by unfold maxLen; omega) (by omega) ?_
           focus (repeat (first | exact B5.out | exact B3.out | exact Below.refl _ _ | refine Below.drewQ ?_ | (refine Below.setCell ?_ ?_ _; rotate_left 1; (focus (dsimp only; first | omega | (have := B3.out.size; omega)))) | (refine Below.alloc ?_ ?_ _; rotate_left 1; (focus ((try simp only [World.size_alloc, drew_heap]); first | exact Nat.le_refl _ | omega | (have := B5.out.size; omega) | (have := B3.out.size; omega))))))
           focus (refine own_emptyM ?_ (by omega); ((try simp only [alloc_get, drew_heap, World.size_alloc]); repeat (first | rw [if_pos trivial] | rw [if_pos rfl] | rw [if_pos (by omega)] | rw [if_neg (by omega)])))
           focus (refine F1.out _ ?_; (repeat (first | exact B5.out | exact B3.out | exact Below.refl _ _ | refine Below.drewQ ?_ | (refine Below.setCell ?_ ?_ _; rotate_left 1; (focus (dsimp only; first | omega | (have := B3.out.size; omega)))) | (refine Below.alloc ?_ ?_ _; rotate_left 1; (focus ((try simp only [World.size_alloc, drew_heap]); first | exact Nat.le_refl _ | omega | (have := B5.out.size; omega) | (have := B3.out.size; omega)))))))
           intro v3 w3 hb ho hg
           have O3 := Lib.hid ho
           have B3 := Lib.hid hb
           have G3 := Lib.hid hg
           have CC3 := Lib.hid (TAB.out w3 hb)
           first
             | (have T3 : Hid (w3.heap[w8.heap.size]? = some (.cells #[.int .i64 0, .slice none 0 0] 30 (0, 0))) := Lib.hid (new3 G3.out (by omega) (heap_alloc_new w8 _)))
             | (have T3 : Hid (w3.heap[w8.heap.size]? = some (.cells #[.int .i64 0, .slice none 0 0] 30 (0, 0))) := Lib.hid (new3 G3.out (by omega) (alloc2_old w8 _ _)))
             | (have T3 : Hid (w3.heap[w8.heap.size]? = some (.cells #[.int .i64 0, .slice none 0 0] 30 (0, 0))) := Lib.hid (new3 G3.out (by omega) (alloc3_0 w8 _ _ _)))
             | (have T3 : Hid (w3.heap[w8.heap.size + 1]? = some (.cells #[.int .i64 0, .slice none 0 0] 30 (0, 0))) := Lib.hid (new3 G3.out (by omega) (alloc2_new w8 _ _)))
             | (have T3 : Hid (w3.heap[w8.heap.size + 1]? = some (.cells #[.int .i64 0, .slice none 0 0] 30 (0, 0))) := Lib.hid (new3 G3.out (by omega) (alloc3_1 w8 _ _ _)))
             | (have T3 : Hid (w3.heap[w8.heap.size + 2]? = some (.cells #[.int .i64 0, .slice none 0 0] 30 (0, 0))) := Lib.hid (new3 G3.out (by omega) (alloc3_2 w8 _ _ _)))
             | skip
           first
             | (have N3 : Hid (w3.heap[w8.heap.size]? = some (.cells #[.string x.key, .int .i64 x.t, .int .i64 x.i, .int .i64 x.q, .string x.o, .slice y x.len cy] 44 (0, 0))) := Lib.hid (new3 G3.out (by omega) (heap_alloc_new w8 _)))
             | (have N3 : Hid (w3.heap[w8.heap.size]? = some (.cells #[.string x.key, .int .i64 x.t, .int .i64 x.i, .int .i64 x.q, .string x.o, .slice y x.len cy] 44 (0, 0))) := Lib.hid (new3 G3.out (by omega) (alloc2_old w8 _ _)))
             | (have N3 : Hid (w3.heap[w8.heap.size]? = some (.cells #[.string x.key, .int .i64 x.t, .int .i64 x.i, .int .i64 x.q, .string x.o, .slice y x.len cy] 44 (0, 0))) := Lib.hid (new3 G3.out (by omega) (alloc3_0 w8 _ _ _)))
             | (have N3 : Hid (w3.heap[w8.heap.size + 1]? = some (.cells #[.string x.key, .int .i64 x.t, .int .i64 x.i, .int .i64 x.q, .string x.o, .slice y x.len cy] 44 (0, 0))) := Lib.hid (new3 G3.out (by omega) (alloc2_new w8 _ _)))
             | (have N3 : Hid (w3.heap[w8.heap.size + 1]? = some (.cells #[.string x.key, .int .i64 x.t, .int .i64 x.i, .int .i64 x.q, .string x.o, .slice y x.len cy] 44 (0, 0))) := Lib.hid (new3 G3.out (by omega) (alloc3_1 w8 _ _ _)))
             | (have N3 : Hid (w3.heap[w8.heap.size + 2]? = some (.cells #[.string x.key, .int .i64 x.t, .int .i64 x.i, .int .i64 x.q, .string x.o, .slice y x.len cy] 44 (0, 0))) := Lib.hid (new3 G3.out (by omega) (alloc3_2 w8 _ _ _)))
             | skip
           clear hb ho hg)
        | (refine step_chainM (w0 := w8) rfl (.tmp 72) (.tmp 76) 28 rfl und hi hz0 hz1 hz2 rfl (by decide) (.slice (some ⟨w8.heap.size + 2, 0, none⟩) 0 0) (.slice (some ⟨b, off, none⟩) P vc) 0 P [] ((T.take P).flatMap sixD) rfl rfl ?_ ?_ ?_ (sixD_ones _) (by unfold maxLen; omega) (by omega) ?_
           focus (repeat (first | exact B5.out | exact B3.out | exact Below.refl _ _ | refine Below.drewQ ?_ | (refine Below.setCell ?_ ?_ _; rotate_left 1; (focus (dsimp only; first | omega | (have := B3.out.size; omega)))) | (refine Below.alloc ?_ ?_ _; rotate_left 1; (focus ((try simp only [World.size_alloc, drew_heap]); first | exact Nat.le_refl _ | omega | (have := B5.out.size; omega) | (have := B3.out.size; omega))))))
           focus (refine own_emptyM ?_ (by omega); ((try simp only [alloc_get, drew_heap, World.size_alloc]); repeat (first | rw [if_pos trivial] | rw [if_pos rfl] | rw [if_pos (by omega)] | rw [if_neg (by omega)])))
           focus (refine F1.out _ ?_; (repeat (first | exact B5.out | exact B3.out | exact Below.refl _ _ | refine Below.drewQ ?_ | (refine Below.setCell ?_ ?_ _; rotate_left 1; (focus (dsimp only; first | omega | (have := B3.out.size; omega)))) | (refine Below.alloc ?_ ?_ _; rotate_left 1; (focus ((try simp only [World.size_alloc, drew_heap]); first | exact Nat.le_refl _ | omega | (have := B5.out.size; omega) | (have := B3.out.size; omega)))))))
           intro v3 w3 hb ho hg
           have O3 := Lib.hid ho
           have B3 := Lib.hid hb
           have G3 := Lib.hid hg
           have CC3 := Lib.hid (TAB.out w3 hb)
           first
             | (have T3 : Hid (w3.heap[w8.heap.size]? = some (.cells #[.int .i64 0, .slice none 0 0] 30 (0, 0))) := Lib.hid (new3 G3.out (by omega) (heap_alloc_new w8 _)))
             | (have T3 : Hid (w3.heap[w8.heap.size]? = some (.cells #[.int .i64 0, .slice none 0 0] 30 (0, 0))) := Lib.hid (new3 G3.out (by omega) (alloc2_old w8 _ _)))
             | (have T3 : Hid (w3.heap[w8.heap.size]? = some (.cells #[.int .i64 0, .slice none 0 0] 30 (0, 0))) := Lib.hid (new3 G3.out (by omega) (alloc3_0 w8 _ _ _)))
             | (have T3 : Hid (w3.heap[w8.heap.size + 1]? = some (.cells #[.int .i64 0, .slice none 0 0] 30 (0, 0))) := Lib.hid (new3 G3.out (by omega) (alloc2_new w8 _ _)))
             | (have T3 : Hid (w3.heap[w8.heap.size + 1]? = some (.cells #[.int .i64 0, .slice none 0 0] 30 (0, 0))) := Lib.hid (new3 G3.out (by omega) (alloc3_1 w8 _ _ _)))
             | (have T3 : Hid (w3.heap[w8.heap.size + 2]? = some (.cells #[.int .i64 0, .slice none 0 0] 30 (0, 0))) := Lib.hid (new3 G3.out (by omega) (alloc3_2 w8 _ _ _)))
             | skip
           first
             | (have N3 : Hid (w3.heap[w8.heap.size]? = some (.cells #[.string x.key, .int .i64 x.t, .int .i64 x.i, .int .i64 x.q, .string x.o, .slice y x.len cy] 44 (0, 0))) := Lib.hid (new3 G3.out (by omega) (heap_alloc_new w8 _)))
             | (have N3 : Hid (w3.heap[w8.heap.size]? = some (.cells #[.string x.key, .int .i64 x.t, .int .i64 x.i, .int .i64 x.q, .string x.o, .slice y x.len cy] 44 (0, 0))) := Lib.hid (new3 G3.out (by omega) (alloc2_old w8 _ _)))
             | (have N3 : Hid (w3.heap[w8.heap.size]? = some (.cells #[.string x.key, .int .i64 x.t, .int .i64 x.i, .int .i64 x.q, .string x.o, .slice y x.len cy] 44 (0, 0))) := Lib.hid (new3 G3.out (by omega) (alloc3_0 w8 _ _ _)))
             | (have N3 : Hid (w3.heap[w8.heap.size + 1]? = some (.cells #[.string x.key, .int .i64 x.t, .int .i64 x.i, .int .i64 x.q, .string x.o, .slice y x.len cy] 44 (0, 0))) := Lib.hid (new3 G3.out (by omega) (alloc2_new w8 _ _)))
             | (have N3 : Hid (w3.heap[w8.heap.size + 1]? = some (.cells #[.string x.key, .int .i64 x.t, .int .i64 x.i, .int .i64 x.q, .string x.o, .slice y x.len cy] 44 (0, 0))) := Lib.hid (new3 G3.out (by omega) (alloc3_1 w8 _ _ _)))
             | (have N3 : Hid (w3.heap[w8.heap.size + 2]? = some (.cells #[.string x.key, .int .i64 x.t, .int .i64 x.i, .int .i64 x.q, .string x.o, .slice y x.len cy] 44 (0, 0))) := Lib.hid (new3 G3.out (by omega) (alloc3_2 w8 _ _ _)))
             | skip
           clear hb ho hg)
        | (refine step_chainM (w0 := w8) rfl (.tmp 77) (.tmp 79) 28 rfl und hi hz0 hz1 hz2 rfl (by decide) v3 (.slice (some ⟨w8.heap.size, 0, none⟩) 1 1) (0 + P) 1 ([] ++ (T.take P).flatMap sixD) (sixD (x, y, cy)) rfl rfl ?_ ?_ ?_ (sixD_one (x, y, cy)) (by unfold maxLen; omega) (by omega) ?_
           focus (repeat (first | exact B5.out | exact B3.out | exact Below.refl _ _ | refine Below.drewQ ?_ | (refine Below.setCell ?_ ?_ _; rotate_left 1; (focus (dsimp only; first | omega | (have := B3.out.size; omega)))) | (refine Below.alloc ?_ ?_ _; rotate_left 1; (focus ((try simp only [World.size_alloc, drew_heap]); first | exact Nat.le_refl _ | omega | (have := B5.out.size; omega) | (have := B3.out.size; omega))))))
           focus (repeat (first | exact O3.out | refine World.ownsRow.drew ?_ | refine World.ownsRow.alloc ?_ _))
           focus (refine fromSix ?_; first | exact N3.out | exact (Below.heap_alloc _ _ _ (lt_of_block N3.out)).trans N3.out)
           intro v5 w5 hb ho hg
           obtain ⟨va5, vc5, rfl⟩ := own_rowG ho
           have O5 := Lib.hid ho
           have B5 := Lib.hid hb
           have G5 := Lib.hid hg
           have CC5 := Lib.hid (TAB.out w5 hb)
           first
             | (have h3 := T3.out
                have T5 := Lib.hid (keep5 O3.out G5.out (by (try simp only [World.size_alloc, drew_heap]); omega) h3 (by decide) (by first | rfl | exact Below.heap_alloc _ _ _ (lt_of_block h3)))
                clear h3
                obtain ⟨⟨c0, c1⟩, g0, g1⟩ := twoE T5.out)
             | (have T5 : Hid (w5.heap[w3.heap.size]? = some (.cells #[.int .i64 0, .slice none 0 0] 30 (0, 0))) := Lib.hid (new5 O3.out G5.out (Nat.le_refl _) (heap_alloc_new w3 _))
                obtain ⟨⟨c0, c1⟩, g0, g1⟩ := twoE T5.out)
             | (have T5 : Hid (w5.heap[w3.heap.size]? = some (.cells #[.int .i64 0, .slice none 0 0] 30 (0, 0))) := Lib.hid (new5 O3.out G5.out (Nat.le_refl _) (alloc2_old w3 _ _))
                obtain ⟨⟨c0, c1⟩, g0, g1⟩ := twoE T5.out)
             | (have T5 : Hid (w5.heap[w3.heap.size + 1]? = some (.cells #[.int .i64 0, .slice none 0 0] 30 (0, 0))) := Lib.hid (new5 O3.out G5.out (Nat.le_succ _) (alloc2_new w3 _ _))
                obtain ⟨⟨c0, c1⟩, g0, g1⟩ := twoE T5.out)
             | skip
           clear hb ho hg)
        | (refine step_chainM (w0 := w8) rfl (.tmp 77) (.tmp 79) 28 rfl und hi hz0 hz1 hz2 rfl (by decide) v3 (.slice (some ⟨w8.heap.size + 1, 0, none⟩) 1 1) (0 + P) 1 ([] ++ (T.take P).flatMap sixD) (sixD (x, y, cy)) rfl rfl ?_ ?_ ?_ (sixD_one (x, y, cy)) (by unfold maxLen; omega) (by omega) ?_
           focus (repeat (first | exact B5.out | exact B3.out | exact Below.refl _ _ | refine Below.drewQ ?_ | (refine Below.setCell ?_ ?_ _; rotate_left 1; (focus (dsimp only; first | omega | (have := B3.out.size; omega)))) | (refine Below.alloc ?_ ?_ _; rotate_left 1; (focus ((try simp only [World.size_alloc, drew_heap]); first | exact Nat.le_refl _ | omega | (have := B5.out.size; omega) | (have := B3.out.size; omega))))))
           focus (repeat (first | exact O3.out | refine World.ownsRow.drew ?_ | refine World.ownsRow.alloc ?_ _))
           focus (refine fromSix ?_; first | exact N3.out | exact (Below.heap_alloc _ _ _ (lt_of_block N3.out)).trans N3.out)
           intro v5 w5 hb ho hg
           obtain ⟨va5, vc5, rfl⟩ := own_rowG ho
           have O5 := Lib.hid ho
           have B5 := Lib.hid hb
           have G5 := Lib.hid hg
           have CC5 := Lib.hid (TAB.out w5 hb)
           first
             | (have h3 := T3.out
                have T5 := Lib.hid (keep5 O3.out G5.out (by (try simp only [World.size_alloc, drew_heap]); omega) h3 (by decide) (by first | rfl | exact Below.heap_alloc _ _ _ (lt_of_block h3)))
                clear h3
                obtain ⟨⟨c0, c1⟩, g0, g1⟩ := twoE T5.out)
             | (have T5 : Hid (w5.heap[w3.heap.size]? = some (.cells #[.int .i64 0, .slice none 0 0] 30 (0, 0))) := Lib.hid (new5 O3.out G5.out (Nat.le_refl _) (heap_alloc_new w3 _))
                obtain ⟨⟨c0, c1⟩, g0, g1⟩ := twoE T5.out)
             | (have T5 : Hid (w5.heap[w3.heap.size]? = some (.cells #[.int .i64 0, .slice none 0 0] 30 (0, 0))) := Lib.hid (new5 O3.out G5.out (Nat.le_refl _) (alloc2_old w3 _ _))
                obtain ⟨⟨c0, c1⟩, g0, g1⟩ := twoE T5.out)
             | (have T5 : Hid (w5.heap[w3.heap.size + 1]? = some (.cells #[.int .i64 0, .slice none 0 0] 30 (0, 0))) := Lib.hid (new5 O3.out G5.out (Nat.le_succ _) (alloc2_new w3 _ _))
                obtain ⟨⟨c0, c1⟩, g0, g1⟩ := twoE T5.out)
             | skip
           clear hb ho hg)
        | (refine step_chainM (w0 := w8) rfl (.tmp 77) (.tmp 79) 28 rfl und hi hz0 hz1 hz2 rfl (by decide) v3 (.slice (some ⟨w8.heap.size + 2, 0, none⟩) 1 1) (0 + P) 1 ([] ++ (T.take P).flatMap sixD) (sixD (x, y, cy)) rfl rfl ?_ ?_ ?_ (sixD_one (x, y, cy)) (by unfold maxLen; omega) (by omega) ?_
           focus (repeat (first | exact B5.out | exact B3.out | exact Below.refl _ _ | refine Below.drewQ ?_ | (refine Below.setCell ?_ ?_ _; rotate_left 1; (focus (dsimp only; first | omega | (have := B3.out.size; omega)))) | (refine Below.alloc ?_ ?_ _; rotate_left 1; (focus ((try simp only [World.size_alloc, drew_heap]); first | exact Nat.le_refl _ | omega | (have := B5.out.size; omega) | (have := B3.out.size; omega))))))
           focus (repeat (first | exact O3.out | refine World.ownsRow.drew ?_ | refine World.ownsRow.alloc ?_ _))
           focus (refine fromSix ?_; first | exact N3.out | exact (Below.heap_alloc _ _ _ (lt_of_block N3.out)).trans N3.out)
           intro v5 w5 hb ho hg
           obtain ⟨va5, vc5, rfl⟩ := own_rowG ho
           have O5 := Lib.hid ho
           have B5 := Lib.hid hb
           have G5 := Lib.hid hg
           have CC5 := Lib.hid (TAB.out w5 hb)
           first
             | (have h3 := T3.out
                have T5 := Lib.hid (keep5 O3.out G5.out (by (try simp only [World.size_alloc, drew_heap]); omega) h3 (by decide) (by first | rfl | exact Below.heap_alloc _ _ _ (lt_of_block h3)))
                clear h3
                obtain ⟨⟨c0, c1⟩, g0, g1⟩ := twoE T5.out)
             | (have T5 : Hid (w5.heap[w3.heap.size]? = some (.cells #[.int .i64 0, .slice none 0 0] 30 (0, 0))) := Lib.hid (new5 O3.out G5.out (Nat.le_refl _) (heap_alloc_new w3 _))
                obtain ⟨⟨c0, c1⟩, g0, g1⟩ := twoE T5.out)
             | (have T5 : Hid (w5.heap[w3.heap.size]? = some (.cells #[.int .i64 0, .slice none 0 0] 30 (0, 0))) := Lib.hid (new5 O3.out G5.out (Nat.le_refl _) (alloc2_old w3 _ _))
                obtain ⟨⟨c0, c1⟩, g0, g1⟩ := twoE T5.out)
             | (have T5 : Hid (w5.heap[w3.heap.size + 1]? = some (.cells #[.int .i64 0, .slice none 0 0] 30 (0, 0))) := Lib.hid (new5 O3.out G5.out (Nat.le_succ _) (alloc2_new w3 _ _))
                obtain ⟨⟨c0, c1⟩, g0, g1⟩ := twoE T5.out)
             | skip
           clear hb ho hg)
        | (refine step_chainM (w0 := w8) rfl (.tmp 77) (.tmp 79) 28 rfl und hi hz0 hz1 hz2 rfl (by decide) v3 (.slice (some ⟨w3.heap.size, 0, none⟩) 1 1) (0 + P) 1 ([] ++ (T.take P).flatMap sixD) (sixD (x, y, cy)) rfl rfl ?_ ?_ ?_ (sixD_one (x, y, cy)) (by unfold maxLen; omega) (by omega) ?_
           focus (repeat (first | exact B5.out | exact B3.out | exact Below.refl _ _ | refine Below.drewQ ?_ | (refine Below.setCell ?_ ?_ _; rotate_left 1; (focus (dsimp only; first | omega | (have := B3.out.size; omega)))) | (refine Below.alloc ?_ ?_ _; rotate_left 1; (focus ((try simp only [World.size_alloc, drew_heap]); first | exact Nat.le_refl _ | omega | (have := B5.out.size; omega) | (have := B3.out.size; omega))))))
           focus (repeat (first | exact O3.out | refine World.ownsRow.drew ?_ | refine World.ownsRow.alloc ?_ _))
           focus (refine fromSix ?_; ((try simp only [alloc_get, drew_heap, World.size_alloc]); repeat (first | rw [if_pos trivial] | rw [if_pos rfl] | rw [if_pos (by omega)] | rw [if_neg (by omega)])))
           intro v5 w5 hb ho hg
           obtain ⟨va5, vc5, rfl⟩ := own_rowG ho
           have O5 := Lib.hid ho
           have B5 := Lib.hid hb
           have G5 := Lib.hid hg
           have CC5 := Lib.hid (TAB.out w5 hb)
           first
             | (have h3 := T3.out
                have T5 := Lib.hid (keep5 O3.out G5.out (by (try simp only [World.size_alloc, drew_heap]); omega) h3 (by decide) (by first | rfl | exact Below.heap_alloc _ _ _ (lt_of_block h3)))
                clear h3
                obtain ⟨⟨c0, c1⟩, g0, g1⟩ := twoE T5.out)
             | (have T5 : Hid (w5.heap[w3.heap.size]? = some (.cells #[.int .i64 0, .slice none 0 0] 30 (0, 0))) := Lib.hid (new5 O3.out G5.out (Nat.le_refl _) (heap_alloc_new w3 _))
                obtain ⟨⟨c0, c1⟩, g0, g1⟩ := twoE T5.out)
             | (have T5 : Hid (w5.heap[w3.heap.size]? = some (.cells #[.int .i64 0, .slice none 0 0] 30 (0, 0))) := Lib.hid (new5 O3.out G5.out (Nat.le_refl _) (alloc2_old w3 _ _))
                obtain ⟨⟨c0, c1⟩, g0, g1⟩ := twoE T5.out)
             | (have T5 : Hid (w5.heap[w3.heap.size + 1]? = some (.cells #[.int .i64 0, .slice none 0 0] 30 (0, 0))) := Lib.hid (new5 O3.out G5.out (Nat.le_succ _) (alloc2_new w3 _ _))
                obtain ⟨⟨c0, c1⟩, g0, g1⟩ := twoE T5.out)
             | skip
           clear hb ho hg)
        | (refine step_chainM (w0 := w8) rfl (.tmp 77) (.tmp 79) 28 rfl und hi hz0 hz1 hz2 rfl (by decide) v3 (.slice (some ⟨w3.heap.size + 1, 0, none⟩) 1 1) (0 + P) 1 ([] ++ (T.take P).flatMap sixD) (sixD (x, y, cy)) rfl rfl ?_ ?_ ?_ (sixD_one (x, y, cy)) (by unfold maxLen; omega) (by omega) ?_
           focus (repeat (first | exact B5.out | exact B3.out | exact Below.refl _ _ | refine Below.drewQ ?_ | (refine Below.setCell ?_ ?_ _; rotate_left 1; (focus (dsimp only; first | omega | (have := B3.out.size; omega)))) | (refine Below.alloc ?_ ?_ _; rotate_left 1; (focus ((try simp only [World.size_alloc, drew_heap]); first | exact Nat.le_refl _ | omega | (have := B5.out.size; omega) | (have := B3.out.size; omega))))))
           focus (repeat (first | exact O3.out | refine World.ownsRow.drew ?_ | refine World.ownsRow.alloc ?_ _))
           focus (refine fromSix ?_; ((try simp only [alloc_get, drew_heap, World.size_alloc]); repeat (first | rw [if_pos trivial] | rw [if_pos rfl] | rw [if_pos (by omega)] | rw [if_neg (by omega)])))
           intro v5 w5 hb ho hg
           obtain ⟨va5, vc5, rfl⟩ := own_rowG ho
           have O5 := Lib.hid ho
           have B5 := Lib.hid hb
           have G5 := Lib.hid hg
           have CC5 := Lib.hid (TAB.out w5 hb)
           first
             | (have h3 := T3.out
                have T5 := Lib.hid (keep5 O3.out G5.out (by (try simp only [World.size_alloc, drew_heap]); omega) h3 (by decide) (by first | rfl | exact Below.heap_alloc _ _ _ (lt_of_block h3)))
                clear h3
                obtain ⟨⟨c0, c1⟩, g0, g1⟩ := twoE T5.out)
             | (have T5 : Hid (w5.heap[w3.heap.size]? = some (.cells #[.int .i64 0, .slice none 0 0] 30 (0, 0))) := Lib.hid (new5 O3.out G5.out (Nat.le_refl _) (heap_alloc_new w3 _))
                obtain ⟨⟨c0, c1⟩, g0, g1⟩ := twoE T5.out)
             | (have T5 : Hid (w5.heap[w3.heap.size]? = some (.cells #[.int .i64 0, .slice none 0 0] 30 (0, 0))) := Lib.hid (new5 O3.out G5.out (Nat.le_refl _) (alloc2_old w3 _ _))
                obtain ⟨⟨c0, c1⟩, g0, g1⟩ := twoE T5.out)
             | (have T5 : Hid (w5.heap[w3.heap.size + 1]? = some (.cells #[.int .i64 0, .slice none 0 0] 30 (0, 0))) := Lib.hid (new5 O3.out G5.out (Nat.le_succ _) (alloc2_new w3 _ _))
                obtain ⟨⟨c0, c1⟩, g0, g1⟩ := twoE T5.out)
             | skip
           clear hb ho hg)
        | fail)
      all_goals
        have O6 : w5.ownsRow w8.heap.size 44 6 (.slice va5 (P + 1) vc5) (P + 1) ((T.take P).flatMap sixD ++ sixD (x, y, cy)) := by have := O5.out; rwa [Nat.zero_add, List.nil_append] at this
        have H6 := Lib.hid O6
        clear O6
        try rw [show 0 + P = P from Nat.zero_add P]
      go_wp2_with fail
      all_goals
        go_meet
        case rel =>
          first
            | exact ⟨w5.heap.size, va5, vc5, rfl, Lib.hid ⟨B5.out.size, heap_alloc_new w5 _⟩, Lib.hid (H6.out.alloc _), Lib.hid (B5.out.alloc B5.out.size _)⟩
            | (have hz3 := B3.out.size
               refine ⟨_, va5, vc5, rfl, Lib.hid ⟨?_, two_setD T5.out _ _⟩, Lib.hid (own_set2 H6.out T5.out (by decide) _ _), Lib.hid ((B5.out.setCell ?_ _).setCell ?_ _)⟩ <;> ((try dsimp only); omega))
    case rest =>
    obtain ⟨U, va5, vc5, rfl, U9, O9, B9⟩ := hcut
    obtain ⟨⟨u0, u1⟩, g0, g1⟩ := twoE U9.out.2
    have CC9 := Lib.hid (TAB.out _ B9.out)
    obtain ⟨s0, s1, -⟩ := CC9.out
    have O9' := Lib.hid (O9.out.drew)
    have F9 := Lib.hid (F2.out wc.drew (B9.out.trans ((drewD wc).mono B9.out.size)))
    have hz9 : w8.heap.size ≤ wc.drew.heap.size := B9.out.size
    clear x0 x1 x2 x3 x4 x5 F1
    go_upto_region 16 with fail
    go_region_law
      (refine step_append_fromM (w := wc.drew) (base := w8.heap.size) (size := 6) (e := 44) rfl (.tmp 83) (.tmp 87) 28 rfl und hi hz0 hz1 hz2 rfl (by decide) (.slice va5 (P + 1) vc5) (.slice (if vc = P then some ⟨b, off, none⟩ else some ⟨b, off + P * 6, none⟩) (T.length - P) (vc - P)) (P + 1) (T.length - P) ((T.take P).flatMap sixD ++ sixD (x, y, cy)) ((T.drop P).flatMap sixD) rfl rfl O9'.out F9.out (sixD_ones _) (by unfold maxLen; omega) (by omega) hz9 ?_
       intro v3 w3 ho hg
       obtain ⟨va3, vc3, rfl⟩ := own_rowG ho
       have O3 := Lib.hid ho
       have B3 := Lib.hid (show Below w8.heap.size w8 w3 from (B9.out.trans ((drewD wc).mono B9.out.size)).grown hg hz9 (fun q hq => (O9'.out.lt q hq).1))
       have U3 := Lib.hid (show w3.heap[U]? = some (.cells #[.int .i64 most, .slice va5 (P + 1) vc5] 30 (0, 0)) from (hg.block U (lt_of_block U9.out.2) (fun e => own_type O9'.out U9.out.2 (by decide) e.symm)).trans U9.out.2)
       obtain ⟨⟨u30, u31⟩, g30, g31⟩ := twoE U3.out
       clear ho hg)
    all_goals
      have NL : (P + 1) + (T.length - P) = T.length + 1 := by omega
      rw [NL] at O3 ⊢
      have hzw : w.heap.size ≤ w8.heap.size := K8.out.1.size
      have hr8 : w.heap.size + 2 < w8.heap.size := lt_of_block K8.out.2.2.2
      have U4 := Lib.hid (show (w3.setCell ⟨U, 1, none⟩ (.slice va3 (T.length + 1) vc3)).heap[U]? = some (.cells #[.int .i64 most, .slice va3 (T.length + 1) vc3] 30 (0, 0)) by rw [heap_setCell_same w3 U 1 _ _ (.slice va3 (T.length + 1) vc3) U3.out]; rfl)
      have R4 := Lib.hid (show (w3.setCell ⟨U, 1, none⟩ (.slice va3 (T.length + 1) vc3)).heap[w.heap.size + 2]? = some (.cells #[.int .i64 0, .slice none 0 0] 30 (0, 0)) from (Below.heap_setCell _ _ _ _ (by have := U9.out.1; show w.heap.size + 2 ≠ U; omega)).trans ((B3.out.block _ hr8).trans K8.out.2.2.2))
      have B4 := Lib.hid (show Below w8.heap.size w8 (w3.setCell ⟨U, 1, none⟩ (.slice va3 (T.length + 1) vc3)) from B3.out.setCell (p := ⟨U, 1, none⟩) U9.out.1 _)
      have O4 := Lib.hid (show (w3.setCell ⟨U, 1, none⟩ (.slice va3 (T.length + 1) vc3)).ownsRow w8.heap.size 44 6 (.slice va3 (T.length + 1) vc3) (T.length + 1) ((T.take P).flatMap sixD ++ sixD (x, y, cy) ++ (T.drop P).flatMap sixD) from O3.out.kept (⟨rfl, rfl, rfl, by simp, fun q _ hq => Below.heap_setCell _ _ _ _ (fun e => hq (by rw [e]))⟩ : w3.grownBy (w3.setCell ⟨U, 1, none⟩ (.slice va3 (T.length + 1) vc3)) (some U)) (.inr (own_type O3.out U3.out (by decide))))
      clear u30 u31 g30 g31 u0 u1 g0 g1 s0 s1 O3 B3 U3
      generalize w3.setCell ⟨U, 1, none⟩ (.slice va3 (T.length + 1) vc3) = w4 at *
      obtain ⟨⟨u0, u1⟩, g0, g1⟩ := twoE U4.out
      obtain ⟨⟨d0, d1⟩, f0, f1⟩ := twoE R4.out
      have E := Lib.hid (two_setD R4.out (.int .i64 most) (.slice va3 (T.length + 1) vc3))
      have B5 := Lib.hid (((B4.out.mono hzw).setCell (p := ⟨w.heap.size + 2, 0, none⟩) (by show w.heap.size ≤ w.heap.size + 2; omega) (.int .i64 most)).setCell (p := ⟨w.heap.size + 2, 1, none⟩) (by show w.heap.size ≤ w.heap.size + 2; omega) (.slice va3 (T.length + 1) vc3))
      have O5 := Lib.hid (own_set2 O4.out R4.out (by decide) (.int .i64 most) (.slice va3 (T.length + 1) vc3))
      have hr : w.heap.size + 1 + 1 = w.heap.size + 2 := rfl
      obtain ⟨T', hl', hO', hm'⟩ := FIN.out _ va3 vc3 B5.out O5.out
      have hl9 := Lib.hid hl'
      have P9 := Lib.hid (And.intro hO' (And.intro hm' (K8.out.1.trans B5.out)))
      clear hl' hO' hm'
    go_wp2_with fail
    all_goals
      obtain ⟨⟨g0, g1⟩, -⟩ := twoE E.out
      exact bodyPost_ret (v := .tuple #[tabV most va3 T'.length vc3, .int .i64 0]) (by rw [hl9.out]; simp [results, Tryz.results8, go_sem, g0, g1]) rfl ⟨⟨va3, vc3, T', rfl, P9.out.1, P9.out.2.1⟩, P9.out.2.2⟩


end Go.Proofs.YtpdobbdbmgeoiaaGreat
