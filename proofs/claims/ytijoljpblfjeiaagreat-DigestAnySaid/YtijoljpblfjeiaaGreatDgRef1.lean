/-
  No statement: the law's own Few and Of of marks; the document's Marks.
-/
import Derived.Test.YtijoljpblfjeiaaGreatDgRise
set_option linter.unusedVariables false
set_option linter.unusedSimpArgs false
namespace Go.Proofs.YtijoljpblfjeiaaGreat
open Go.RowKit

theorem of3_any (t i q : Int) (o : ByteArray) (w : World) : Calls Tryz.prog 51 #[.agg #[.int .i64 t, .int .i64 i, .int .i64 q, .string o]] w fun e w' => e = .returned (.agg #[.int .i64 t, .int .i64 i, .int .i64 q, .string o]) ∧ Below w.heap.size w w' := by
  go_enter Tryz.func51, Tryz.ntmps51
  go_wp2
  exact bodyPost_ret (v := .agg #[.int .i64 t, .int .i64 i, .int .i64 q, .string o]) (by simp [results, Tryz.results51, go_sem]) rfl ⟨rfl, ((Below.refl _ _).alloc (Nat.le_refl _) _).alloc (by simp) _⟩

/-- What is answered is a Boolean; where it is true, so it is. -/
def AnsB (P : Prop) (e : Ending) : Prop := ∃ r, e = .returned (.bool r) ∧ (r = true → P)

/-- Marks that are few and short. -/
def FewMs (bl : List MK) : Prop := bl.length ≤ 70 ∧ ∀ m ∈ bl, m.key.size ≤ 100 ∧ m.o.size ≤ 100

set_option maxRecDepth 100000 in
set_option maxHeartbeats 4000000 in
theorem few14_any (bl : List MK) (a : Option Addr) (c : Nat) (hs : ∀ m ∈ bl, m.key.size ≤ maxLen ∧ m.o.size ≤ maxLen) (w : World) (h : ReadsMG (fun q => q < w.heap.size) w a bl.length (atK bl)) :
    Calls Tryz.prog 23 #[.slice a bl.length c] w fun e w' => AnsB (FewMs bl) e ∧ Below w.heap.size w w' := by
  have HA := Lib.hid h
  have HSZ := Lib.hid hs
  have hnm : bl.length ≤ 9223372036854775807 := h.1
  have FL := Lib.hid (p := bl.length ≤ 70 → (∀ j, j < bl.length → (atK bl j).key.size ≤ 100 ∧ (atK bl j).o.size ≤ 100) → FewMs bl) (fun h1 h2 => ⟨h1, fun m hm => by obtain ⟨j, hj, rfl⟩ := List.getElem_of_mem hm; rw [← atK_lt hj]; exact h2 j hj⟩)
  obtain ⟨n, hn⟩ : ∃ n, bl.length = n := ⟨_, rfl⟩
  have HN := Lib.hid hn
  rw [hn] at HA FL hnm ⊢
  clear h hs hn
  go_enter Tryz.func23, Tryz.ntmps23
  by_cases h70 : 70 < n
  · have d1 : (70 : Int) < (n : Int) := by omega
    go_wp2_with fail
    go_ret
    exact ⟨⟨_, rfl, fun h => by cases h⟩, Below.refl _ _⟩
  have d1 : ¬ (70 : Int) < (n : Int) := by omega
  go_wp2_with fail
  clear d1
  go_loop [3] (fun iv => ∃ i : Nat, iv = .int .i64 i ∧ i ≤ n ∧ Hid (∀ j, j < i → (atK bl j).key.size ≤ 100 ∧ (atK bl j).o.size ≤ 100)) (fun iv => n - (intOf iv).toNat)
  case atStart => exact ⟨0, rfl, Nat.zero_le _, Lib.hid (fun j h => by omega)⟩
  case round =>
    obtain ⟨i, rfl, hi, E5⟩ := hrel
    by_cases hlt : i < n
    · have e1 : (i : Int) < (n : Int) := by omega
      obtain ⟨b, off, rfl, hbw, ⟨d0, d1, d2, d3, d4⟩⟩ := HA.out.cells hlt
      have hsz := HSZ.out (atK bl i) (by rw [atK_lt (by rw [HN.out]; exact hlt)]; exact List.getElem_mem _)
      obtain ⟨x, hx⟩ : ∃ x, atK bl i = x := ⟨_, rfl⟩
      have HX := Lib.hid hx
      rw [hx] at d0 d1 d2 d3 d4 hsz
      have hs1 : x.key.size ≤ 9223372036854775807 := hsz.1
      have hs2 : x.o.size ≤ 9223372036854775807 := hsz.2
      clear hx hsz
      by_cases hk : 100 < x.key.size
      · have e2 : (100 : Int) < (x.key.size : Int) := by omega
        go_wp2_with fail
        go_ret
        exact ⟨⟨_, rfl, fun h => by cases h⟩, Below.refl _ _⟩
      · have e2 : ¬ (100 : Int) < (x.key.size : Int) := by omega
        by_cases ho : 100 < x.o.size
        · have e3 : (100 : Int) < (x.o.size : Int) := by omega
          go_wp2_with fail
          go_ret
          exact ⟨⟨_, rfl, fun h => by cases h⟩, Below.refl _ _⟩
        · have e3 : ¬ (100 : Int) < (x.o.size : Int) := by omega
          have E6 := Lib.hid (p := ∀ j, j < i + 1 → (atK bl j).key.size ≤ 100 ∧ (atK bl j).o.size ≤ 100) (fun j hj => by
            by_cases e : j = i
            · rw [e, HX.out]; exact ⟨by omega, by omega⟩
            · exact E5.out j (by omega))
          go_wp2_with fail
          go_roundw
          case rel => exact ⟨i + 1, by go_num, by omega, E6⟩
          case measure => simp [intOf]; omega
    · obtain rfl : i = n := by omega
      have P := Lib.hid (FL.out (by omega) E5.out)
      go_wp2_with fail
      go_ret
      exact ⟨⟨_, rfl, fun _ => P.out⟩, Below.refl _ _⟩

/-- The document's marks that are owned. -/
def OwnN (w : World) (B : Nat) (v : Value) (T : List MK) : Prop := w.ownsRow B 74 5 v T.length (T.flatMap fiveK)
theorem OwnN.below {w w' : World} {B : Nat} {v : Value} {T : List MK} (h : OwnN w B v T) (hb : Below w.heap.size w w') : OwnN w' B v T := owns_below h hb
theorem OwnN.reads {w : World} {B : Nat} {a : Option Addr} {l c : Nat} {T : List MK} (M : Nat → MK) (h : OwnN w B (.slice a l c) T) (hT : ∀ j x, T[j]? = some x → x = M j) : l = T.length ∧ l ≤ c ∧ ReadsMG (fun k => B ≤ k) w a T.length M := by
  have h1 := h
  rcases h1.2 with ⟨hv, h0⟩ | ⟨g, cap, cur, hv, hb, hg, hnc, hm, hs, ht⟩
  · simp only [Value.slice.injEq] at hv
    obtain ⟨rfl, rfl, rfl⟩ := hv
    rw [h0]
    exact ⟨rfl, Nat.le_refl _, ⟨Nat.zero_le _, .inl rfl⟩⟩
  · simp only [Value.slice.injEq] at hv
    obtain ⟨rfl, rfl, hcc⟩ := hv
    refine ⟨rfl, by omega, ⟨Nat.le_trans hnc hm, .inr ⟨g, 0, rfl, hb, fun j hj => ?_⟩⟩⟩
    have e : M j = T[j] := (hT j _ (List.getElem?_eq_getElem hj)).symm
    have hc : ∀ i u, i < 5 → (fiveK T[j])[i]? = some u → w.cell? ⟨g, 0 + j * 5 + i, none⟩ = some u := fun i u hi hu => by
      rw [Nat.zero_add]
      obtain ⟨g', e1, e2⟩ := owns_at (w := w) (base := B) (e := 74) (size := 5) (a := ⟨g, 0, none⟩) (n := T.length) (c := cap) (xs := T.flatMap fiveK) ⟨h1.1, .inr ⟨g, cap, cur, rfl, hb, hg, hnc, hm, hs, ht⟩⟩ (j := j * 5 + i) (u := u) (by rw [flat_at (m := 5) (fun t => rfl) T hj hi]; exact hu)
      cases e1
      exact e2
    rw [e]
    exact ⟨hc 0 _ (by omega) rfl, hc 1 _ (by omega) rfl, hc 2 _ (by omega) rfl, hc 3 _ (by omega) rfl, hc 4 _ (by omega) rfl⟩
theorem new_fiveN (w : World) (x : MK) : ∀ j u, (fiveK x)[j]? = some u → (w.alloc (.cells #[.string x.key, .int .i64 x.t, .int .i64 x.i, .int .i64 x.q, .string x.o] 74)).cell? ((⟨w.heap.size, 0, none⟩ : Addr).add j) = some u := fun j u hj => by
  rw [Addr.add_lit, Nat.zero_add, cell_of_row _ _ _ _ _ (0, 0) (heap_alloc_new w _)]
  simpa [fiveK] using hj
theorem infoNd : (Tryz.prog.info? 74).map (fun i => (i.zero, i.size, i.bytes)) = some (some (.agg #[.string ⟨#[]⟩, .int .i64 0, .int .i64 0, .int .i64 0, .string ⟨#[]⟩]), 5, 56) := by kernel_rfl

/-- What a call makes of marks. -/
def MarksOut (w : World) (bl : List MK) (e : Ending) (w' : World) : Prop := (∃ va vc, e = .returned (.slice va bl.length vc) ∧ bl.length ≤ vc ∧ ReadsMG (fun q => w.heap.size ≤ q) w' va bl.length (atK bl)) ∧ Below w.heap.size w w'

set_option maxRecDepth 100000 in
set_option maxHeartbeats 4000000 in
theorem of14_any (bl : List MK) (a : Option Addr) (c : Nat) (hn : bl.length ≤ 1000) (w : World) (h : ReadsMG (fun q => q < w.heap.size) w a bl.length (atK bl)) :
    Calls Tryz.prog 25 #[.slice a bl.length c] w (MarksOut w bl) := by
  obtain ⟨i0, hi, hz0, hz1, hz2⟩ := info_parts infoNd
  have und : Tryz.prog.underlying 66 = some (.slice 74) := Tryz.underlying66
  have HA := Lib.hid h
  have RD := Lib.hid (p := ∀ (wr : World) (va : Option Addr) (vl vc : Nat), OwnN wr w.heap.size (.slice va vl vc) bl → Below w.heap.size w wr → MarksOut w bl (.returned (.slice va vl vc)) wr) (fun wr va vl vc ho hb => by
    obtain ⟨h1, h2, h3⟩ := ho.reads (atK bl) (fun j x hx => by obtain ⟨h1, h2⟩ := List.getElem?_eq_some_iff.1 hx; rw [atK_lt h1, h2])
    subst h1
    exact ⟨⟨va, vc, rfl, h2, h3⟩, hb⟩)
  have TK := Lib.hid (p := ∀ k, k < bl.length → bl.take (k + 1) = bl.take k ++ [atK bl k]) (fun k hk => by rw [List.take_add_one, List.getElem?_eq_getElem hk, atK_lt hk]; rfl)
  have TL := Lib.hid (p := bl.take bl.length = bl) (List.take_length ..)
  obtain ⟨n, hnn⟩ : ∃ n, bl.length = n := ⟨_, rfl⟩
  rw [hnn] at hn HA TK TL ⊢
  clear h hnn
  go_enter Tryz.func25, Tryz.ntmps25
  go_wp2_with fail
  go_loopw [3, 4] (fun v i wr => ∃ (k : Nat) (T : List MK) (va : Option Addr) (vl vc : Nat), v = .slice va vl vc ∧ i = .int .i64 k ∧ k ≤ n ∧ vl = T.length ∧ T.length ≤ k ∧ Hid (T = bl.take k) ∧ Hid (OwnN wr w.heap.size (.slice va vl vc) T) ∧ Hid (Below w.heap.size w wr)) (fun _ i _ => n - (intOf i).toNat)
  case atStart => exact ⟨0, [], none, 0, 0, rfl, rfl, Nat.zero_le _, rfl, Nat.le_refl _, Lib.hid rfl, Lib.hid (World.ownsRow_nil _ _ _ _), Lib.hid (Below.refl _ _)⟩
  case round =>
    obtain ⟨k, T, va, vl, vc, rfl, rfl, hk, hvl, hTk, hM, hO, hB⟩ := hrel
    subst hvl
    by_cases hlt : k < n
    · obtain ⟨b, off, rfl, hbw, h6⟩ := HA.out.cells hlt
      have HX0 := Lib.hid (TK.out k hlt)
      obtain ⟨x, hx⟩ : ∃ x, atK bl k = x := ⟨_, rfl⟩
      rw [hx] at h6 HX0
      have G := Lib.hid (p := ∀ w', Below w.heap.size w w' → w'.cell? ⟨b, off + k * 5, none⟩ = some (.string x.key) ∧ w'.cell? ⟨b, off + k * 5 + 1, none⟩ = some (.int .i64 x.t) ∧ w'.cell? ⟨b, off + k * 5 + 2, none⟩ = some (.int .i64 x.i) ∧ w'.cell? ⟨b, off + k * 5 + 3, none⟩ = some (.int .i64 x.q) ∧ w'.cell? ⟨b, off + k * 5 + 4, none⟩ = some (.string x.o)) (fun w' hb => (h6.keptS (keptBelow hb) (by omega) : CellsK w' b (off + k * 5) x))
      have hz := hB.out.size
      have HDR := Lib.hid (drewD wr)
      have NEW := Lib.hid (fun w => new_fiveN w x)
      obtain ⟨p0, p1, p2, p3, p4⟩ := G.out _ hB.out
      have hTn : T.length ≤ 1000 := by omega
      clear h6 hx
      go_upto_region 5 with fail
      go_region_held3 (fun w' => w'.cell? ⟨b, off + k * 5, none⟩ = some (.string x.key) ∧ w'.cell? ⟨b, off + k * 5 + 1, none⟩ = some (.int .i64 x.t) ∧ w'.cell? ⟨b, off + k * 5 + 2, none⟩ = some (.int .i64 x.i) ∧ w'.cell? ⟨b, off + k * 5 + 3, none⟩ = some (.int .i64 x.q) ∧ w'.cell? ⟨b, off + k * 5 + 4, none⟩ = some (.string x.o)) (first | assumption | exact ⟨p0, p1, p2, p3, p4⟩ | exact cc2 | exact cc3 | (refine ⟨?_, ?_, ?_, ?_, ?_⟩ <;> (first | assumption | (go_keep; done)))) (first
        | (go_at_call 51
           with_reducible refine (of3_any x.t x.i x.q x.o _).mono ?_
           rintro e w2 ⟨rfl, hb⟩
           have B2 := Lib.hid (hB.out.trans ((HDR.out.trans hb).mono hz))
           have O2 := Lib.hid (hO.out.below (HDR.out.trans hb))
           have cc2 := G.out _ B2.out
           clear hb)
        | (refine step_append_one rfl (.tmp 11) (.tmp 24) 66 rfl (base := w.heap.size) und hi hz0 hz1 hz2 rfl (by decide) (.slice va T.length vc) T.length (T.flatMap fiveK) (fiveK x) ⟨w2.heap.size, 0, none⟩ 1 (by first | (simp [Act.eval]; done) | fail) (by first | (simp [Act.eval]; done) | fail) (World.ownsRow.alloc O2.out _) rfl (NEW.out w2) (fiveK_one x) (by unfold maxLen; omega) (by omega) (by have := B2.out.size; simp; omega) ?_
           intro v3 w3 ho hg
           have O3 := Lib.hid ho
           have B3 := Lib.hid ((B2.out.alloc B2.out.size (.cells #[.string x.key, .int .i64 x.t, .int .i64 x.i, .int .i64 x.q, .string x.o] 74)).grown hg (by have := B2.out.size; simp; omega) (fun q hq => (O2.out.lt q hq).1))
           have cc3 := G.out _ B3.out
           clear ho hg)
        | fail)
      obtain ⟨va', vc', rfl⟩ := own_rowG O3.out
      have O4 : Hid (OwnN w3 w.heap.size (.slice va' (T.length + 1) vc') (T ++ [x])) := Lib.hid (by unfold OwnN; rw [List.length_append, List.flatMap_append]; simpa using O3.out)
      have M4 := Lib.hid (show T ++ [x] = bl.take (k + 1) by rw [HX0.out]; exact congrArg (· ++ [x]) hM.out)
      clear O3 O2 B2 p0 p1 p2 p3 p4 cc2 cc3 hM
      go_wp2_with fail
      go_roundw
      case rel => exact ⟨k + 1, T ++ [x], va', T.length + 1, vc', rfl, by go_num, by omega, by rw [List.length_append]; rfl, by rw [List.length_append]; show T.length + 1 ≤ k + 1; omega, M4, O4, B3⟩
      case measure => simp [intOf]; omega
    · obtain rfl : k = n := by omega
      have P := Lib.hid (RD.out wr va T.length vc (by have h1 := hM.out; rw [TL.out] at h1; have h2 := hO.out; rw [h1] at h2 ⊢; exact h2) hB.out)
      go_wp2_with fail
      go_ret
      exact P.out

end Go.Proofs.YtijoljpblfjeiaaGreat
