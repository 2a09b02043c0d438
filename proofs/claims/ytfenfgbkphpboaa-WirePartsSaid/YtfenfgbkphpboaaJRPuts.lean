/-
  No statement: the document's own code puts a row.
-/
import Derived.Test.YtfenfgbkphpboaaJBook
import Derived.Test.YtfenfgbkphpboaaRPut
import Derived.Deep.RegionHeld3
import Derived.Test.YtfenfgbkphpboaaJEncs
namespace Go.Proofs.Ytfenfgbkphpboaa
open Go.RowKit

theorem putT_eq (s : ByteArray) : encI (s.size : Nat) ++ s.data.toList = encTB s := rfl

/-- Bytes that the call owns, their length in n. -/
theorem appB {w : World} {B n m : Nat} {v : Value} {l r : List UInt8} (h : w.ownsRow B 5 1 v (n + m) (bC l ++ bC r)) : n + m = (l ++ r).length ∧ OwnB w B v (l ++ r) := by
  rw [← bC_app] at h
  have hm := own_row_len h
  exact ⟨hm, by unfold OwnB; rw [← hm]; exact h⟩

theorem owns_low {w w' : World} {base : Nat} {e : TypeId} {size : Nat} {v : Value} {n : Nat} {xs : List Value} (h : w.ownsRow base e size v n xs) (hb : Below w.heap.size w w') : w'.ownsRow base e size v n xs :=
  World.ownsRow.kept (row := none) h ⟨hb.os, hb.tape, hb.output, hb.size, fun k hk _ => hb.block k hk⟩ (by cases v.ownBlock <;> simp)

set_option maxHeartbeats 8000000 in
set_option maxRecDepth 100000 in
theorem rPutValue_any (x : AD) (y : Option Addr) (c : Nat) (hf : FewA x) (hn : NumA x) (w : World) (hr : Reads w y x.len x.z) :
    Calls Try.prog 11 #[.agg #[.int .i64 x.k, .int .i64 x.n, .string x.s, .slice y x.len c]] w (OutB w (encV x)) := by
  obtain ⟨i0, hi, hz0, hz1, hz2⟩ := info_parts infoB
  have und := undB
  obtain ⟨m0, kd, n, s, len, z⟩ := x
  obtain ⟨hf1, hf2, hf3⟩ := hf
  obtain ⟨hn1, hn2, hn3⟩ := hn
  simp only at hf1 hf2 hf3 hn1 hn2 hn3 hr ⊢
  have PI := Lib.hid (fun n (hn : In64 n) w => rPutInt_any n hn.1 hn.2 w)
  have HX := Lib.hid (show encV ⟨m0, kd, n, s, len, z⟩ = encI kd ++ (if kd = 1 then encI n else if kd = 2 then encTB s else if kd = 3 then encI (len : Nat) ++ encs (upTo z len) else []) from rfl)
  have h10 := encI_len10 hn1
  have h11 := encI_len10 hn2
  have h12 := encTB_len (s := s) (by omega)
  have h13 := encI_lenN (n := len) (by omega)
  have HLL := Lib.hid (encs_len hn3)
  obtain ⟨X, hX⟩ : ∃ X, encV ⟨m0, kd, n, s, len, z⟩ = X := ⟨_, rfl⟩
  rw [hX] at HX ⊢
  have HN1 := Lib.hid hn1
  have HN2 := Lib.hid hn2
  have HN3 := Lib.hid hn3
  clear hX hn1 hn2 hn3
  go_enter Try.func11, Try.ntmps11
  go_upto_region 1 with fail
  generalize hW : World.alloc w _ = W
  have B0 := Lib.hid (show Below w.heap.size w W by rw [← hW]; exact below_new w _)
  have X0 := Lib.hid (show W.heap[w.heap.size]? = some (.cells #[.int .i64 kd, .int .i64 n, .string s, .slice y len c] 43 (0, 0)) by rw [← hW]; exact heap_alloc_new w _)
  have R0 := Lib.hid (hr.kept B0.out)
  obtain ⟨⟨x0, x1, x2, x3⟩, -⟩ := four X0.out
  clear hW hr
  go_wp2_with fail
  refine (PI.out kd HN1.out W).mono ?_
  rintro e w2 ⟨a2, c2, rfl, ho, hb⟩
  have B2 := Lib.hid (B0.out.trans (hb.mono B0.out.size))
  have O2 := Lib.hid (ho.mono B0.out.size)
  have Q2 := Lib.hid (And.intro ho hb)
  have X2 := Lib.hid ((hb.block _ (lt_of_block X0.out)).trans X0.out)
  have R2 := Lib.hid (R0.out.kept hb)
  obtain ⟨E1, hE1⟩ : ∃ E, encI kd = E := ⟨_, rfl⟩
  rw [hE1] at O2 HX h10 Q2
  try rw [hE1]
  clear ho hb x0 x1 x2 x3 hE1
  obtain ⟨⟨x0, x1, x2, x3⟩, -⟩ := four X2.out
  by_cases h1 : kd = 1
  · subst h1
    go_wp2_with fail
    refine (PI.out n HN2.out w2).mono ?_
    rintro e w3 ⟨a3, c3, rfl, ho, hb⟩
    have B3 := Lib.hid (B2.out.trans (hb.mono B2.out.size))
    have O3 := Lib.hid (O2.out.below hb)
    have F3 := Lib.hid ho.br.from
    clear ho hb
    go_wp2_with (at_builtin; refine wpList_append_from rfl _ _ 36 rfl und hi hz0 hz1 hz2 rfl _ _ E1.length (encI n).length (bC E1) (bC (encI n)) rfl rfl O3.out F3.out (bC_one _) (by unfold maxLen; omega) (by omega) B3.out.size ?_)
    intro v' w5 ho hg hnn
    obtain ⟨va, vc, rfl⟩ := own_row_slice ho
    have P := Lib.hid (show OutB w X (.returned (.slice va (E1.length + (encI n).length) vc)) w5 by
      obtain ⟨hm, h⟩ := appB ho
      rw [hm, HX.out, if_pos trivial]
      rw [hm] at h
      exact ⟨va, vc, rfl, h, B3.out.grown hg B3.out.size (fun q hq => (O3.out.lt q hq).1)⟩)
    clear ho hg hnn
    go_wp2_with fail
    go_ret
    exact P.out
  by_cases h2 : kd = 2
  · subst h2
    clear h1
    go_wp2_with fail
    refine (rPutText_any s (by omega) w2).mono ?_
    rintro e w3 ⟨a3, c3, rfl, ho, hb⟩
    rw [putT_eq] at ho
    try rw [putT_eq]
    have B3 := Lib.hid (B2.out.trans (hb.mono B2.out.size))
    have O3 := Lib.hid (O2.out.below hb)
    have F3 := Lib.hid ho.br.from
    clear ho hb
    go_wp2_with (at_builtin; refine wpList_append_from rfl _ _ 36 rfl und hi hz0 hz1 hz2 rfl _ _ E1.length (encTB s).length (bC E1) (bC (encTB s)) rfl rfl O3.out F3.out (bC_one _) (by unfold maxLen; omega) (by omega) B3.out.size ?_)
    intro v' w5 ho hg hnn
    obtain ⟨va, vc, rfl⟩ := own_row_slice ho
    have P := Lib.hid (show OutB w X (.returned (.slice va (E1.length + (encTB s).length) vc)) w5 by
      obtain ⟨hm, h⟩ := appB ho
      rw [hm, HX.out, if_neg (by decide), if_pos trivial]
      rw [hm] at h
      exact ⟨va, vc, rfl, h, B3.out.grown hg B3.out.size (fun q hq => (O3.out.lt q hq).1)⟩)
    clear ho hg hnn
    go_wp2_with fail
    go_ret
    exact P.out
  by_cases h3 : kd = 3
  · subst h3
    clear h1 h2
    go_wp2_with fail
    refine (PI.out (len : Nat) ⟨by omega, by omega⟩ w2).mono ?_
    rintro e w3 ⟨a3, c3, rfl, ho, hb⟩
    have B3 := Lib.hid (Q2.out.2.trans (hb.mono Q2.out.2.size))
    have O3 := Lib.hid (Q2.out.1.below hb)
    have F3 := Lib.hid ho.br.from
    clear ho hb O2 Q2 B2 X2 R2 x0 x1 x2 x3
    go_wp2_with (at_builtin; refine wpList_append_from rfl _ _ 36 rfl und hi hz0 hz1 hz2 rfl _ _ E1.length (encI (len : Nat)).length (bC E1) (bC (encI (len : Nat))) rfl rfl O3.out F3.out (bC_one _) (by unfold maxLen; omega) (by omega) B3.out.size ?_)
    intro v' w5 ho hg hnn
    obtain ⟨va, vc, rfl⟩ := own_row_slice ho
    obtain ⟨hm, hO⟩ := appB ho
    have B5 := Lib.hid (B3.out.grown hg B3.out.size (fun q hq => (O3.out.lt q hq).1))
    obtain ⟨m, hmm⟩ : ∃ m, E1.length + (encI (len : Nat)).length = m := ⟨_, rfl⟩
    rw [hmm] at hm hO
    rw [hmm]
    have hm20 : m ≤ 20 := by omega
    obtain ⟨E2, hE2⟩ : ∃ E, E1 ++ encI (len : Nat) = E := ⟨_, rfl⟩
    rw [hE2] at hO hm
    have O5 := Lib.hid (show w5.ownsRow W.heap.size 5 1 (.slice va m vc) m (bC (E2 ++ encs (upTo z 0))) by
      have e : E2 ++ encs (upTo z 0) = E2 := by simp [upTo, encs]
      rw [e]
      exact hO.row hm)
    have HX2 := Lib.hid (show X = E2 ++ encs (upTo z len) by rw [HX.out, if_neg (by decide), if_neg (by decide), if_pos trivial, ← hE2, List.append_assoc])
    have HM := Lib.hid hm
    clear ho hg hnn hO hmm hE2 hm O3 F3 B3
    go_wp2_with fail
    go_loopw [3, 4] (fun v i wr => ∃ (k q : Nat) (va : Option Addr) (vc : Nat), v = .slice va q vc ∧ q ≤ 20 + 10 * k ∧ i = .int .i64 k ∧ k ≤ len ∧ Hid (wr.ownsRow W.heap.size 5 1 (.slice va q vc) q (bC (E2 ++ encs (upTo z k)))) ∧ Hid (Below W.heap.size W wr)) (fun _ i _ => len - (intOf i).toNat)
    case atStart => exact ⟨0, m, va, vc, rfl, by omega, rfl, Nat.zero_le _, O5, B5⟩
    case round =>
      obtain ⟨k, q, va, vc, rfl, hq, rfl, hk, hO, hB⟩ := hrel
      clear O5 B5
      have hX := (hB.out.block _ (lt_of_block X0.out)).trans X0.out
      obtain ⟨⟨-, -, -, x3⟩, -⟩ := four hX
      clear hX
      by_cases hlt : k < len
      · obtain ⟨b, off, rfl, hc⟩ := (R0.out.kept hB.out).2.resolve_left (by omega)
        have c0 := hc k hlt
        have hzk := HN3.out k
        have hl1 := encI_len10 hzk
        obtain ⟨u, hu⟩ : ∃ u, z k = u := ⟨_, rfl⟩
        have hnx : E2 ++ encs (upTo z k) ++ encI u = E2 ++ encs (upTo z (k + 1)) := by rw [upTo_succ, encs_app, encs_one, List.append_assoc, hu]
        rw [hu] at c0 hzk hl1
        have NX := Lib.hid hnx
        have C := Lib.hid (PI.out u hzk wr)
        clear hc hu hnx hzk
        go_wp2_with fail
        refine C.out.mono ?_
        rintro e w6 ⟨a6, c6, rfl, ho, hb⟩
        have B6 := Lib.hid (hB.out.trans (hb.mono hB.out.size))
        have O6 := Lib.hid (owns_low hO.out hb)
        have F6 := Lib.hid ho.br.from
        clear ho hb c0 C
        go_wp2_with (at_builtin; refine wpList_append_from rfl _ _ 36 rfl und hi hz0 hz1 hz2 rfl _ _ q (encI u).length (bC (E2 ++ encs (upTo z k))) (bC (encI u)) rfl rfl O6.out F6.out (bC_one _) (by unfold maxLen; omega) (by omega) B6.out.size ?_)
        intro v' w7 ho hg hnn
        obtain ⟨va', vc', rfl⟩ := own_row_slice ho
        have B7 := Lib.hid (B6.out.grown hg B6.out.size (fun q hq => (O6.out.lt q hq).1))
        rw [← bC_app, NX.out] at ho
        have O7 := Lib.hid ho
        clear ho hg hnn O6 F6 B6 x3
        go_wp2_with fail
        go_roundw
        case rel => exact ⟨k + 1, _, va', vc', rfl, by omega, by go_num, by omega, O7, B7⟩
        case measure => simp [intOf]; omega
      · obtain rfl : k = len := by omega
        have hml := own_row_len hO.out
        have P := Lib.hid (show OutB w X (.returned (.slice va q vc)) wr by
          rw [HX2.out]
          have h := hO.out
          rw [hml] at h ⊢
          exact ⟨va, vc, rfl, OwnB.mono h B0.out.size, B0.out.trans (hB.out.mono B0.out.size)⟩)
        clear hml
        go_wp2_with fail
        go_ret
        exact P.out
  have e1 : (kd == 1) = false := by simpa using h1
  have e2 : (kd == 2) = false := by simpa using h2
  have e3 : (kd == 3) = false := by simpa using h3
  have P := Lib.hid (show OutB w X (.returned (.slice a2 E1.length c2)) w2 by
    rw [HX.out, if_neg h1, if_neg h2, if_neg h3, List.append_nil]
    exact ⟨a2, c2, rfl, O2.out, B2.out⟩)
  clear h1 h2 h3
  go_wp2_with fail
  go_ret
  exact P.out

set_option maxHeartbeats 8000000 in
set_option maxRecDepth 100000 in
theorem rPutStamp_any (t i q : Int) (o : ByteArray) (ht : In64 t) (hi' : In64 i) (hq : In64 q) (ho' : o.size ≤ 1000) (w : World) :
    Calls Try.prog 13 #[.agg #[.int .i64 t, .int .i64 i, .int .i64 q, .string o]] w (OutB w (encSt t i q o)) := by
  obtain ⟨i0, hi, hz0, hz1, hz2⟩ := info_parts infoB
  have und := undB
  have PT := Lib.hid (fun w => rPutInt_any t ht.1 ht.2 w)
  have PI := Lib.hid (fun w => rPutInt_any i hi'.1 hi'.2 w)
  have PQ := Lib.hid (fun w => rPutInt_any q hq.1 hq.2 w)
  have h1 := encI_len10 ht
  have h2 := encI_len10 hi'
  have h3 := encI_len10 hq
  have h4 := encTB_len (s := o) (by omega)
  have HX := Lib.hid (show encSt t i q o = encI t ++ encI i ++ encI q ++ encTB o from rfl)
  obtain ⟨X, hX⟩ : ∃ X, encSt t i q o = X := ⟨_, rfl⟩
  obtain ⟨T, hT⟩ : ∃ T, encI t = T := ⟨_, rfl⟩
  obtain ⟨I, hI⟩ : ∃ T, encI i = T := ⟨_, rfl⟩
  obtain ⟨Q, hQ⟩ : ∃ T, encI q = T := ⟨_, rfl⟩
  rw [hX, hT, hI, hQ] at HX
  rw [hX]
  rw [hT] at PT h1
  rw [hI] at PI h2
  rw [hQ] at PQ h3
  clear hX hT hI hQ ht hi' hq
  go_enter Try.func13, Try.ntmps13
  go_upto_region 1 with fail
  generalize hW : World.alloc w _ = W
  have B0 := Lib.hid (show Below w.heap.size w W by rw [← hW]; exact below_new w _)
  have X0 := Lib.hid (show W.heap[w.heap.size]? = some (.cells #[.int .i64 t, .int .i64 i, .int .i64 q, .string o] 46 (0, 0)) by rw [← hW]; exact heap_alloc_new w _)
  have XK := Lib.hid (p := ∀ w', Below W.heap.size W w' → w'.cell? ⟨w.heap.size, 0, none⟩ = some (.int .i64 t) ∧ w'.cell? ⟨w.heap.size, 1, none⟩ = some (.int .i64 i) ∧ w'.cell? ⟨w.heap.size, 2, none⟩ = some (.int .i64 q) ∧ w'.cell? ⟨w.heap.size, 3, none⟩ = some (.string o)) (fun w' hb => (four ((hb.block _ (lt_of_block X0.out)).trans X0.out)).1)
  have cc := XK.out W (Below.refl _ _)
  obtain ⟨x0, x1, x2, x3⟩ := cc
  have HDR := Lib.hid (show Below W.heap.size W W.drew from ⟨rfl, rfl, rfl, Nat.le_refl _, fun _ _ => rfl⟩)
  clear hW
  go_region_held3 (fun w' => w'.cell? ⟨w.heap.size, 0, none⟩ = some (.int .i64 t) ∧ w'.cell? ⟨w.heap.size, 1, none⟩ = some (.int .i64 i) ∧ w'.cell? ⟨w.heap.size, 2, none⟩ = some (.int .i64 q) ∧ w'.cell? ⟨w.heap.size, 3, none⟩ = some (.string o)) (first | assumption | (refine ⟨?_, ?_, ?_, ?_⟩ <;> (first | assumption | (go_keep; done)))) (first
    | (go_at_call 39
       with_reducible refine (PT.out _).mono ?_
       rintro e w2 ⟨a2, c2, rfl, ho, hb⟩
       have B2 := Lib.hid (HDR.out.trans hb)
       have O2 := Lib.hid (show OwnB w2 W.heap.size (.slice a2 T.length c2) T from ho)
       have cc := XK.out _ B2.out
       clear ho hb)
    | (go_at_call 39
       with_reducible refine (PI.out _).mono ?_
       rintro e w3 ⟨a3, c3, rfl, ho, hb⟩
       have B3 := Lib.hid (B2.out.trans (hb.mono B2.out.size))
       have O3 := Lib.hid (O2.out.below hb)
       have F3 := Lib.hid ho.br.from
       have cc := XK.out _ B3.out
       clear ho hb)
    | (refine step_append_from rfl (.tmp 6) (.tmp 9) 36 rfl (base := W.heap.size) und hi hz0 hz1 hz2 rfl (.slice a2 T.length c2) (.slice a3 I.length c3) T.length I.length (bC T) (bC I) (by first | (simp [Act.eval]; done) | fail) (by first | (simp [Act.eval]; done) | fail) O3.out F3.out (bC_one _) (by unfold maxLen; omega) (by omega) B3.out.size ?_
       intro v' w4 ho hg hnn
       obtain ⟨hm, hO⟩ := appB ho
       have B4 := Lib.hid (B3.out.grown hg B3.out.size (fun q hq => (O3.out.lt q hq).1))
       have O4 := Lib.hid (And.intro hm hO)
       have cc := XK.out _ B4.out
       clear ho hg hnn hm hO)
    | fail)
  obtain ⟨n4, hn4⟩ : ∃ n, (T ++ I).length = n := ⟨_, rfl⟩
  have hn4' : n4 ≤ 20 := by rw [← hn4, List.length_append]; omega
  obtain ⟨a4, c4, rfl⟩ := O4.out.2.slice
  have O5 := Lib.hid (show w4.ownsRow W.heap.size 5 1 (.slice a4 n4 c4) n4 (bC (T ++ I)) by have := O4.out.2; rw [hn4] at this; exact this.row hn4.symm)
  try rw [hn4]
  obtain ⟨x0, x1, x2, x3⟩ := cc
  clear O4 O3 O2 F3 B3 B2 HDR hn4
  go_wp2_with fail
  refine (PQ.out _).mono ?_
  rintro e w5 ⟨a5, c5, rfl, ho, hb⟩
  have B5 := Lib.hid (B4.out.trans (hb.mono B4.out.size))
  have O6 := Lib.hid (owns_low O5.out hb)
  have F6 := Lib.hid ho.br.from
  clear ho hb x0 x1 x2 x3
  go_wp2_with (at_builtin; refine wpList_append_from rfl _ _ 36 rfl und hi hz0 hz1 hz2 rfl _ _ n4 Q.length (bC (T ++ I)) (bC Q) rfl rfl O6.out F6.out (bC_one _) (by unfold maxLen; omega) (by omega) B5.out.size ?_)
  intro v' w6 ho hg hnn
  obtain ⟨va, vc, rfl⟩ := own_row_slice ho
  have B6 := Lib.hid (B5.out.grown hg B5.out.size (fun q hq => (O6.out.lt q hq).1))
  obtain ⟨n6, hn6⟩ : ∃ n, n4 + Q.length = n := ⟨_, rfl⟩
  have hn6' : n6 ≤ 30 := by omega
  rw [← bC_app, hn6] at ho
  try rw [hn6]
  have O7 := Lib.hid ho
  clear ho hg hnn O6 F6 B5 B4 O5 hn6
  have cc := XK.out _ B6.out
  obtain ⟨x0, x1, x2, x3⟩ := cc
  go_wp2_with fail
  refine (rPutText_any o (by omega) _).mono ?_
  rintro e w7 ⟨a7, c7, rfl, ho, hb⟩
  rw [putT_eq] at ho
  try rw [putT_eq]
  have B7 := Lib.hid (B6.out.trans (hb.mono B6.out.size))
  have O8 := Lib.hid (owns_low O7.out hb)
  have F8 := Lib.hid ho.br.from
  clear ho hb x0 x1 x2 x3
  go_wp2_with (at_builtin; refine wpList_append_from rfl _ _ 36 rfl und hi hz0 hz1 hz2 rfl _ _ n6 (encTB o).length (bC (T ++ I ++ Q)) (bC (encTB o)) rfl rfl O8.out F8.out (bC_one _) (by unfold maxLen; omega) (by omega) B7.out.size ?_)
  intro v' w8 ho hg hnn
  obtain ⟨va', vc', rfl⟩ := own_row_slice ho
  have P := Lib.hid (show OutB w X (.returned (.slice va' (n6 + (encTB o).length) vc')) w8 by
    have B8 := B7.out.grown hg B7.out.size (fun q hq => (O8.out.lt q hq).1)
    obtain ⟨hm, h⟩ := appB ho
    rw [hm, HX.out, List.append_assoc T I Q]
    rw [hm] at h
    exact ⟨va', vc', rfl, h.mono B0.out.size, B0.out.trans (B8.mono B0.out.size)⟩)
  clear ho hg hnn
  go_wp2_with fail
  go_ret
  exact P.out

end Go.Proofs.Ytfenfgbkphpboaa

namespace Go.Proofs.Ytfenfgbkphpboaa
open Go.RowKit

set_option maxHeartbeats 8000000 in
set_option maxRecDepth 100000 in
theorem rPutRow_any (x : RD) (a : Option Addr) (c : Nat) (hx : FewR x) (w : World) (hr : ReadsA w a x.len x.A) :
    Calls Try.prog 15 #[.agg #[.string x.key, .int .i64 x.t, .int .i64 x.i, .int .i64 x.q, .string x.o, .slice a x.len c]] w (OutB w (encR x)) := by
  obtain ⟨i0, hi, hz0, hz1, hz2⟩ := info_parts infoB
  have und := undB
  have HN := Lib.hid (show ∀ j, j < x.len → FewA (x.A j) ∧ NumA (x.A j) from fun j hj => ⟨hx.f j hj, hx.n j hj⟩)
  have HX := Lib.hid (show encR x = encTB x.key ++ encSt x.t x.i x.q x.o ++ encI (x.len : Nat) ++ encAs (tkA x.A x.len) from rfl)
  have PK := Lib.hid (p := ∀ w, Calls Try.prog 40 #[.string x.key] w (OutB w (encTB x.key))) (fun w => rPutText_any x.key (by have := hx.k; omega) w)
  have PS := Lib.hid (fun w => rPutStamp_any x.t x.i x.q x.o hx.t hx.i hx.q (by have := hx.o; omega) w)
  have PL := Lib.hid (fun w => rPutInt_any (x.len : Nat) (by omega) (by have := hx.l; omega) w)
  have h1 := encTB_len (s := x.key) (by have := hx.k; omega)
  have h1' := hx.k
  have h2 := encSt_len hx.t hx.i hx.q hx.o
  have h3 := encI_lenN (n := x.len) (by have := hx.l; omega)
  have hl := hx.l
  obtain ⟨key, t, i, q, o, len, A⟩ := x
  simp only at HN HX PK PS PL h1 h1' h2 h3 hl hr ⊢
  obtain ⟨X, hX⟩ : ∃ X, encR ⟨key, t, i, q, o, len, A⟩ = X := ⟨_, rfl⟩
  obtain ⟨T, hT⟩ : ∃ T, encTB key = T := ⟨_, rfl⟩
  obtain ⟨I, hI⟩ : ∃ T, encSt t i q o = T := ⟨_, rfl⟩
  obtain ⟨Q, hQ⟩ : ∃ T, encI (len : Nat) = T := ⟨_, rfl⟩
  rw [hX, hT, hI, hQ] at HX
  rw [hX]
  rw [hT] at PK h1
  rw [hI] at PS h2
  rw [hQ] at PL h3
  clear hX hT hI hQ hx
  go_enter Try.func15, Try.ntmps15
  go_upto_region 1 with fail
  generalize hW : World.alloc w _ = W
  have B0 := Lib.hid (show Below w.heap.size w W by rw [← hW]; exact below_new w _)
  have X0 := Lib.hid (show W.heap[w.heap.size]? = some (.cells #[.string key, .int .i64 t, .int .i64 i, .int .i64 q, .string o, .slice a len c] 51 (0, 0)) by rw [← hW]; exact heap_alloc_new w _)
  have R0 := Lib.hid (hr.kept B0.out)
  have XK := Lib.hid (p := ∀ w', Below W.heap.size W w' → w'.cell? ⟨w.heap.size, 0, none⟩ = some (.string key) ∧ w'.cell? ⟨w.heap.size, 1, none⟩ = some (.int .i64 t) ∧ w'.cell? ⟨w.heap.size, 2, none⟩ = some (.int .i64 i) ∧ w'.cell? ⟨w.heap.size, 3, none⟩ = some (.int .i64 q) ∧ w'.cell? ⟨w.heap.size, 4, none⟩ = some (.string o) ∧ w'.cell? ⟨w.heap.size, 5, none⟩ = some (.slice a len c)) (fun w' hb => box6 ((hb.block _ (lt_of_block X0.out)).trans X0.out))
  have cc := XK.out W (Below.refl _ _)
  obtain ⟨x0, x1, x2, x3, x4, x5⟩ := cc
  have HDR := Lib.hid (show Below W.heap.size W W.drew from ⟨rfl, rfl, rfl, Nat.le_refl _, fun _ _ => rfl⟩)
  clear hW hr
  go_region_held3 (fun w' => w'.cell? ⟨w.heap.size, 0, none⟩ = some (.string key) ∧ w'.cell? ⟨w.heap.size, 1, none⟩ = some (.int .i64 t) ∧ w'.cell? ⟨w.heap.size, 2, none⟩ = some (.int .i64 i) ∧ w'.cell? ⟨w.heap.size, 3, none⟩ = some (.int .i64 q) ∧ w'.cell? ⟨w.heap.size, 4, none⟩ = some (.string o) ∧ w'.cell? ⟨w.heap.size, 5, none⟩ = some (.slice a len c)) (first | assumption | (refine ⟨?_, ?_, ?_, ?_, ?_, ?_⟩ <;> (first | assumption | (go_keep; done)))) (first
    | (go_at_call 40
       with_reducible refine (PK.out _).mono ?_
       rintro e w2 ⟨a2, c2, rfl, ho, hb⟩
       have B2 := Lib.hid (HDR.out.trans hb)
       have O2 := Lib.hid (show OwnB w2 W.heap.size (.slice a2 T.length c2) T from ho)
       have cc := XK.out _ B2.out
       clear ho hb)
    | (go_at_call 13
       with_reducible refine (PS.out _).mono ?_
       rintro e w3 ⟨a3, c3, rfl, ho, hb⟩
       have B3 := Lib.hid (B2.out.trans (hb.mono B2.out.size))
       have O3 := Lib.hid (O2.out.below hb)
       have F3 := Lib.hid ho.br.from
       have cc := XK.out _ B3.out
       clear ho hb)
    | (refine step_append_from rfl (.tmp 7) (.tmp 10) 36 rfl (base := W.heap.size) und hi hz0 hz1 hz2 rfl (.slice a2 T.length c2) (.slice a3 I.length c3) T.length I.length (bC T) (bC I) (by first | (simp [Act.eval]; done) | fail) (by first | (simp [Act.eval]; done) | fail) O3.out F3.out (bC_one _) (by unfold maxLen; omega) (by omega) B3.out.size ?_
       intro v' w4 ho hg hnn
       obtain ⟨hm, hO⟩ := appB ho
       have B4 := Lib.hid (B3.out.grown hg B3.out.size (fun q hq => (O3.out.lt q hq).1))
       have O4 := Lib.hid (And.intro hm hO)
       have cc := XK.out _ B4.out
       clear ho hg hnn hm hO)
    | fail)
  obtain ⟨n4, hn4⟩ : ∃ n, (T ++ I).length = n := ⟨_, rfl⟩
  have hn4' : n4 ≤ 250 := by rw [← hn4, List.length_append]; omega
  obtain ⟨a4, c4, rfl⟩ := O4.out.2.slice
  have O5 := Lib.hid (show w4.ownsRow W.heap.size 5 1 (.slice a4 n4 c4) n4 (bC (T ++ I)) by have := O4.out.2; rw [hn4] at this; exact this.row hn4.symm)
  try rw [hn4]
  obtain ⟨x0, x1, x2, x3, x4, x5⟩ := cc
  clear O4 O3 O2 F3 B3 B2 HDR hn4 PK PS
  go_wp2_with fail
  refine (PL.out _).mono ?_
  rintro e w5 ⟨a5, c5, rfl, ho, hb⟩
  have B5 := Lib.hid (B4.out.trans (hb.mono B4.out.size))
  have O6 := Lib.hid (owns_low O5.out hb)
  have F6 := Lib.hid ho.br.from
  clear ho hb x0 x1 x2 x3 x4 x5 PL
  go_wp2_with (at_builtin; refine wpList_append_from rfl _ _ 36 rfl und hi hz0 hz1 hz2 rfl _ _ n4 Q.length (bC (T ++ I)) (bC Q) rfl rfl O6.out F6.out (bC_one _) (by unfold maxLen; omega) (by omega) B5.out.size ?_)
  intro v' w6 ho hg hnn
  obtain ⟨va, vc, rfl⟩ := own_row_slice ho
  have B6 := Lib.hid (B5.out.grown hg B5.out.size (fun q hq => (O6.out.lt q hq).1))
  obtain ⟨n6, hn6⟩ : ∃ n, n4 + Q.length = n := ⟨_, rfl⟩
  have hn6' : n6 ≤ 300 := by omega
  obtain ⟨U, hU⟩ : ∃ U, T ++ I ++ Q = U := ⟨_, rfl⟩
  have O7 := Lib.hid (show w6.ownsRow W.heap.size 5 1 (.slice va n6 vc) n6 (bC (U ++ encAs (tkA A 0))) by
    have e : U ++ encAs (tkA A 0) = T ++ I ++ Q := by rw [← hU]; simp [tkA, fromA, encAs]
    obtain ⟨hm, h⟩ := appB ho
    rw [hn6] at hm h
    rw [e]
    exact h.row hm)
  have HXU := Lib.hid (show X = U ++ encAs (tkA A len) by rw [HX.out, hU])
  try rw [hn6]
  clear ho hg hnn O6 F6 B5 B4 O5 hn6 hU
  go_wp2_with fail
  go_loopw [3, 4] (fun v i wr => ∃ (k q : Nat) (va : Option Addr) (vc : Nat), v = .slice va q vc ∧ q ≤ 300 + 530 * k ∧ i = .int .i64 k ∧ k ≤ len ∧ Hid (wr.ownsRow W.heap.size 5 1 (.slice va q vc) q (bC (U ++ encAs (tkA A k)))) ∧ Hid (Below W.heap.size W wr)) (fun _ i _ => len - (intOf i).toNat)
  case atStart => exact ⟨0, n6, va, vc, rfl, by omega, rfl, Nat.zero_le _, O7, B6⟩
  case round =>
    obtain ⟨k, q7, va, vc, rfl, hq7, rfl, hk, hO, hB⟩ := hrel
    clear O7 B6
    have cc := XK.out _ hB.out
    obtain ⟨-, -, -, -, -, x5⟩ := cc
    by_cases hlt : k < len
    · obtain ⟨b, off, rfl, hc⟩ := (R0.out.kept hB.out).2.resolve_left (by omega)
      obtain ⟨y, ce, h5, hy⟩ := hc k hlt
      obtain ⟨hfk, hnk⟩ := HN.out k hlt
      have hnx : U ++ encAs (tkA A k) ++ encTB (A k).m ++ encV (A k) = U ++ encAs (tkA A (k + 1)) := by rw [tkA_succ, encAs_snoc]; unfold encA; simp only [List.append_assoc]
      obtain ⟨z, hz⟩ : ∃ z, A k = z := ⟨_, rfl⟩
      rw [hz] at h5 hy hfk hnk hnx
      have NX := Lib.hid hnx
      have hm1 := encTB_len (s := z.m) (by have := hfk.1; omega)
      have hm2 := encV_len hfk hnk
      have hm3 := hfk.1
      have PN := Lib.hid (p := Calls Try.prog 40 #[.string z.m] wr (OutB wr (encTB z.m))) (rPutText_any z.m (by omega) wr)
      have PV := Lib.hid (fun y ce w' (hy : Reads w' y z.len z.z) => rPutValue_any z y ce hfk hnk w' hy)
      have HZ := Lib.hid hz
      obtain ⟨p0, p1, p2, p3, p4⟩ := h5
      obtain ⟨M, hM⟩ : ∃ M, encTB z.m = M := ⟨_, rfl⟩
      obtain ⟨V, hV⟩ : ∃ V, encV z = V := ⟨_, rfl⟩
      rw [hM] at PN hm1 NX
      rw [hV] at PV hm2 NX
      clear hc hz hnx hfk hnk hy hM hV
      go_wp2_with fail
      refine PN.out.mono ?_
      rintro e w8 ⟨a8, c8, rfl, ho, hb⟩
      have D8 := Lib.hid hb
      have O8 := Lib.hid (owns_low hO.out hb)
      have F8 := Lib.hid ho.br.from
      have hzw := hB.out.size
      clear ho hb PN p0 p1 p2 p3 p4 x5
      go_wp2_with (at_builtin; refine wpList_append_from rfl _ _ 36 rfl und hi hz0 hz1 hz2 rfl _ _ q7 M.length (bC (U ++ encAs (tkA A k))) (bC M) rfl rfl O8.out F8.out (bC_one _) (by unfold maxLen; omega) (by omega) (Nat.le_trans hzw D8.out.size) ?_)
      intro v' w9 ho hg hnn
      obtain ⟨v9, c9, rfl⟩ := own_row_slice ho
      have B9 := Lib.hid ((hB.out.trans (D8.out.mono hzw)).grown hg (Nat.le_trans hzw D8.out.size) (fun q hq => (O8.out.lt q hq).1))
      rw [← bC_app] at ho
      have O9 := Lib.hid ho
      have cc := XK.out _ B9.out
      obtain ⟨-, -, -, -, -, x5⟩ := cc
      obtain ⟨b', off', hbo, hc⟩ := (R0.out.kept B9.out).2.resolve_left (by omega)
      simp only [Option.some.injEq, Addr.mk.injEq, and_true] at hbo
      obtain ⟨rfl, rfl⟩ := hbo
      obtain ⟨y, ce, h5, hy⟩ := hc k hlt
      rw [HZ.out] at h5 hy
      obtain ⟨p0, p1, p2, p3, p4⟩ := h5
      have PV9 := Lib.hid (PV.out y ce w9 hy)
      obtain ⟨n9, hn9⟩ : ∃ n, q7 + M.length = n := ⟨_, rfl⟩
      have hn9' : n9 ≤ q7 + 110 := by omega
      rw [hn9] at O9
      try rw [hn9]
      clear ho hg hnn hc hy PV O8 F8 D8 HZ hn9
      go_wp2_with fail
      refine PV9.out.mono ?_
      rintro e w10 ⟨a10, c10, rfl, ho, hb⟩
      have B10 := Lib.hid (B9.out.trans (hb.mono B9.out.size))
      have O10 := Lib.hid (owns_low O9.out hb)
      have F10 := Lib.hid ho.br.from
      clear ho hb PV9 p0 p1 p2 p3 p4 x5
      go_wp2_with (at_builtin; refine wpList_append_from rfl _ _ 36 rfl und hi hz0 hz1 hz2 rfl _ _ n9 V.length (bC (U ++ encAs (tkA A k) ++ M)) (bC V) rfl rfl O10.out F10.out (bC_one _) (by unfold maxLen; omega) (by omega) B10.out.size ?_)
      intro v' w11 ho hg hnn
      obtain ⟨v11, c11, rfl⟩ := own_row_slice ho
      have B11 := Lib.hid (B10.out.grown hg B10.out.size (fun q hq => (O10.out.lt q hq).1))
      have O11 := Lib.hid (show w11.ownsRow W.heap.size 5 1 (.slice v11 (n9 + V.length) c11) (n9 + V.length) (bC (U ++ encAs (tkA A (k + 1)))) by
        obtain ⟨hm, h⟩ := appB ho
        rw [← List.append_assoc U (encAs (tkA A k)) M, NX.out] at hm h
        exact h.row hm)
      clear ho hg hnn O10 F10 B10 B9 O9
      go_wp2_with fail
      go_roundw
      case rel => exact ⟨k + 1, _, v11, c11, rfl, by omega, by go_num, by omega, O11, B11⟩
      case measure => simp [intOf]; omega
    · obtain rfl : k = len := by omega
      have hml := own_row_len hO.out
      have P := Lib.hid (show OutB w X (.returned (.slice va q7 vc)) wr by
        rw [HXU.out]
        have h := hO.out
        rw [hml] at h ⊢
        exact ⟨va, vc, rfl, OwnB.mono h B0.out.size, B0.out.trans (hB.out.mono B0.out.size)⟩)
      clear hml
      go_wp2_with fail
      go_ret
      exact P.out

end Go.Proofs.Ytfenfgbkphpboaa
