/-
  No statement: the contract of the document's Tokens.
-/
import Derived.Test.YteegdemnajhehaaGreatDoorLRTokA
namespace Go.Proofs.YteegdemnajhehaaGreatDoor
open Go.RowKit

theorem rtokInfo : (Tryz.prog.info? 63).map (fun i => (i.zero, i.size, i.bytes)) = some (some (.agg #[.int .i64 0, .string ⟨#[]⟩, .int .i64 0, .int .i64 0]), 4, 40) := by kernel_rfl

theorem run_drop_pos {q : UInt8 → Bool} {s : ByteArray} {k m : Nat} (hk : k < s.size) (h : q s[k] = true) (hr : runL q (s.data.toList.drop k) = m - k) : k < m := by
  rw [drop_at s hk] at hr
  have := run_pos (q := q) (r := s.data.toList.drop (k + 1)) h
  omega

abbrev rtO (k : Int) (s : ByteArray) (n p : Int) : Obj := .cells #[.int .i64 k, .string s, .int .i64 n, .int .i64 p] 63

theorem rnew (w : World) {t : Tk} {k : Int} {s : ByteArray} {n p : Int} (h : tkL t = [.int .i64 k, .string s, .int .i64 n, .int .i64 p]) : ∀ j u, (tkL t)[j]? = some u → (w.alloc (rtO k s n p)).cell? ((⟨w.heap.size, 0, none⟩ : Addr).add j) = some u := fun j u hj => by
  rw [h] at hj
  rw [Addr.add_lit, Nat.zero_add, cell_of_row _ _ _ _ _ (0, 0) (heap_alloc_new w _)]
  simpa using hj

theorem tk_cells (s : ByteArray) (k m : Nat) (kd nv : Int) : tkL ⟨kd, (s.data.toList.drop k).take (m - k), nv, k⟩ = [.int .i64 kd, .string (s.extract k m), .int .i64 nv, .int .i64 k] := by
  rw [← list_from]
  unfold tkL
  rfl

theorem data_len (s : ByteArray) : s.data.toList.length = s.size := by simp

theorem alnum_small {c : UInt8} (h : smallB c = true) : alnumB c = true := by unfold alnumB; rw [h]; rfl
theorem alnum_digit {c : UInt8} (h : digitB c = true) : alnumB c = true := by unfold alnumB; rw [h, Bool.or_true]
theorem alnum_not {c : UInt8} (h : smallB c = false) (h2 : digitB c = false) : alnumB c = false := by unfold alnumB; rw [h, h2]; rfl

set_option maxRecDepth 100000 in
set_option maxHeartbeats 40000000 in
theorem rTokens_any (s : ByteArray) (w : World) : Calls Tryz.prog 15 #[.string s] w (TokPost 63 (lexT s.data.toList) w) := by
  have hl : s.data.toList.length = s.size := by simp
  by_cases hlong : 1024 < s.size
  · have P := Lib.hid (show TokPost 63 (lexT s.data.toList) w (.returned (.tuple #[.slice none 0 0, .int .i64 0, .int .i64 4])) w from by
      unfold lexT
      rw [if_pos (by omega)]
      exact ⟨Below.refl _ _, rfl⟩)
    clear hl
    go_enter Tryz.func15, Tryz.ntmps15
    go_wp2_with fail
    go_ret3
    exact P.out
  have hm : s.size ≤ 281474976710656 := by omega
  obtain ⟨i0, hi, hz0, hz1, hz2⟩ := info_parts rtokInfo
  have und : Tryz.prog.underlying 38 = some (.slice 63) := Tryz.underlying38
  have hE : lexT s.data.toList = lexL s.data.toList 0 := by
    unfold lexT
    rw [if_neg (by omega)]
  rw [hE]
  obtain ⟨E, hEE⟩ : ∃ E, lexL s.data.toList 0 = E := ⟨_, rfl⟩
  rw [hEE]
  have K0 := Lib.hid (show (lexL (s.data.toList.drop 0) 0).after [] = E by rw [after_nil, List.drop_zero]; exact hEE)
  clear hE hEE hl
  go_enter Tryz.func15, Tryz.ntmps15
  go_wp2_with fail
  go_loopw [5, 6] (fun v i wr => ∃ (k : Nat) (va : Option Addr) (vc : Nat) (T : List Tk), v = .slice va T.length vc ∧ i = .int .i64 k ∧ k ≤ s.size ∧ T.length ≤ k ∧ Hid ((lexL (s.data.toList.drop k) k).after T = E) ∧ Hid (wr.ownsRow w.heap.size 63 4 (.slice va T.length vc) T.length (tksL T)) ∧ Hid (Below w.heap.size w wr)) (fun _ i _ => s.size - (intOf i).toNat)
  case atStart => exact ⟨0, none, 0, [], rfl, rfl, by omega, by simp, K0, Lib.hid (World.ownsRow_nil _ _ _ _), Lib.hid (Below.refl _ _)⟩
  case round =>
    obtain ⟨k, va, vc, T, rfl, rfl, hk, hTk, hE, hO, hB⟩ := hrel
    by_cases hlt : k < s.size
    · by_cases h32 : s[k] = 32
      · have q32 : ((s[k].toNat : Int) == 32) = true := byte_is (k := 32) (by decide) h32
        have E3 := Lib.hid (e_blank hlt h32 hE.out)
        clear h32
        go_wp2_with fail
        go_roundw
        case rel => exact ⟨k + 1, va, vc, T, rfl, by go_num, by omega, by omega, E3, hO, hB⟩
        case measure => simp [intOf]; omega
      have q32 : ((s[k].toNat : Int) == 32) = false := byte_no (k := 32) (by decide) h32
      have H32 := Lib.hid h32
      clear h32
      cases hs : smallB s[k] with
      | true =>
        have LK := Lib.hid (p := ∀ w, Calls Tryz.prog 34 #[.int .u8 s[k].toNat] w fun e w' => e = .returned (.bool true) ∧ w = w') (fun w => by have := rLetter_any s[k] w; rwa [hs] at this)
        have FF := Lib.hid (first_small hlt hs)
        have HA := Lib.hid (alnum_small hs)
        clear hs
        go_wp2_with (first | (go_at_call 34; refine (LK.out _).mono ?_; rintro e w' ⟨rfl, rfl⟩))
        go_loop [7] (fun v => ∃ m : Nat, k ≤ m ∧ m ≤ s.size ∧ v = .int .i64 m ∧ Hid (∀ j (h : j < s.size), k ≤ j → j < m → alnumB s[j] = true)) (fun v => s.size - (intOf v).toNat)
        case atStart => exact ⟨k, by omega, by omega, rfl, Lib.hid (fun j _ h1 h2 => by omega)⟩
        case round =>
          obtain ⟨m, hm1, hm2, rfl, hok⟩ := hrel
          by_cases hml : m < s.size
          · cases ha : smallB s[m] with
            | true =>
              have AL := alnum_small ha

              have hok1 := Lib.hid (show ∀ j (h : j < s.size), k ≤ j → j < m + 1 → alnumB s[j] = true from fun j hj h1 h2 => by
                by_cases e : j = m
                · subst e; exact AL
                · exact hok.out j hj h1 (by omega))
              have LM := Lib.hid (p := ∀ w, Calls Tryz.prog 34 #[.int .u8 s[m].toNat] w fun e w' => e = .returned (.bool true) ∧ w = w') (fun w => by have := rLetter_any s[m] w; rwa [ha] at this)
              clear ha AL
              go_wp2_with (first | (go_at_call 34; refine (LM.out _).mono ?_; rintro e w' ⟨rfl, rfl⟩))
              go_round
              case rel => exact ⟨m + 1, by omega, by omega, by go_num, hok1⟩
              case measure => simp [intOf]; omega
            | false =>
              cases hb : digitB s[m] with
              | true =>
                have AL := alnum_digit hb
                have hok1 := Lib.hid (show ∀ j (h : j < s.size), k ≤ j → j < m + 1 → alnumB s[j] = true from fun j hj h1 h2 => by
                  by_cases e : j = m
                  · subst e; exact AL
                  · exact hok.out j hj h1 (by omega))
                have LM := Lib.hid (p := ∀ w, Calls Tryz.prog 34 #[.int .u8 s[m].toNat] w fun e w' => e = .returned (.bool false) ∧ w = w') (fun w => by have := rLetter_any s[m] w; rwa [ha] at this)
                have DM := Lib.hid (p := ∀ w, Calls Tryz.prog 35 #[.int .u8 s[m].toNat] w fun e w' => e = .returned (.bool true) ∧ w = w') (fun w => by have := rDigit_any s[m] w; rwa [hb] at this)
                clear ha hb AL
                go_wp2_with (first | (go_at_call 34; refine (LM.out _).mono ?_; rintro e w' ⟨rfl, rfl⟩) | (go_at_call 35; refine (DM.out _).mono ?_; rintro e w' ⟨rfl, rfl⟩))
                go_round
                case rel => exact ⟨m + 1, by omega, by omega, by go_num, hok1⟩
                case measure => simp [intOf]; omega
              | false =>
                have LM := Lib.hid (p := ∀ w, Calls Tryz.prog 34 #[.int .u8 s[m].toNat] w fun e w' => e = .returned (.bool false) ∧ w = w') (fun w => by have := rLetter_any s[m] w; rwa [ha] at this)
                have DM := Lib.hid (p := ∀ w, Calls Tryz.prog 35 #[.int .u8 s[m].toNat] w fun e w' => e = .returned (.bool false) ∧ w = w') (fun w => by have := rDigit_any s[m] w; rwa [hb] at this)
                have hr := run_drop hm1 hm2 hok.out (fun _ => alnum_not ha hb)
                have hkm := run_drop_pos hlt HA.out hr
                by_cases h8 : 8 < m - k
                · have R := Lib.hid (e_bad hlt H32.out hE.out (FF.out.trans (name_long hr h8)))
                  have g1 : (8 : Int) < (m : Int) - (k : Int) := by omega
                  clear hr ha hb
                  go_wp2_with (first | (go_at_call 34; refine (LM.out _).mono ?_; rintro e w' ⟨rfl, rfl⟩) | (go_at_call 35; refine (DM.out _).mono ?_; rintro e w' ⟨rfl, rfl⟩))
                  go_ret3
                  rw [R.out]
                  exact ⟨hB.out, rfl⟩
                · have ET := e_tok hlt H32.out hkm hE.out (FF.out.trans (name_short hr h8))
                  have g1 : ¬ (8 : Int) < (m : Int) - (k : Int) := by omega
                  obtain ⟨t, ht⟩ : ∃ t : Tk, t = ⟨1, (s.data.toList.drop k).take (m - k), 0, k⟩ := ⟨_, rfl⟩
                  have E3 := Lib.hid (show (lexL (s.data.toList.drop m) m).after (T ++ [t]) = E by rw [ht]; exact ET)
                  have hcells : tkL t = [.int .i64 1, .string (s.extract k m), .int .i64 0, .int .i64 k] := by rw [ht]; exact tk_cells s k m _ _
                  have NA := Lib.hid (rnew wr hcells)
                  have OA := Lib.hid (show (wr.alloc (rtO 1 (s.extract k m) 0 k)).ownsRow w.heap.size 63 4 (.slice va T.length vc) T.length (tksL T) from hO.out.alloc _)
                  have hz := hB.out.size
                  have BA := Lib.hid (show w.heap.size ≤ (wr.alloc (rtO 1 (s.extract k m) 0 k)).heap.size by rw [World.size_alloc]; omega)
                  have OLt := Lib.hid (fun q hq => hO.out.lt q hq)
                  clear ET ht hcells hr ha hb
                  go_wp2_with (first | (go_at_call 34; refine (LM.out _).mono ?_; rintro e w' ⟨rfl, rfl⟩) | (go_at_call 35; refine (DM.out _).mono ?_; rintro e w' ⟨rfl, rfl⟩) | (at_builtin; refine wpList_append_new rfl _ _ 38 rfl (base := w.heap.size) und hi hz0 hz1 hz2 rfl (by decide) (.slice va T.length vc) T.length 1 1 ⟨wr.heap.size, 0, none⟩ (tksL T) (tkL t) rfl rfl OA.out rfl NA.out (tkL_one _) (by unfold maxLen; omega) (by omega) BA.out ?_))
                  intro v6 w6 ho hg _
                  obtain ⟨va6, c6, rfl⟩ := own_rowG ho
                  have B6 := Lib.hid (show Below w.heap.size w w6 from (hB.out.alloc hB.out.size _).grown hg BA.out (fun q hq => (OLt.out q hq).1))
                  have O6 := Lib.hid (show w6.ownsRow w.heap.size 63 4 (.slice va6 (T ++ [t]).length c6) (T ++ [t]).length (tksL (T ++ [t])) by rw [tksL_snoc, List.length_append]; exact ho)
                  rw [show T.length + 1 = (T ++ [t]).length by rw [List.length_append]; rfl]
                  have hTl : (T ++ [t]).length ≤ m := by rw [List.length_append]; show T.length + 1 ≤ m; omega
                  generalize T ++ [t] = T2 at E3 O6 hTl
                  clear ho hg OA NA BA OLt
                  go_wp2_with fail
                  go_roundw
                  case rel => exact ⟨m, va6, c6, T2, rfl, by go_num, by omega, hTl, E3, O6, B6⟩
                  case measure => simp [intOf]; omega
          · have hr := run_drop hm1 hm2 hok.out (fun h => absurd h hml)
            have hkm := run_drop_pos hlt HA.out hr
            by_cases h8 : 8 < m - k
            · have R := Lib.hid (e_bad hlt H32.out hE.out (FF.out.trans (name_long hr h8)))
              have g1 : (8 : Int) < (m : Int) - (k : Int) := by omega
              clear hr
              go_wp2_with (first | fail)
              go_ret3
              rw [R.out]
              exact ⟨hB.out, rfl⟩
            · have ET := e_tok hlt H32.out hkm hE.out (FF.out.trans (name_short hr h8))
              have g1 : ¬ (8 : Int) < (m : Int) - (k : Int) := by omega
              obtain ⟨t, ht⟩ : ∃ t : Tk, t = ⟨1, (s.data.toList.drop k).take (m - k), 0, k⟩ := ⟨_, rfl⟩
              have E3 := Lib.hid (show (lexL (s.data.toList.drop m) m).after (T ++ [t]) = E by rw [ht]; exact ET)
              have hcells : tkL t = [.int .i64 1, .string (s.extract k m), .int .i64 0, .int .i64 k] := by rw [ht]; exact tk_cells s k m _ _
              have NA := Lib.hid (rnew wr hcells)
              have OA := Lib.hid (show (wr.alloc (rtO 1 (s.extract k m) 0 k)).ownsRow w.heap.size 63 4 (.slice va T.length vc) T.length (tksL T) from hO.out.alloc _)
              have hz := hB.out.size
              have BA := Lib.hid (show w.heap.size ≤ (wr.alloc (rtO 1 (s.extract k m) 0 k)).heap.size by rw [World.size_alloc]; omega)
              have OLt := Lib.hid (fun q hq => hO.out.lt q hq)
              clear ET ht hcells hr
              go_wp2_with (first | fail | (at_builtin; refine wpList_append_new rfl _ _ 38 rfl (base := w.heap.size) und hi hz0 hz1 hz2 rfl (by decide) (.slice va T.length vc) T.length 1 1 ⟨wr.heap.size, 0, none⟩ (tksL T) (tkL t) rfl rfl OA.out rfl NA.out (tkL_one _) (by unfold maxLen; omega) (by omega) BA.out ?_))
              intro v6 w6 ho hg _
              obtain ⟨va6, c6, rfl⟩ := own_rowG ho
              have B6 := Lib.hid (show Below w.heap.size w w6 from (hB.out.alloc hB.out.size _).grown hg BA.out (fun q hq => (OLt.out q hq).1))
              have O6 := Lib.hid (show w6.ownsRow w.heap.size 63 4 (.slice va6 (T ++ [t]).length c6) (T ++ [t]).length (tksL (T ++ [t])) by rw [tksL_snoc, List.length_append]; exact ho)
              rw [show T.length + 1 = (T ++ [t]).length by rw [List.length_append]; rfl]
              have hTl : (T ++ [t]).length ≤ m := by rw [List.length_append]; show T.length + 1 ≤ m; omega
              generalize T ++ [t] = T2 at E3 O6 hTl
              clear ho hg OA NA BA OLt
              go_wp2_with fail
              go_roundw
              case rel => exact ⟨m, va6, c6, T2, rfl, by go_num, by omega, hTl, E3, O6, B6⟩
              case measure => simp [intOf]; omega
      | false =>
        cases hd : digitB s[k] with
        | true =>
          have LK := Lib.hid (p := ∀ w, Calls Tryz.prog 34 #[.int .u8 s[k].toNat] w fun e w' => e = .returned (.bool false) ∧ w = w') (fun w => by have := rLetter_any s[k] w; rwa [hs] at this)
          have DK := Lib.hid (p := ∀ w, Calls Tryz.prog 35 #[.int .u8 s[k].toNat] w fun e w' => e = .returned (.bool true) ∧ w = w') (fun w => by have := rDigit_any s[k] w; rwa [hd] at this)
          have FF := Lib.hid (first_digit hlt hs hd)
          have HA := Lib.hid hd
          clear hs hd
          go_wp2_with (first | (go_at_call 34; refine (LK.out _).mono ?_; rintro e w' ⟨rfl, rfl⟩) | (go_at_call 35; refine (DK.out _).mono ?_; rintro e w' ⟨rfl, rfl⟩))
          go_loop [7] (fun v => ∃ m : Nat, k ≤ m ∧ m ≤ s.size ∧ v = .int .i64 m ∧ Hid (∀ j (h : j < s.size), k ≤ j → j < m → digitB s[j] = true)) (fun v => s.size - (intOf v).toNat)
          case atStart => exact ⟨k, by omega, by omega, rfl, Lib.hid (fun j _ h1 h2 => by omega)⟩
          case round =>
            obtain ⟨m, hm1, hm2, rfl, hok⟩ := hrel
            by_cases hml : m < s.size
            · cases ha : digitB s[m] with
              | true =>
                have AL := ha
                have hok1 := Lib.hid (show ∀ j (h : j < s.size), k ≤ j → j < m + 1 → digitB s[j] = true from fun j hj h1 h2 => by
                  by_cases e : j = m
                  · subst e; exact AL
                  · exact hok.out j hj h1 (by omega))
                have DM := Lib.hid (p := ∀ w, Calls Tryz.prog 35 #[.int .u8 s[m].toNat] w fun e w' => e = .returned (.bool true) ∧ w = w') (fun w => by have := rDigit_any s[m] w; rwa [ha] at this)
                clear ha AL
                go_wp2_with (first | (go_at_call 35; refine (DM.out _).mono ?_; rintro e w' ⟨rfl, rfl⟩))
                go_round
                case rel => exact ⟨m + 1, by omega, by omega, by go_num, hok1⟩
                case measure => simp [intOf]; omega
              | false =>
                have DM := Lib.hid (p := ∀ w, Calls Tryz.prog 35 #[.int .u8 s[m].toNat] w fun e w' => e = .returned (.bool false) ∧ w = w') (fun w => by have := rDigit_any s[m] w; rwa [ha] at this)
                have hr := run_drop hm1 hm2 hok.out (fun _ => ha)
                have hkm := run_drop_pos hlt HA.out hr
                by_cases A : 1 < m - k ∧ s[k] = 48
                · have R := Lib.hid (e_bad hlt H32.out hE.out (FF.out.trans (num_A hlt hr A.1 A.2)))
                  have g1 : (1 : Int) < (m : Int) - (k : Int) := by omega
                  have g2 : ((s[k].toNat : Int) == 48) = true := byte_is (k := 48) (by decide) A.2
                  clear hr A ha
                  go_wp2_with (first | (go_at_call 35; refine (DM.out _).mono ?_; rintro e w' ⟨rfl, rfl⟩))
                  go_ret3
                  rw [R.out]
                  exact ⟨hB.out, rfl⟩
                cases hsm : smallB s[m] with
                | true =>
                  have LM := Lib.hid (p := ∀ w, Calls Tryz.prog 34 #[.int .u8 s[m].toNat] w fun e w' => e = .returned (.bool true) ∧ w = w') (fun w => by have := rLetter_any s[m] w; rwa [hsm] at this)
                  have R := Lib.hid (e_bad hlt H32.out hE.out (FF.out.trans (num_B (by omega) hr hml hsm)))
                  by_cases g0 : 1 < m - k
                  · have g1 : (1 : Int) < (m : Int) - (k : Int) := by omega
                    have g2 : ((s[k].toNat : Int) == 48) = false := byte_no (k := 48) (by decide) (fun e => A ⟨g0, e⟩)
                    clear hr A hsm ha
                    go_wp2_with (first | (go_at_call 35; refine (DM.out _).mono ?_; rintro e w' ⟨rfl, rfl⟩) | (go_at_call 34; refine (LM.out _).mono ?_; rintro e w' ⟨rfl, rfl⟩))
                    go_ret3
                    rw [R.out]
                    exact ⟨hB.out, rfl⟩
                  · have g1 : ¬ (1 : Int) < (m : Int) - (k : Int) := by omega
                    clear hr A hsm ha
                    go_wp2_with (first | (go_at_call 35; refine (DM.out _).mono ?_; rintro e w' ⟨rfl, rfl⟩) | (go_at_call 34; refine (LM.out _).mono ?_; rintro e w' ⟨rfl, rfl⟩))
                    go_ret3
                    rw [R.out]
                    exact ⟨hB.out, rfl⟩
                | false =>
                  have LM := Lib.hid (p := ∀ w, Calls Tryz.prog 34 #[.int .u8 s[m].toNat] w fun e w' => e = .returned (.bool false) ∧ w = w') (fun w => by have := rLetter_any s[m] w; rwa [hsm] at this)
                  have hb : ∀ h : m < s.size, smallB s[m] = false := fun _ => hsm
                  have NU := Lib.hid (fun w => rNumber_any (s.extract k m) (by rw [ByteArray.size_extract]; omega) w)
                  cases hv : numOf (s.extract k m).data.toList with
                  | none =>
                    have R := Lib.hid (e_bad hlt H32.out hE.out (FF.out.trans (num_R hlt hkm hm2 hr A hb hv)))
                    rw [hv] at NU
                    unfold numV at NU
                    by_cases g0 : 1 < m - k
                    · have g1 : (1 : Int) < (m : Int) - (k : Int) := by omega
                      have g2 : ((s[k].toNat : Int) == 48) = false := byte_no (k := 48) (by decide) (fun e => A ⟨g0, e⟩)
                      clear hr A hv hb ha hsm
                      go_wp2_with (first | (go_at_call 35; refine (DM.out _).mono ?_; rintro e w' ⟨rfl, rfl⟩) | (go_at_call 34; refine (LM.out _).mono ?_; rintro e w' ⟨rfl, rfl⟩) | (go_at_call 36; refine (NU.out _).mono ?_; rintro e w' ⟨rfl, rfl⟩))
                      go_ret3
                      rw [R.out]
                      exact ⟨hB.out, rfl⟩
                    · have g1 : ¬ (1 : Int) < (m : Int) - (k : Int) := by omega
                      clear hr A hv hb ha hsm
                      go_wp2_with (first | (go_at_call 35; refine (DM.out _).mono ?_; rintro e w' ⟨rfl, rfl⟩) | (go_at_call 34; refine (LM.out _).mono ?_; rintro e w' ⟨rfl, rfl⟩) | (go_at_call 36; refine (NU.out _).mono ?_; rintro e w' ⟨rfl, rfl⟩))
                      go_ret3
                      rw [R.out]
                      exact ⟨hB.out, rfl⟩
                  | some nv =>
                    obtain ⟨hf, hin⟩ := num_O hlt hkm hm2 hr A hb hv
                    have ET := e_tok hlt H32.out hkm hE.out (FF.out.trans hf)
                    rw [hv] at NU
                    unfold numV at NU
                    by_cases g0 : 1 < m - k
                    · have g1 : (1 : Int) < (m : Int) - (k : Int) := by omega
                      have g2 : ((s[k].toNat : Int) == 48) = false := byte_no (k := 48) (by decide) (fun e => A ⟨g0, e⟩)
                      obtain ⟨t, ht⟩ : ∃ t : Tk, t = ⟨2, (s.data.toList.drop k).take (m - k), nv, k⟩ := ⟨_, rfl⟩
                      have E3 := Lib.hid (show (lexL (s.data.toList.drop m) m).after (T ++ [t]) = E by rw [ht]; exact ET)
                      have hcells : tkL t = [.int .i64 2, .string (s.extract k m), .int .i64 nv, .int .i64 k] := by rw [ht]; exact tk_cells s k m _ _
                      have NA := Lib.hid (rnew wr hcells)
                      have OA := Lib.hid (show (wr.alloc (rtO 2 (s.extract k m) nv k)).ownsRow w.heap.size 63 4 (.slice va T.length vc) T.length (tksL T) from hO.out.alloc _)
                      have hz := hB.out.size
                      have BA := Lib.hid (show w.heap.size ≤ (wr.alloc (rtO 2 (s.extract k m) nv k)).heap.size by rw [World.size_alloc]; omega)
                      have OLt := Lib.hid (fun q hq => hO.out.lt q hq)
                      clear ET ht hcells hr A hv hb hf hin ha hsm
                      go_wp2_with (first | (go_at_call 35; refine (DM.out _).mono ?_; rintro e w' ⟨rfl, rfl⟩) | (go_at_call 34; refine (LM.out _).mono ?_; rintro e w' ⟨rfl, rfl⟩) | (go_at_call 36; refine (NU.out _).mono ?_; rintro e w' ⟨rfl, rfl⟩) | (at_builtin; refine wpList_append_new rfl _ _ 38 rfl (base := w.heap.size) und hi hz0 hz1 hz2 rfl (by decide) (.slice va T.length vc) T.length 1 1 ⟨wr.heap.size, 0, none⟩ (tksL T) (tkL t) rfl rfl OA.out rfl NA.out (tkL_one _) (by unfold maxLen; omega) (by omega) BA.out ?_))
                      intro v6 w6 ho hg _
                      obtain ⟨va6, c6, rfl⟩ := own_rowG ho
                      have B6 := Lib.hid (show Below w.heap.size w w6 from (hB.out.alloc hB.out.size _).grown hg BA.out (fun q hq => (OLt.out q hq).1))
                      have O6 := Lib.hid (show w6.ownsRow w.heap.size 63 4 (.slice va6 (T ++ [t]).length c6) (T ++ [t]).length (tksL (T ++ [t])) by rw [tksL_snoc, List.length_append]; exact ho)
                      rw [show T.length + 1 = (T ++ [t]).length by rw [List.length_append]; rfl]
                      have hTl : (T ++ [t]).length ≤ m := by rw [List.length_append]; show T.length + 1 ≤ m; omega
                      generalize T ++ [t] = T2 at E3 O6 hTl
                      clear ho hg OA NA BA OLt
                      go_wp2_with fail
                      go_roundw
                      case rel => exact ⟨m, va6, c6, T2, rfl, by go_num, by omega, hTl, E3, O6, B6⟩
                      case measure => simp [intOf]; omega
                    · have g1 : ¬ (1 : Int) < (m : Int) - (k : Int) := by omega
                      obtain ⟨t, ht⟩ : ∃ t : Tk, t = ⟨2, (s.data.toList.drop k).take (m - k), nv, k⟩ := ⟨_, rfl⟩
                      have E3 := Lib.hid (show (lexL (s.data.toList.drop m) m).after (T ++ [t]) = E by rw [ht]; exact ET)
                      have hcells : tkL t = [.int .i64 2, .string (s.extract k m), .int .i64 nv, .int .i64 k] := by rw [ht]; exact tk_cells s k m _ _
                      have NA := Lib.hid (rnew wr hcells)
                      have OA := Lib.hid (show (wr.alloc (rtO 2 (s.extract k m) nv k)).ownsRow w.heap.size 63 4 (.slice va T.length vc) T.length (tksL T) from hO.out.alloc _)
                      have hz := hB.out.size
                      have BA := Lib.hid (show w.heap.size ≤ (wr.alloc (rtO 2 (s.extract k m) nv k)).heap.size by rw [World.size_alloc]; omega)
                      have OLt := Lib.hid (fun q hq => hO.out.lt q hq)
                      clear ET ht hcells hr A hv hb hf hin ha hsm
                      go_wp2_with (first | (go_at_call 35; refine (DM.out _).mono ?_; rintro e w' ⟨rfl, rfl⟩) | (go_at_call 34; refine (LM.out _).mono ?_; rintro e w' ⟨rfl, rfl⟩) | (go_at_call 36; refine (NU.out _).mono ?_; rintro e w' ⟨rfl, rfl⟩) | (at_builtin; refine wpList_append_new rfl _ _ 38 rfl (base := w.heap.size) und hi hz0 hz1 hz2 rfl (by decide) (.slice va T.length vc) T.length 1 1 ⟨wr.heap.size, 0, none⟩ (tksL T) (tkL t) rfl rfl OA.out rfl NA.out (tkL_one _) (by unfold maxLen; omega) (by omega) BA.out ?_))
                      intro v6 w6 ho hg _
                      obtain ⟨va6, c6, rfl⟩ := own_rowG ho
                      have B6 := Lib.hid (show Below w.heap.size w w6 from (hB.out.alloc hB.out.size _).grown hg BA.out (fun q hq => (OLt.out q hq).1))
                      have O6 := Lib.hid (show w6.ownsRow w.heap.size 63 4 (.slice va6 (T ++ [t]).length c6) (T ++ [t]).length (tksL (T ++ [t])) by rw [tksL_snoc, List.length_append]; exact ho)
                      rw [show T.length + 1 = (T ++ [t]).length by rw [List.length_append]; rfl]
                      have hTl : (T ++ [t]).length ≤ m := by rw [List.length_append]; show T.length + 1 ≤ m; omega
                      generalize T ++ [t] = T2 at E3 O6 hTl
                      clear ho hg OA NA BA OLt
                      go_wp2_with fail
                      go_roundw
                      case rel => exact ⟨m, va6, c6, T2, rfl, by go_num, by omega, hTl, E3, O6, B6⟩
                      case measure => simp [intOf]; omega
            · have hr := run_drop hm1 hm2 hok.out (fun h => absurd h hml)
              have hkm := run_drop_pos hlt HA.out hr
              by_cases A : 1 < m - k ∧ s[k] = 48
              · have R := Lib.hid (e_bad hlt H32.out hE.out (FF.out.trans (num_A hlt hr A.1 A.2)))
                have g1 : (1 : Int) < (m : Int) - (k : Int) := by omega
                have g2 : ((s[k].toNat : Int) == 48) = true := byte_is (k := 48) (by decide) A.2
                clear hr A
                go_wp2_with (first | fail)
                go_ret3
                rw [R.out]
                exact ⟨hB.out, rfl⟩
              have hb : ∀ h : m < s.size, smallB s[m] = false := fun h => absurd h hml
              have NU := Lib.hid (fun w => rNumber_any (s.extract k m) (by rw [ByteArray.size_extract]; omega) w)
              cases hv : numOf (s.extract k m).data.toList with
              | none =>
                have R := Lib.hid (e_bad hlt H32.out hE.out (FF.out.trans (num_R hlt hkm hm2 hr A hb hv)))
                rw [hv] at NU
                unfold numV at NU
                by_cases g0 : 1 < m - k
                · have g1 : (1 : Int) < (m : Int) - (k : Int) := by omega
                  have g2 : ((s[k].toNat : Int) == 48) = false := byte_no (k := 48) (by decide) (fun e => A ⟨g0, e⟩)
                  clear hr A hv hb
                  go_wp2_with (first | fail | (go_at_call 36; refine (NU.out _).mono ?_; rintro e w' ⟨rfl, rfl⟩))
                  go_ret3
                  rw [R.out]
                  exact ⟨hB.out, rfl⟩
                · have g1 : ¬ (1 : Int) < (m : Int) - (k : Int) := by omega
                  clear hr A hv hb
                  go_wp2_with (first | fail | (go_at_call 36; refine (NU.out _).mono ?_; rintro e w' ⟨rfl, rfl⟩))
                  go_ret3
                  rw [R.out]
                  exact ⟨hB.out, rfl⟩
              | some nv =>
                obtain ⟨hf, hin⟩ := num_O hlt hkm hm2 hr A hb hv
                have ET := e_tok hlt H32.out hkm hE.out (FF.out.trans hf)
                rw [hv] at NU
                unfold numV at NU
                by_cases g0 : 1 < m - k
                · have g1 : (1 : Int) < (m : Int) - (k : Int) := by omega
                  have g2 : ((s[k].toNat : Int) == 48) = false := byte_no (k := 48) (by decide) (fun e => A ⟨g0, e⟩)
                  obtain ⟨t, ht⟩ : ∃ t : Tk, t = ⟨2, (s.data.toList.drop k).take (m - k), nv, k⟩ := ⟨_, rfl⟩
                  have E3 := Lib.hid (show (lexL (s.data.toList.drop m) m).after (T ++ [t]) = E by rw [ht]; exact ET)
                  have hcells : tkL t = [.int .i64 2, .string (s.extract k m), .int .i64 nv, .int .i64 k] := by rw [ht]; exact tk_cells s k m _ _
                  have NA := Lib.hid (rnew wr hcells)
                  have OA := Lib.hid (show (wr.alloc (rtO 2 (s.extract k m) nv k)).ownsRow w.heap.size 63 4 (.slice va T.length vc) T.length (tksL T) from hO.out.alloc _)
                  have hz := hB.out.size
                  have BA := Lib.hid (show w.heap.size ≤ (wr.alloc (rtO 2 (s.extract k m) nv k)).heap.size by rw [World.size_alloc]; omega)
                  have OLt := Lib.hid (fun q hq => hO.out.lt q hq)
                  clear ET ht hcells hr A hv hb hf hin
                  go_wp2_with (first | fail | (go_at_call 36; refine (NU.out _).mono ?_; rintro e w' ⟨rfl, rfl⟩) | (at_builtin; refine wpList_append_new rfl _ _ 38 rfl (base := w.heap.size) und hi hz0 hz1 hz2 rfl (by decide) (.slice va T.length vc) T.length 1 1 ⟨wr.heap.size, 0, none⟩ (tksL T) (tkL t) rfl rfl OA.out rfl NA.out (tkL_one _) (by unfold maxLen; omega) (by omega) BA.out ?_))
                  intro v6 w6 ho hg _
                  obtain ⟨va6, c6, rfl⟩ := own_rowG ho
                  have B6 := Lib.hid (show Below w.heap.size w w6 from (hB.out.alloc hB.out.size _).grown hg BA.out (fun q hq => (OLt.out q hq).1))
                  have O6 := Lib.hid (show w6.ownsRow w.heap.size 63 4 (.slice va6 (T ++ [t]).length c6) (T ++ [t]).length (tksL (T ++ [t])) by rw [tksL_snoc, List.length_append]; exact ho)
                  rw [show T.length + 1 = (T ++ [t]).length by rw [List.length_append]; rfl]
                  have hTl : (T ++ [t]).length ≤ m := by rw [List.length_append]; show T.length + 1 ≤ m; omega
                  generalize T ++ [t] = T2 at E3 O6 hTl
                  clear ho hg OA NA BA OLt
                  go_wp2_with fail
                  go_roundw
                  case rel => exact ⟨m, va6, c6, T2, rfl, by go_num, by omega, hTl, E3, O6, B6⟩
                  case measure => simp [intOf]; omega
                · have g1 : ¬ (1 : Int) < (m : Int) - (k : Int) := by omega
                  obtain ⟨t, ht⟩ : ∃ t : Tk, t = ⟨2, (s.data.toList.drop k).take (m - k), nv, k⟩ := ⟨_, rfl⟩
                  have E3 := Lib.hid (show (lexL (s.data.toList.drop m) m).after (T ++ [t]) = E by rw [ht]; exact ET)
                  have hcells : tkL t = [.int .i64 2, .string (s.extract k m), .int .i64 nv, .int .i64 k] := by rw [ht]; exact tk_cells s k m _ _
                  have NA := Lib.hid (rnew wr hcells)
                  have OA := Lib.hid (show (wr.alloc (rtO 2 (s.extract k m) nv k)).ownsRow w.heap.size 63 4 (.slice va T.length vc) T.length (tksL T) from hO.out.alloc _)
                  have hz := hB.out.size
                  have BA := Lib.hid (show w.heap.size ≤ (wr.alloc (rtO 2 (s.extract k m) nv k)).heap.size by rw [World.size_alloc]; omega)
                  have OLt := Lib.hid (fun q hq => hO.out.lt q hq)
                  clear ET ht hcells hr A hv hb hf hin
                  go_wp2_with (first | fail | (go_at_call 36; refine (NU.out _).mono ?_; rintro e w' ⟨rfl, rfl⟩) | (at_builtin; refine wpList_append_new rfl _ _ 38 rfl (base := w.heap.size) und hi hz0 hz1 hz2 rfl (by decide) (.slice va T.length vc) T.length 1 1 ⟨wr.heap.size, 0, none⟩ (tksL T) (tkL t) rfl rfl OA.out rfl NA.out (tkL_one _) (by unfold maxLen; omega) (by omega) BA.out ?_))
                  intro v6 w6 ho hg _
                  obtain ⟨va6, c6, rfl⟩ := own_rowG ho
                  have B6 := Lib.hid (show Below w.heap.size w w6 from (hB.out.alloc hB.out.size _).grown hg BA.out (fun q hq => (OLt.out q hq).1))
                  have O6 := Lib.hid (show w6.ownsRow w.heap.size 63 4 (.slice va6 (T ++ [t]).length c6) (T ++ [t]).length (tksL (T ++ [t])) by rw [tksL_snoc, List.length_append]; exact ho)
                  rw [show T.length + 1 = (T ++ [t]).length by rw [List.length_append]; rfl]
                  have hTl : (T ++ [t]).length ≤ m := by rw [List.length_append]; show T.length + 1 ≤ m; omega
                  generalize T ++ [t] = T2 at E3 O6 hTl
                  clear ho hg OA NA BA OLt
                  go_wp2_with fail
                  go_roundw
                  case rel => exact ⟨m, va6, c6, T2, rfl, by go_num, by omega, hTl, E3, O6, B6⟩
                  case measure => simp [intOf]; omega
        | false =>
          have LK := Lib.hid (p := ∀ w, Calls Tryz.prog 34 #[.int .u8 s[k].toNat] w fun e w' => e = .returned (.bool false) ∧ w = w') (fun w => by have := rLetter_any s[k] w; rwa [hs] at this)
          have DK := Lib.hid (p := ∀ w, Calls Tryz.prog 35 #[.int .u8 s[k].toNat] w fun e w' => e = .returned (.bool false) ∧ w = w') (fun w => by have := rDigit_any s[k] w; rwa [hd] at this)
          obtain ⟨n, hn⟩ : ∃ n, signL (s.data.toList.drop k) = n := ⟨_, rfl⟩
          have hnl : n ≤ s.size - k := by rw [← hn]; have := sign_le (s.data.toList.drop k); rw [List.length_drop] at this; simpa using this
          have hx : (s.extract k s.size).extract 0 n = s.extract k (k + n) := by
            apply text_eq
            rw [list_front, list_tail, list_from, show k + n - k = n by omega]
          have SG := Lib.hid (p := ∀ w, Calls Tryz.prog 37 #[.string (s.extract k s.size)] w fun e w' => e = .returned (.string (s.extract k (k + n))) ∧ Below w.heap.size w w') (fun w => by
            have := rSign_any (s.extract k s.size) (by rw [ByteArray.size_extract]; omega) (by rw [ByteArray.size_extract]; omega) w
            rw [list_tail, hn, hx] at this
            exact this)
          have FF := Lib.hid (first_sign hlt hs hd)
          have hxs : (s.extract k (k + n)).size = n := by rw [ByteArray.size_extract]; omega
          clear hs hd hx
          by_cases h0 : n = 0
          · have R := Lib.hid (e_bad hlt H32.out hE.out (FF.out.trans (sign_none (hn.trans h0))))
            have q0 : ((s.extract k (k + n)).toList == []) = true := by
              rw [Lib.toList_data, beq_iff_eq]
              exact List.length_eq_zero_iff.1 (by rw [data_len]; omega)
            clear hn h0
            go_wp2_with (first | (go_at_call 34; refine (LK.out _).mono ?_; rintro e w' ⟨rfl, rfl⟩) | (go_at_call 35; refine (DK.out _).mono ?_; rintro e w' ⟨rfl, rfl⟩))
            refine (SG.out _).mono ?_
            rintro e w2 ⟨rfl, hb⟩
            have B2 := Lib.hid (hB.out.trans (hb.mono hB.out.size))
            clear hb
            go_wp2_with fail
            go_ret3
            rw [R.out]
            exact ⟨B2.out, rfl⟩
          · have ET := e_tok (m := k + n) hlt H32.out (by omega) hE.out (FF.out.trans (by rw [show k + n - k = n by omega]; exact sign_some hn h0))
            have q0 : ((s.extract k (k + n)).toList == []) = false := by
              rw [Lib.toList_data, beq_eq_false_iff_ne]
              intro e
              have := data_len (s.extract k (k + n))
              rw [e, List.length_nil] at this
              omega
            clear hn
            go_wp2_with (first | (go_at_call 34; refine (LK.out _).mono ?_; rintro e w' ⟨rfl, rfl⟩) | (go_at_call 35; refine (DK.out _).mono ?_; rintro e w' ⟨rfl, rfl⟩))
            refine (SG.out _).mono ?_
            rintro e w2 ⟨rfl, hb⟩
            have B2 := Lib.hid (hB.out.trans (hb.mono hB.out.size))
            have O2 := Lib.hid (owns_below hO.out hb)
            clear hb
            obtain ⟨t, ht⟩ : ∃ t : Tk, t = ⟨3, (s.data.toList.drop k).take ((k + n) - k), 0, k⟩ := ⟨_, rfl⟩
            have E3 := Lib.hid (show (lexL (s.data.toList.drop (k + n)) (k + n)).after (T ++ [t]) = E by rw [ht]; exact ET)
            have hcells : tkL t = [.int .i64 3, .string (s.extract k (k + n)), .int .i64 0, .int .i64 k] := by rw [ht]; exact tk_cells s k (k + n) _ _
            have NA := Lib.hid (rnew w2 hcells)
            have OA := Lib.hid (show (w2.alloc (rtO 3 (s.extract k (k + n)) 0 k)).ownsRow w.heap.size 63 4 (.slice va T.length vc) T.length (tksL T) from O2.out.alloc _)
            have hz := B2.out.size
            have BA := Lib.hid (show w.heap.size ≤ (w2.alloc (rtO 3 (s.extract k (k + n)) 0 k)).heap.size by rw [World.size_alloc]; omega)
            have OLt := Lib.hid (fun q hq => O2.out.lt q hq)
            clear ET ht hcells
            go_wp2_with (first | fail | (at_builtin; refine wpList_append_new rfl _ _ 38 rfl (base := w.heap.size) und hi hz0 hz1 hz2 rfl (by decide) (.slice va T.length vc) T.length 1 1 ⟨w2.heap.size, 0, none⟩ (tksL T) (tkL t) rfl rfl OA.out rfl NA.out (tkL_one _) (by unfold maxLen; omega) (by omega) BA.out ?_))
            intro v6 w6 ho hg _
            obtain ⟨va6, c6, rfl⟩ := own_rowG ho
            have B6 := Lib.hid (show Below w.heap.size w w6 from (B2.out.alloc B2.out.size _).grown hg BA.out (fun q hq => (OLt.out q hq).1))
            have O6 := Lib.hid (show w6.ownsRow w.heap.size 63 4 (.slice va6 (T ++ [t]).length c6) (T ++ [t]).length (tksL (T ++ [t])) by rw [tksL_snoc, List.length_append]; exact ho)
            rw [show T.length + 1 = (T ++ [t]).length by rw [List.length_append]; rfl]
            have hTl : (T ++ [t]).length ≤ (k + n) := by rw [List.length_append]; show T.length + 1 ≤ (k + n); omega
            generalize T ++ [t] = T2 at E3 O6 hTl
            clear ho hg OA NA BA OLt
            go_wp2_with fail
            go_roundw
            case rel => exact ⟨(k + n), va6, c6, T2, rfl, by go_num, by omega, hTl, E3, O6, B6⟩
            case measure => simp [intOf]; omega
    · obtain rfl : k = s.size := by omega
      have R := Lib.hid (e_end hE.out)
      go_wp2_with fail
      go_ret3
      rw [R.out]
      exact ⟨hB.out, va, vc, rfl, hO.out⟩

end Go.Proofs.YteegdemnajhehaaGreatDoor
