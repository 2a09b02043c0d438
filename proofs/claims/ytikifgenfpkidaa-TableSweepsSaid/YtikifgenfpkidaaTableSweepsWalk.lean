/-
  No statement: TableSweeps' walk.
-/
import Derived.Test.YtikifgenfpkidaaTbKnown
import Derived.Test.YtikifgenfpkidaaTbM1
import Derived.Test.YtikifgenfpkidaaTbArgs
import Derived.Laws.IdiomStrings
set_option linter.unusedVariables false
set_option linter.unusedSimpArgs false
namespace Go.Proofs.Ytikifgenfpkidaa
open Go.RowKit

/-- The rows that were put: one for each tick. -/
def swL (l : List UInt8) (k : Nat) : List RD := (List.range k).map fun i => bareR (kyI i) ((l.getD i 0).toNat : Nat) 0
theorem swL_succ (l : List UInt8) (k : Nat) : swL l (k + 1) = swL l k ++ [bareR (kyI k) ((l.getD k 0).toNat : Nat) 0] := by simp [swL, List.range_succ]
theorem swL_len (l : List UInt8) (k : Nat) : (swL l k).length = k := by simp [swL]
theorem swL_rise (l : List UInt8) {k : Nat} (hk : k ≤ 60) : Rising lsS (kyR (swL l k)) := by
  unfold kyR swL Rising
  rw [List.map_map, List.pairwise_map]
  exact List.Pairwise.imp_of_mem (fun {i j} hi hj h => kyI_lt h (by have := List.mem_range.1 hj; omega)) List.pairwise_lt_range
theorem swL_below (l : List UInt8) {k : Nat} (hk : k < 60) : ∀ y ∈ swL l k, lsS y.key (kyI k) = true := fun y hy => by
  obtain ⟨i, hi, rfl⟩ := List.mem_map.1 hy
  exact kyI_lt (List.mem_range.1 hi) hk
theorem swL_fix (l : List UInt8) (k : Nat) : Fix (swL l k) := fun x hx => by
  obtain ⟨i, hi, rfl⟩ := List.mem_map.1 hx
  exact ⟨bareR_fine _ _ _, rfl⟩
theorem swL_put (l : List UInt8) {k : Nat} (hk : k < 60) : putX 64 (swL l k) (bareR (kyI k) ((l.getD k 0).toNat : Nat) 0) = (0, swL l (k + 1)) := by
  have ht := (l.getD k 0).toNat_lt
  have hc : countB ((l.getD k 0).toNat : Nat) = true := by unfold countB; rw [Bool.and_eq_true, decide_eq_true_eq, decide_eq_true_eq]; omega
  rw [putX_end (bare_err hk hc (by decide)) (by rw [swL_len]; omega) (swL_below l hk) (swL_rise l (by omega)), swL_succ]
  rfl

theorem swL_old (l : List UInt8) (k : Nat) (d : Int) : ((swL l (k + 1)).filter (oldR d ⟨#[]⟩)).length = ((swL l k).filter (oldR d ⟨#[]⟩)).length + (if ((l.getD k 0).toNat : Int) < d then 1 else 0) := by
  rw [swL_succ, List.filter_append, List.length_append]
  congr 1
  have hk : ((kyI k).toList == (⟨#[]⟩ : ByteArray).toList) = false := by
    rw [Lib.toList_data, Lib.toList_data]; rfl
  by_cases h : ((l.getD k 0).toNat : Int) < d
  · rw [if_pos h]
    have : oldR d ⟨#[]⟩ (bareR (kyI k) ((l.getD k 0).toNat : Nat) 0) = true := by
      show (decide (((l.getD k 0).toNat : Int) < d) && !((kyI k).toList == (⟨#[]⟩ : ByteArray).toList)) = true
      rw [hk, decide_eq_true h]; rfl
    rw [List.filter_cons_of_pos this]; rfl
  · rw [if_neg h]
    have : oldR d ⟨#[]⟩ (bareR (kyI k) ((l.getD k 0).toNat : Nat) 0) = false := by
      show (decide (((l.getD k 0).toNat : Int) < d) && !((kyI k).toList == (⟨#[]⟩ : ByteArray).toList)) = false
      rw [decide_eq_false h]; rfl
    rw [List.filter_cons_of_neg (by rw [this]; simp)]; rfl

theorem swL_t (l : List UInt8) (k : Nat) (d : Int) : ∀ x ∈ swL l k, oldR d ⟨#[]⟩ x = false → ¬ x.t < d := fun x hx ho ht => by
  obtain ⟨i, hi, rfl⟩ := List.mem_map.1 hx
  have hk : ((kyI i).toList == (⟨#[]⟩ : ByteArray).toList) = false := by rw [Lib.toList_data, Lib.toList_data]; rfl
  have h2 : (decide (((l.getD i 0).toNat : Int) < d) && !((kyI i).toList == (⟨#[]⟩ : ByteArray).toList)) = false := ho
  rw [hk, decide_eq_true (show ((l.getD i 0).toNat : Int) < d from ht)] at h2
  cases h2
theorem filter_lens (p : RD → Bool) : ∀ L : List RD, (L.filter (fun x => !p x)).length + (L.filter p).length = L.length
  | [] => rfl
  | x :: r => by
    have ih := filter_lens p r
    cases h : p x
    · rw [List.filter_cons_of_pos (by simp [h]), List.filter_cons_of_neg (by simp [h])]; simp only [List.length_cons]; omega
    · rw [List.filter_cons_of_neg (by simp [h]), List.filter_cons_of_pos h]; simp only [List.length_cons]; omega

set_option maxHeartbeats 16000000 in
set_option maxRecDepth 100000 in
theorem tableSweeps_walk (a : Option Addr) (c : Nat) (l : List UInt8) (nw ag : UInt8) (w : World) (hr : BR w a c l) :
    Calls Try.prog 5 #[.slice a l.length c, .int .u8 nw.toNat, .int .u8 ag.toNat] w fun e w' => e = .returned (.bool true) ∧ Below w.heap.size w w' := by
  have R := Lib.hid hr
  have KN := Lib.hid (known_any w)
  have hnw := nw.toNat_lt
  have hag := ag.toNat_lt
  obtain ⟨NW, hNW⟩ : ∃ NW, nw.toNat = NW := ⟨_, rfl⟩
  obtain ⟨AG, hAG⟩ : ∃ AG, ag.toNat = AG := ⟨_, rfl⟩
  rw [hNW] at hnw ⊢
  rw [hAG] at hag ⊢
  obtain ⟨n, hn⟩ : ∃ n, l.length = n := ⟨_, rfl⟩
  rw [hn]
  clear hr hNW hAG
  go_enter Try.func5, Try.ntmps5
  go_wp2_with fail
  refine KN.out.mono ?_
  rintro e w1 ⟨rfl, hb⟩
  have B1 := Lib.hid hb
  clear hb KN
  by_cases hbig : 60 < n
  · have h1 : (60 : Int) < (n : Int) := by omega
    go_wp2_with fail
    go_ret
    exact ⟨rfl, B1.out⟩
  have h1 : ¬ (60 : Int) < (n : Int) := by omega
  go_wp2_with fail
  refine (new_any w1 64 (by omega) (by omega)).mono ?_
  rintro e w2 ⟨p, rfl, F2, hT, hF, hb⟩
  have K2 : Hid (∃ F, Tab w2 p 64 F (fun k => k < w1.heap.size) (swL l 0) ∧ (∀ k, F k → w1.heap.size ≤ k)) := Lib.hid ⟨F2, hT, hF⟩
  have B2 := Lib.hid (show Below w1.heap.size w1 w2 from hb)
  have hz1 := B1.out.size
  clear hT hF hb h1
  obtain ⟨old, hold⟩ : ∃ old : Nat → Nat, old = fun k => ((swL l k).filter (oldR ((NW : Int) - (AG : Int)) ⟨#[]⟩)).length := ⟨_, rfl⟩
  have old0 : old 0 = 0 := by rw [hold]; rfl
  have HOLD := Lib.hid hold
  clear hold
  go_wp2_with fail
  go_loopw [9, 10] (fun ov iv wr => ∃ k : Nat, ov = .int .i64 (old k : Nat) ∧ iv = .int .i64 k ∧ k ≤ n ∧ Hid (∃ F, Tab wr p 64 F (fun k => k < w1.heap.size) (swL l k) ∧ (∀ k, F k → w1.heap.size ≤ k)) ∧ Hid (Below w1.heap.size w1 wr)) (fun _ iv _ => n - (intOf iv).toNat)
  case atStart => exact ⟨0, by rw [old0]; rfl, rfl, Nat.zero_le _, K2, B2⟩
  case round =>
    obtain ⟨k, rfl, rfl, hk, K3, B3⟩ := hrel
    clear K2 B2
    by_cases hlt : k < n
    · have hk60 : k < 60 := by omega
      have a1 : (k : Int) < (n : Int) := by omega
      obtain ⟨t, ht⟩ : ∃ t, (l.getD k 0).toNat = t := ⟨_, rfl⟩
      have ht256 : t < 256 := by rw [← ht]; exact (l.getD k 0).toNat_lt
      obtain ⟨b, off, rfl, hc⟩ : ∃ b off, a = some ⟨b, off, none⟩ ∧ w.cell? ⟨b, off + k, none⟩ = some (.int .u8 t) := by
        rcases R.out.2.2 with ⟨_, h⟩ | ⟨h, _⟩ | ⟨b, off, h, hc⟩
        · have := R.out.1; omega
        · subst h; simp at hn; omega
        · have hk' : k < l.length := by omega
          refine ⟨b, off, h, ?_⟩
          rw [hc k hk', ← ht]
          simp [List.getD, List.getElem?_eq_getElem hk']
      have hbw : b < w.heap.size := by have := World.block_lt_of_cell? w _ hc; simpa using this
      have hzr := B3.out.size
      have hcr : wr.cell? ⟨b, off + k, none⟩ = some (.int .u8 t) := (B3.out.cell (p := ⟨b, off + k, none⟩) (by show b < _; omega)).trans ((B1.out.cell (p := ⟨b, off + k, none⟩) hbw).trans hc)
      have hbr : b < wr.heap.size := by omega
      obtain ⟨Q, hQ⟩ : ∃ Q, k / 26 = Q := ⟨_, rfl⟩
      obtain ⟨S, hS⟩ : ∃ S, k % 26 = S := ⟨_, rfl⟩
      have hQ2 : (k : Int) / 26 = (Q : Int) := by omega
      have hS2 : (k : Int) % 26 = (S : Int) := by omega
      have hQ3 : Q < 3 := by omega
      have hS3 : S < 26 := by omega
      have q1 : IntKind.i64.wrap (97 + (Q : Int)) = 97 + (Q : Int) := IntWalk.i64_in _ (by omega)
      have q2 : IntKind.i64.wrap (97 + (S : Int)) = 97 + (S : Int) := IntWalk.i64_in _ (by omega)
      have q0 : IntKind.i64.wrap (Q : Int) = (Q : Int) := IntWalk.i64_in _ (by omega)
      have q3 : IntKind.u8.wrap (97 + (Q : Int)) = 97 + (Q : Int) := IntWalk.u8_in _ (by omega)
      have q4 : IntKind.u8.wrap (97 + (S : Int)) = 97 + (S : Int) := IntWalk.u8_in _ (by omega)
      have hS4 : ((k : Int)).tmod 26 = (S : Int) := by rw [Int.tmod_eq_emod_of_nonneg (by omega)]; omega
      have q5 : IntKind.i64.wrap (t : Int) = (t : Int) := IntWalk.i64_in _ (by omega)
      obtain ⟨y1, hy1⟩ : ∃ y : UInt8, y = UInt8.ofNat (97 + Q) := ⟨_, rfl⟩
      obtain ⟨y2, hy2⟩ : ∃ y : UInt8, y = UInt8.ofNat (97 + S) := ⟨_, rfl⟩
      have hn1 : y1.toNat = 97 + Q := by rw [hy1]; simp; omega
      have hn2 : y2.toNat = 97 + S := by rw [hy2]; simp; omega
      obtain ⟨Y, hY⟩ : ∃ Y : ByteArray, (⟨[y1, y2].toArray⟩ : ByteArray) = Y := ⟨_, rfl⟩
      have CV : (convert 48 9 (.slice (some ⟨wr.heap.size, 0, none⟩) 2 2)).run Try.prog (wr.alloc (.cells #[.int .u8 (97 + (Q : Int)), .int .u8 (97 + (S : Int))] 5)).drew = .ok (.string Y) (wr.alloc (.cells #[.int .u8 (97 + (Q : Int)), .int .u8 (97 + (S : Int))] 5)).drew := by
        rw [← hY]
        refine run_convert_bytes_back _ 48 9 5 ⟨wr.heap.size, 0, none⟩ 2 [y1, y2] Try.underlying48 Try.underlying5 Try.underlying9 (fun j hj => ?_)
        rw [Addr.add_lit]
        show (wr.alloc _).cell? _ = _
        rw [cell_of_row _ _ _ _ _ (0, 0) (heap_alloc_new wr _)]
        rcases j with _ | _ | j
        · simp [hn1]
        · simp [hn2]
        · exfalso; simp only [List.length_cons, List.length_nil] at hj; omega
      have hYz : Y.size = 2 := by rw [← hY]; rfl
      have x1 : (9223372036854775807 < 1 + Y.size) = False := by rw [eq_iff_iff, iff_false]; omega
      have hN : (⟨#[107]⟩ ++ Y : ByteArray) = kyI k := by
        rw [← hY, hy1, hy2]
        unfold kyI
        rw [hQ, hS]
        rfl
      obtain ⟨NK, hNK⟩ : ∃ NK, kyI k = NK := ⟨_, rfl⟩
      rw [hNK] at hN
      have HPUT := Lib.hid (show putX 64 (swL l k) (bareR NK t 0) = (0, swL l (k + 1)) by have := swL_put l hk60; rw [ht, hNK] at this; exact this)
      have hNz : NK.size ≤ 1000 := by rw [← hNK]; show (3 : Nat) ≤ 1000; omega
      have BW := Lib.hid (B3.out.trans ((((Below.refl wr.heap.size wr).alloc (Nat.le_refl _) (.cells #[.int .u8 (97 + (Q : Int)), .int .u8 (97 + (S : Int))] 5)).trans ((drewB _).mono (by simp))).mono hzr))
      obtain ⟨F, hT, hF⟩ := K3.out
      have TW := Lib.hid ((hT.below ((Below.refl wr.heap.size wr).alloc (Nat.le_refl _) (.cells #[.int .u8 (97 + (Q : Int)), .int .u8 (97 + (S : Int))] 5))).below (drewB _))
      have HFF := Lib.hid hF
      have PU := Lib.hid (put_any _ p 64 F _ (swL l k) (bareR NK t 0) none 0 (by unfold In64; omega) (by omega) (by rw [swL_len]; omega) (bareR_bound _ _ _ hNz) TW.out (bareR_reads _ _ _ _ _))
      unfold PutPost at PU
      rw [HPUT.out] at PU
      have PV : Hid (Calls Try.prog 13 #[.pointer (some ⟨p, 0, none⟩), .agg #[.string NK, .int .i64 t, .int .i64 0, .int .i64 0, .string ⟨#[47, 122]⟩, .slice none 0 0]] (wr.alloc (.cells #[.int .u8 (97 + (Q : Int)), .int .u8 (97 + (S : Int))] 5)).drew fun e w' => e = .returned (.int .i64 0) ∧ TurnT (wr.alloc (.cells #[.int .u8 (97 + (Q : Int)), .int .u8 (97 + (S : Int))] 5)).drew w' p 64 F (fun k => k < w1.heap.size) (swL l (k + 1))) := PU
      have HO := Lib.hid (show old (k + 1) = old k + (if (t : Int) < (NW : Int) - (AG : Int) then 1 else 0) by rw [HOLD.out]; simp only; rw [swL_old, ht])
      have hok : old k ≤ k := by rw [HOLD.out]; simp only; exact Nat.le_trans (List.length_filter_le _ _) (by rw [swL_len]; exact Nat.le_refl _)
      have q6 : IntKind.i64.wrap (NW : Int) = (NW : Int) := IntWalk.i64_in _ (by omega)
      have q7 : IntKind.i64.wrap (AG : Int) = (AG : Int) := IntWalk.i64_in _ (by omega)
      have q8 : IntKind.i64.wrap ((NW : Int) - (AG : Int)) = (NW : Int) - (AG : Int) := IntWalk.i64_in _ (by omega)
      have q9 : IntKind.i64.wrap ((old k : Nat) + 1 : Int) = ((old k + 1 : Nat) : Int) := by rw [IntWalk.i64_in _ (by omega)]; omega
      clear hT hF hY hy1 hy2 hNK PU hc K3 hQ hS ht
      go_upto_region 10 with fail
      go_cut [] (fun wc => Hid (∃ F, Tab wc p 64 F (fun k => k < w1.heap.size) (swL l (k + 1)) ∧ (∀ k, F k → w1.heap.size ≤ k)) ∧ Hid (Below w1.heap.size w1 wc))
      case first =>
        go_region_with (first
          | (go_at_call 13
             refine PV.out.mono ?_
             rintro e w5 ⟨rfl, F5, ht5, hg5, hk5⟩
             have K5 : Hid (∃ F, Tab w5 p 64 F (fun k => k < w1.heap.size) (swL l (k + 1)) ∧ (∀ k, F k → w1.heap.size ≤ k)) := Lib.hid ⟨F5, ht5, fun k h => (hg5 k h).elim (HFF.out k) (fun h => by have := BW.out.size; omega)⟩
             have B5 := Lib.hid (BW.out.trans (hk5.below HFF.out BW.out.size))
             clear ht5 hg5 hk5)
          | fail)
        all_goals
          go_wp2_with fail
          go_meet
          case rel => exact ⟨K5, B5⟩
      case rest =>
      obtain ⟨K5, B5⟩ := hcut
      clear CV BW TW HFF PV HPUT x1 hN q0 q1 q2 q3 q4 hQ2 hS2 hS4 hn1 hn2
      have hzc := B5.out.size
      have hcc : wc.cell? ⟨b, off + k, none⟩ = some (.int .u8 t) := (B5.out.cell (p := ⟨b, off + k, none⟩) (by show b < _; omega)).trans ((B1.out.cell (p := ⟨b, off + k, none⟩) hbw).trans (by rw [← hcr]; exact ((B1.out.trans (B3.out.mono hz1)).cell (p := ⟨b, off + k, none⟩) hbw).symm))
      clear hcr
      by_cases hlo : (t : Int) < (NW : Int) - (AG : Int)
      · have hlo2 : decide ((t : Int) < (NW : Int) - (AG : Int)) = true := decide_eq_true hlo
        have hO2 : old (k + 1) = old k + 1 := by rw [HO.out, if_pos hlo]
        go_wp2_with fail
        go_roundw
        case rel => exact ⟨k + 1, by rw [hO2]; rfl, by go_num, by omega, K5, B5⟩
        case measure => simp [intOf]; omega
      · have hlo2 : decide ((t : Int) < (NW : Int) - (AG : Int)) = false := decide_eq_false hlo
        have hO2 : old (k + 1) = old k := by rw [HO.out, if_neg hlo]; rfl
        go_wp2_with fail
        go_roundw
        case rel => exact ⟨k + 1, by rw [hO2], by go_num, by omega, K5, B5⟩
        case measure => simp [intOf]; omega
    · obtain rfl : k = n := by omega
      obtain ⟨F, hT, hF⟩ := K3.out
      have HR := Lib.hid (And.intro hT hF)
      have q6 : IntKind.i64.wrap (NW : Int) = (NW : Int) := IntWalk.i64_in _ (by omega)
      have q7 : IntKind.i64.wrap (AG : Int) = (AG : Int) := IntWalk.i64_in _ (by omega)
      have q8 : IntKind.i64.wrap ((NW : Int) - (AG : Int)) = (NW : Int) - (AG : Int) := IntWalk.i64_in _ (by omega)
      have hrise := swL_rise l (k := k) (by omega)
      have hfix := swL_fix l k
      have hlen := swL_len l k
      obtain ⟨d, hd⟩ : ∃ d, (NW : Int) - (AG : Int) = d := ⟨_, rfl⟩
      rw [hd] at q8
      obtain ⟨L, hL⟩ : ∃ L, swL l k = L := ⟨_, rfl⟩
      rw [hL] at hrise hfix hlen HR
      have hold : old k = (L.filter (oldR d ⟨#[]⟩)).length := by rw [HOLD.out]; simp only; rw [hL, hd]
      have hts := swL_t l k d
      rw [hL] at hts
      have HP := Lib.hid (And.intro hrise (And.intro hfix (And.intro hold hts)))
      clear hT hF K3 hrise hfix hL hold hts HOLD
      go_wp2_with fail
      refine (sweep_any _ p 64 F _ L (NW : Int) (AG : Int) ⟨#[]⟩ (by omega) (by omega) (by omega) (by omega) (by omega) HR.out.1).mono ?_
      rintro e w3 ⟨⟨sa, sc, rfl, -⟩, ht⟩
      rw [hd] at ht ⊢
      rw [dropsT_gone HP.out.1] at ht
      obtain ⟨M, hM⟩ : ∃ M, L.filter (fun x => !oldR d ⟨#[]⟩ x) = M := ⟨_, rfl⟩
      rw [hM] at ht
      have hMr : Rising lsS (kyR M) := by rw [← hM]; exact rise_filter HP.out.1 _
      have hMf : Fix M := by rw [← hM]; exact fun x hx => HP.out.2.1 x (List.mem_filter.1 hx).1
      have hMt : ∀ x ∈ M, ¬ x.t < d := by rw [← hM]; exact fun x hx => by have h1 := HP.out.2.2.2 x (List.mem_filter.1 hx).1 (by simpa using (List.mem_filter.1 hx).2); omega
      have hMn : ∀ x ∈ M, oldR d ⟨#[]⟩ x = false := by rw [← hM]; exact fun x hx => by simpa using (List.mem_filter.1 hx).2
      have hMl : M.length + (L.filter (oldR d ⟨#[]⟩)).length = L.length := by
        rw [← hM]
        exact filter_lens _ L
      have hMg : goneT d ⟨#[]⟩ M = [] := by
        unfold goneT
        rw [List.filter_eq_nil_iff.2 (fun x hx => by rw [hMn x hx]; simp)]; rfl
      have hgl : (goneT d ⟨#[]⟩ L).length = old k := by unfold goneT; rw [List.length_map]; exact HP.out.2.2.1.symm
      have hok : old k + M.length = k := by rw [HP.out.2.2.1]; omega
      rw [hgl]
      obtain ⟨F3, hT3, hF3, hB3'⟩ := below_turn B3.out HR.out.2 ht
      have HR3 := Lib.hid (And.intro hT3 (And.intro hF3 hB3'))
      have HM := Lib.hid (And.intro hMr (And.intro hMf (And.intro hMt hMg)))
      have hM1 : M.length ≤ 60 := by omega
      clear hT3 hF3 hB3' ht hM hMr hMf hMn hMt hMl hMg hgl HR HP B3
      go_wp2_with fail
      refine (sweep_any _ p 64 F3 _ M (NW : Int) (AG : Int) ⟨#[]⟩ (by omega) (by omega) (by omega) (by omega) (by omega) HR3.out.1).mono ?_
      rintro e w4 ⟨⟨sb, sd, rfl, -⟩, ht⟩
      rw [hd] at ht ⊢
      rw [HM.out.2.2.2] at ht ⊢
      obtain ⟨F4, hT4, hF4, hB4⟩ := below_turn HR3.out.2.2 HR3.out.2.1 ht
      have HR4 := Lib.hid (show Tab w4 p 64 F4 (fun k => k < w1.heap.size) M ∧ Below w1.heap.size w1 w4 from ⟨hT4, hB4⟩)
      clear hT4 hF4 hB4 ht HR3
      go_wp2_with fail
      refine (rows_any w4 p 64 F4 _ M (by omega) HM.out.2.1 HR4.out.1).mono ?_
      rintro e w5 ⟨⟨ra, rc, rfl, hrr⟩, hb⟩
      have B5 := Lib.hid (HR4.out.2.trans (hb.mono HR4.out.2.size))
      have R5 := Lib.hid hrr
      clear hrr hb HR4
      go_wp2_with fail
      go_loopw [14] (fun iv ws => ∃ j : Nat, iv = .int .i64 j ∧ j ≤ M.length ∧ ws = w5) (fun iv _ => M.length - (intOf iv).toNat)
      case atStart => exact ⟨0, rfl, Nat.zero_le _, rfl⟩
      case round =>
        obtain ⟨j, rfl, hj, rfl⟩ := hrel
        by_cases hjl : j < M.length
        · have a2 : (j : Int) < (M.length : Int) := by omega
          obtain ⟨rb, roff, rfl, -, hrc⟩ := R5.out.2.resolve_left (by omega)
          obtain ⟨_, _, ⟨-, r1, -⟩, -⟩ := hrc j hjl
          have hnj : ¬ (atL M j).t < d := by rw [atL_lt hjl]; have h1 := HM.out.2.2.1 _ (List.getElem_mem hjl); omega
          obtain ⟨tj, htj⟩ : ∃ tj, (atL M j).t = tj := ⟨_, rfl⟩
          rw [htj] at r1 hnj
          have hnj2 : decide (tj < d) = false := decide_eq_false hnj
          clear hrc
          go_wp2_with fail
          go_roundw
          case rel => exact ⟨j + 1, by go_num, by omega, by trivial⟩
          case measure => simp [intOf]; omega
        · obtain rfl : j = M.length := by omega
          have e1 : IntKind.i64.wrap ((k : Int) - (old k : Nat)) = (M.length : Int) := by rw [IntWalk.i64_in _ (by omega)]; omega
          go_wp2_with fail
          have P := Lib.hid (B1.out.trans (B5.out.mono hz1))
          go_ret
          exact ⟨rfl, P.out⟩

end Go.Proofs.Ytikifgenfpkidaa
