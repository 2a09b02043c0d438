/-
  No statement: TableFull's walk.
-/
import Derived.Test.YtikifgenfpkidaaTbKnown
import Derived.Test.YtikifgenfpkidaaTbM3
import Derived.Test.YtikifgenfpkidaaTbArgs
import Derived.Laws.IdiomStrings
import Derived.Deep.CutBlock
import Derived.Deep.DeepCutAuto
set_option linter.unusedVariables false
set_option linter.unusedSimpArgs false
namespace Go.Proofs.Ytikifgenfpkidaa
open Go.RowKit

theorem isT_fL (t : Nat → Nat) (s : Nat → Bool) {n i : Nat} (hn : n ≤ 60) (hi : i < n) : isT (fL t s n) (kyI i) = s i := by
  unfold isT
  cases hs : s i with
  | true =>
    have hm : rowI t i ∈ fL t s n := List.mem_map.2 ⟨i, fI_mem.2 ⟨hi, hs⟩, rfl⟩
    cases hg : getT (fL t s n) (kyI i) with
    | some x => rfl
    | none => exact absurd (List.mem_map.2 ⟨_, hm, rfl⟩) (getT_none hg)
  | false =>
    cases hg : getT (fL t s n) (kyI i) with
    | none => rfl
    | some x =>
      obtain ⟨hx, e⟩ := getT_some hg
      obtain ⟨j, hj, rfl⟩ := List.mem_map.1 hx
      obtain ⟨h1, h2⟩ := fI_mem.1 hj
      have := kyI_inj (by omega) (by omega) (show kyI j = kyI i from e)
      rw [this, hs] at h2; cases h2

theorem fI_step (s : Nat → Bool) (m : Nat) : (fI s (m + 1)).length = (fI s m).length + (if s m = true then 1 else 0) := by
  rw [fI_succ]
  split
  · rw [List.length_append]; rfl
  · rfl

set_option maxHeartbeats 16000000 in
set_option maxRecDepth 100000 in
theorem tableFull_walk (mo : UInt8) (a : Option Addr) (c : Nat) (l : List UInt8) (w : World) (hr : BR w a c l) :
    Calls Try.prog 4 #[.int .u8 mo.toNat, .slice a l.length c] w fun e w' => e = .returned (.bool true) ∧ Below w.heap.size w w' := by
  have R := Lib.hid hr
  have KN := Lib.hid (known_any w)
  have hmo := mo.toNat_lt
  obtain ⟨MO, hMO⟩ : ∃ MO, mo.toNat = MO := ⟨_, rfl⟩
  rw [hMO] at hmo ⊢
  obtain ⟨n, hn⟩ : ∃ n, l.length = n := ⟨_, rfl⟩
  rw [hn]
  obtain ⟨K0, hK0⟩ : ∃ K0, MO % 10 = K0 := ⟨_, rfl⟩
  have hK9 : K0 < 10 := by omega
  have r1 : ((MO : Int)).tmod 10 = (K0 : Int) := by rw [Int.tmod_eq_emod_of_nonneg (by omega)]; omega
  have r2 : IntKind.i64.wrap (K0 : Int) = (K0 : Int) := IntWalk.i64_in _ (by omega)
  have r4 : IntKind.u8.wrap (K0 : Int) = (K0 : Int) := IntWalk.u8_in _ (by omega)
  obtain ⟨K, hK⟩ : ∃ K, 1 + K0 = K := ⟨_, rfl⟩
  have r3 : IntKind.i64.wrap (1 + (K0 : Int)) = (K : Int) := by rw [IntWalk.i64_in _ (by omega)]; omega
  have hK1 : 1 ≤ K := by omega
  have hK10 : K ≤ 10 := by omega
  obtain ⟨t, htd⟩ : ∃ t : Nat → Nat, t = fun i => (l.getD i 0).toNat := ⟨_, rfl⟩
  have T256 := Lib.hid (p := ∀ i, t i < 256) (fun i => by rw [htd]; exact (l.getD i 0).toNat_lt)
  have HC := Lib.hid (p := 0 < n → ∃ b off, a = some ⟨b, off, none⟩ ∧ b < w.heap.size ∧ ∀ i, i < n → w.cell? ⟨b, off + i, none⟩ = some (.int .u8 (t i : Nat))) (fun h0 => by
    rcases hr.2.2 with ⟨_, h⟩ | ⟨h, _⟩ | ⟨b, off, h, hc⟩
    · have := hr.1; omega
    · subst h; simp at hn; omega
    · refine ⟨b, off, h, ?_, fun i hi => ?_⟩
      · have := World.block_lt_of_cell? w _ (hc 0 (by omega)); simpa using this
      · have hi' : i < l.length := by omega
        rw [hc i hi', htd]
        simp [List.getD, List.getElem?_eq_getElem hi'])
  clear hr hMO hK0 htd R
  go_enter Try.func4, Try.ntmps4
  go_wp2_with fail
  refine KN.out.mono ?_
  rintro e w1 ⟨rfl, hb⟩
  have B1 := Lib.hid hb
  clear hb KN
  by_cases hbig : 60 < n
  · have h1 : (60 : Int) < (n : Int) := by omega
    go_wp2_with fail
    go_ret
    exact ⟨rfl, B1.out⟩
  have h1 : ¬ (60 : Int) < (n : Int) := by omega
  go_wp2_with fail
  refine (new_any w1 (K : Int) (by omega) (by omega)).mono ?_
  rintro e w2 ⟨p, rfl, F2, hT, hF, hb⟩
  have K2 : Hid (∃ F, Tab w2 p (K : Int) F (fun k => k < w1.heap.size) (fL t (fun _ => true) 0) ∧ (∀ k, F k → w1.heap.size ≤ k)) := Lib.hid ⟨F2, hT, hF⟩
  have B2 := Lib.hid (show Below w1.heap.size w1 w2 from hb)
  have hz1 := B1.out.size
  have S2 : Hid (StI t K (fun _ => true) 0) := Lib.hid ⟨by rw [if_pos (by omega)]; rfl, fun i j h => by omega⟩
  clear hT hF hb h1 hK r1 r2 r3 r4
  go_wp2_with fail
  go_loopw [8] (fun iv wr => ∃ (m : Nat) (s : Nat → Bool), iv = .int .i64 m ∧ m ≤ n ∧ Hid (StI t K s m) ∧ Hid (∃ F, Tab wr p (K : Int) F (fun k => k < w1.heap.size) (fL t s m) ∧ (∀ k, F k → w1.heap.size ≤ k)) ∧ Hid (Below w1.heap.size w1 wr)) (fun iv _ => n - (intOf iv).toNat)
  case atStart => exact ⟨0, _, rfl, Nat.zero_le _, S2, K2, B2⟩
  case round =>
    obtain ⟨k, s, rfl, hk, S3, K3, B3⟩ := hrel
    clear K2 B2 S2
    by_cases hlt : k < n
    · have hk60 : k < 60 := by omega
      have a1 : (k : Int) < (n : Int) := by omega
      have ht256 := T256.out k
      obtain ⟨b, off, rfl, hbw, hcc⟩ := HC.out (by omega)
      have hc := hcc k hlt
      have hcw := Lib.hid hcc
      clear hcc
      obtain ⟨tk, htk⟩ : ∃ tk, t k = tk := ⟨_, rfl⟩
      rw [htk] at hc ht256
      have hzr := B3.out.size
      have hcr : wr.cell? ⟨b, off + k, none⟩ = some (.int .u8 tk) := (B3.out.cell (p := ⟨b, off + k, none⟩) (by show b < _; omega)).trans ((B1.out.cell (p := ⟨b, off + k, none⟩) hbw).trans hc)
      have hbr : b < wr.heap.size := by omega
      obtain ⟨Q, hQ⟩ : ∃ Q, k / 26 = Q := ⟨_, rfl⟩
      obtain ⟨S, hS⟩ : ∃ S, k % 26 = S := ⟨_, rfl⟩
      have hQ2 : (k : Int) / 26 = (Q : Int) := by omega
      have hS2 : (k : Int) % 26 = (S : Int) := by omega
      have hQ3 : Q < 3 := by omega
      have hS3 : S < 26 := by omega
      have q1 : IntKind.i64.wrap (97 + (Q : Int)) = 97 + (Q : Int) := IntWalk.i64_in _ (by omega)
      have q2 : IntKind.i64.wrap (97 + (S : Int)) = 97 + (S : Int) := IntWalk.i64_in _ (by omega)
      have q0 : IntKind.i64.wrap (Q : Int) = (Q : Int) := IntWalk.i64_in _ (by omega)
      have q3 : IntKind.u8.wrap (97 + (Q : Int)) = 97 + (Q : Int) := IntWalk.u8_in _ (by omega)
      have q4 : IntKind.u8.wrap (97 + (S : Int)) = 97 + (S : Int) := IntWalk.u8_in _ (by omega)
      have hS4 : ((k : Int)).tmod 26 = (S : Int) := by rw [Int.tmod_eq_emod_of_nonneg (by omega)]; omega
      have q5 : IntKind.i64.wrap (tk : Int) = (tk : Int) := IntWalk.i64_in _ (by omega)
      obtain ⟨y1, hy1⟩ : ∃ y : UInt8, y = UInt8.ofNat (97 + Q) := ⟨_, rfl⟩
      obtain ⟨y2, hy2⟩ : ∃ y : UInt8, y = UInt8.ofNat (97 + S) := ⟨_, rfl⟩
      have hn1 : y1.toNat = 97 + Q := by rw [hy1]; simp; omega
      have hn2 : y2.toNat = 97 + S := by rw [hy2]; simp; omega
      obtain ⟨Y, hY⟩ : ∃ Y : ByteArray, (⟨[y1, y2].toArray⟩ : ByteArray) = Y := ⟨_, rfl⟩
      have CV : (convert 48 9 (.slice (some ⟨wr.heap.size, 0, none⟩) 2 2)).run Try.prog (wr.alloc (.cells #[.int .u8 (97 + (Q : Int)), .int .u8 (97 + (S : Int))] 5)).drew = .ok (.string Y) (wr.alloc (.cells #[.int .u8 (97 + (Q : Int)), .int .u8 (97 + (S : Int))] 5)).drew := by
        rw [← hY]
        refine run_convert_bytes_back _ 48 9 5 ⟨wr.heap.size, 0, none⟩ 2 [y1, y2] Try.underlying48 Try.underlying5 Try.underlying9 (fun j hj => ?_)
        rw [Addr.add_lit]
        show (wr.alloc _).cell? _ = _
        rw [cell_of_row _ _ _ _ _ (0, 0) (heap_alloc_new wr _)]
        rcases j with _ | _ | j
        · simp [hn1]
        · simp [hn2]
        · exfalso; simp only [List.length_cons, List.length_nil] at hj; omega
      have hYz : Y.size = 2 := by rw [← hY]; rfl
      have x1 : (9223372036854775807 < 1 + Y.size) = False := by rw [eq_iff_iff, iff_false]; omega
      have hN : (⟨#[107]⟩ ++ Y : ByteArray) = kyI k := by
        rw [← hY, hy1, hy2]
        unfold kyI
        rw [hQ, hS]
        rfl
      obtain ⟨s', hs1, hs2, hs3⟩ := putI t K hK1 s k hk60 (T256.out k) S3.out
      obtain ⟨NK, hNK⟩ : ∃ NK, kyI k = NK := ⟨_, rfl⟩
      have hrow : rowI t k = bareR NK tk k := by unfold rowI; rw [hNK, htk]
      rw [hrow] at hs2 hs3
      rw [hNK] at hN
      have hNz : NK.size ≤ 1000 := by rw [← hNK]; show (3 : Nat) ≤ 1000; omega
      have S4 := Lib.hid hs1
      have BW := Lib.hid (B3.out.trans ((((Below.refl wr.heap.size wr).alloc (Nat.le_refl _) (.cells #[.int .u8 (97 + (Q : Int)), .int .u8 (97 + (S : Int))] 5)).trans ((drewB _).mono (by simp))).mono hzr))
      obtain ⟨F, hT, hF⟩ := K3.out
      have TW := Lib.hid ((hT.below ((Below.refl wr.heap.size wr).alloc (Nat.le_refl _) (.cells #[.int .u8 (97 + (Q : Int)), .int .u8 (97 + (S : Int))] 5))).below (drewB _))
      have HFF := Lib.hid hF
      have hfl : (fL t s k).length ≤ 1000 := by rw [fL_len]; have := fI_le s k; omega
      have PU := Lib.hid (put_any _ p (K : Int) F _ (fL t s k) (bareR NK tk k) none 0 (by unfold In64; omega) (by omega) hfl (bareR_bound _ _ _ hNz) TW.out (bareR_reads _ _ _ _ _))
      unfold PutPost at PU
      rw [hs2] at PU
      obtain ⟨E, hE⟩ : ∃ E, (putX (K : Int) (fL t s k) (bareR NK tk k)).1 = E := ⟨_, rfl⟩
      rw [hE] at PU hs3
      have HE0 := Lib.hid hs3
      have PV : Hid (Calls Try.prog 13 #[.pointer (some ⟨p, 0, none⟩), .agg #[.string NK, .int .i64 tk, .int .i64 0, .int .i64 k, .string ⟨#[47, 122]⟩, .slice none 0 0]] (wr.alloc (.cells #[.int .u8 (97 + (Q : Int)), .int .u8 (97 + (S : Int))] 5)).drew fun e w' => e = .returned (.int .i64 E) ∧ TurnT (wr.alloc (.cells #[.int .u8 (97 + (Q : Int)), .int .u8 (97 + (S : Int))] 5)).drew w' p (K : Int) F (fun k => k < w1.heap.size) (fL t s' (k + 1))) := PU
      clear hT hF hY hy1 hy2 hNK PU hc K3 hQ hS hs1 hs2 hs3 hE hrow hfl S3 htk
      go_upto_region 12 with fail
      go_cut [9] (fun v9 wc => v9 = .int .i64 E ∧ Hid (∃ F, Tab wc p (K : Int) F (fun k => k < w1.heap.size) (fL t s' (k + 1)) ∧ (∀ k, F k → w1.heap.size ≤ k)) ∧ Hid (Below w1.heap.size w1 wc))
      case first =>
        go_region_with (first
          | (go_at_call 13
             refine PV.out.mono ?_
             rintro e w5 ⟨rfl, F5, ht5, hg5, hk5⟩
             have K5 : Hid (∃ F, Tab w5 p (K : Int) F (fun k => k < w1.heap.size) (fL t s' (k + 1)) ∧ (∀ k, F k → w1.heap.size ≤ k)) := Lib.hid ⟨F5, ht5, fun k h => (hg5 k h).elim (HFF.out k) (fun h => by have := BW.out.size; omega)⟩
             have B5 := Lib.hid (BW.out.trans (hk5.below HFF.out BW.out.size))
             clear ht5 hg5 hk5)
          | fail)
        all_goals
          go_wp2_with fail
          go_meet
          case rel => exact ⟨rfl, K5, B5⟩
      case rest =>
      obtain ⟨rfl, K5, B5⟩ := hcut
      clear CV BW TW HFF PV x1 hN q0 q1 q2 q3 q4 hQ2 hS2 hS4 hn1 hn2 hcr
      by_cases hkK : k < K
      · have e1 : (k : Int) < (K : Int) := by omega
        obtain rfl : E = 0 := HE0.out hkK
        clear HE0
        go_wp2_with fail
        go_roundw
        case rel => exact ⟨k + 1, s', by go_num, by omega, S4, K5, B5⟩
        case measure => simp [intOf]; omega
      · have e1 : ¬ (k : Int) < (K : Int) := by omega
        clear HE0
        go_wp2_with fail
        go_roundw
        case rel => exact ⟨k + 1, s', by go_num, by omega, S4, K5, B5⟩
        case measure => simp [intOf]; omega
    · obtain rfl : k = n := by omega
      obtain ⟨F, hT, hF⟩ := K3.out
      have HT := Lib.hid hT
      obtain ⟨N, hN⟩ : ∃ N, (fL t s k).length = N := ⟨_, rfl⟩
      have HNW := Lib.hid (show N = if k ≤ K then k else K by rw [← hN, fL_len]; exact S3.out.1)
      have HFX := Lib.hid (fL_fix t s k)
      clear hT hF K3
      go_wp2_with fail
      refine (rows_any wr p (K : Int) F _ (fL t s k) (by rw [fL_len]; have := fI_le s k; omega) HFX.out HT.out).mono ?_
      rintro e w3 ⟨⟨ra, rc, rfl, -⟩, hb⟩
      rw [hN]
      have B4 := Lib.hid (B3.out.trans (hb.mono B3.out.size))
      have T4 := Lib.hid (HT.out.below hb)
      clear hb HT B3
      clear hN
      go_upto_if 77 with fail
      go_cut [11] (fun v11 wc => v11 = .int .i64 (N : Nat) ∧ w3 = wc)
      case first =>
        by_cases hkK : K < k
        · have e1 : (K : Int) < (k : Int) := by omega
          have e2 := Lib.hid (show N = K by rw [HNW.out, if_neg (by omega)])
          have e3 : decide ((K : Int) < (k : Int)) = true := decide_eq_true e1
          clear HNW
          go_wp2_with fail
          go_meet
          case rel => exact ⟨by rw [e2.out], rfl⟩
        · have e1 : ¬ (K : Int) < (k : Int) := by omega
          have e2 := Lib.hid (show N = k by rw [HNW.out, if_pos (by omega)])
          have e3 : decide ((K : Int) < (k : Int)) = false := decide_eq_false e1
          clear HNW
          go_wp2_with fail
          go_meet
          case rel => exact ⟨by rw [e2.out], rfl⟩
      case rest =>
      obtain ⟨rfl, rfl⟩ := hcut
      clear HNW
      go_wp2_with fail
      go_loopw [12] (fun iv ws => ∃ i : Nat, iv = .int .i64 i ∧ i ≤ k ∧ Hid (Tab ws p (K : Int) F (fun k => k < w1.heap.size) (fL t s k)) ∧ Hid (Below w1.heap.size w1 ws)) (fun iv _ => k - (intOf iv).toNat)
      case atStart => exact ⟨0, rfl, Nat.zero_le _, T4, B4⟩
      case round =>
        obtain ⟨i, rfl, hi, T5, B5⟩ := hrel
        clear T4 B4
        by_cases hlt2 : i < k
        · have hi60 : i < 60 := by omega
          have a1 : (i : Int) < (k : Int) := by omega
          have hzs := B5.out.size
          obtain ⟨b, off, rfl, hbw, hcc⟩ := HC.out (by omega)
          have CW := Lib.hid (p := ∀ j, j < k → ∀ ws, Below w1.heap.size w1 ws → ws.cell? ⟨b, off + j, none⟩ = some (.int .u8 (t j : Nat))) (fun j hj ws hb => (hb.cell (p := ⟨b, off + j, none⟩) (by show b < _; omega)).trans ((B1.out.cell (p := ⟨b, off + j, none⟩) hbw).trans (hcc j hj)))
          clear hcc
          obtain ⟨Q, hQ⟩ : ∃ Q, i / 26 = Q := ⟨_, rfl⟩
          obtain ⟨S, hS⟩ : ∃ S, i % 26 = S := ⟨_, rfl⟩
          have hQ2 : (i : Int) / 26 = (Q : Int) := by omega
          have hS2 : (i : Int) % 26 = (S : Int) := by omega
          have hQ3 : Q < 3 := by omega
          have hS3 : S < 26 := by omega
          have q1 : IntKind.i64.wrap (97 + (Q : Int)) = 97 + (Q : Int) := IntWalk.i64_in _ (by omega)
          have q2 : IntKind.i64.wrap (97 + (S : Int)) = 97 + (S : Int) := IntWalk.i64_in _ (by omega)
          have q0 : IntKind.i64.wrap (Q : Int) = (Q : Int) := IntWalk.i64_in _ (by omega)
          have q3 : IntKind.u8.wrap (97 + (Q : Int)) = 97 + (Q : Int) := IntWalk.u8_in _ (by omega)
          have q4 : IntKind.u8.wrap (97 + (S : Int)) = 97 + (S : Int) := IntWalk.u8_in _ (by omega)
          have hS4 : ((i : Int)).tmod 26 = (S : Int) := by rw [Int.tmod_eq_emod_of_nonneg (by omega)]; omega
          obtain ⟨y1, hy1⟩ : ∃ y : UInt8, y = UInt8.ofNat (97 + Q) := ⟨_, rfl⟩
          obtain ⟨y2, hy2⟩ : ∃ y : UInt8, y = UInt8.ofNat (97 + S) := ⟨_, rfl⟩
          have hn1 : y1.toNat = 97 + Q := by rw [hy1]; simp; omega
          have hn2 : y2.toNat = 97 + S := by rw [hy2]; simp; omega
          obtain ⟨Y, hY⟩ : ∃ Y : ByteArray, (⟨[y1, y2].toArray⟩ : ByteArray) = Y := ⟨_, rfl⟩
          obtain ⟨W1, hW1⟩ : ∃ W1, wr.alloc (.cells #[.int .u8 (97 + (Q : Int)), .int .u8 (97 + (S : Int))] 5) = W1 := ⟨_, rfl⟩
          have CV : (convert 48 9 (.slice (some ⟨wr.heap.size, 0, none⟩) 2 2)).run Try.prog (wr.alloc (.cells #[.int .u8 (97 + (Q : Int)), .int .u8 (97 + (S : Int))] 5)) = .ok (.string Y) (wr.alloc (.cells #[.int .u8 (97 + (Q : Int)), .int .u8 (97 + (S : Int))] 5)) := by
            rw [← hY]
            refine run_convert_bytes_back _ 48 9 5 ⟨wr.heap.size, 0, none⟩ 2 [y1, y2] Try.underlying48 Try.underlying5 Try.underlying9 (fun j hj => ?_)
            rw [Addr.add_lit, cell_of_row _ _ _ _ _ (0, 0) (heap_alloc_new wr _)]
            rcases j with _ | _ | j
            · simp [hn1]
            · simp [hn2]
            · exfalso; simp only [List.length_cons, List.length_nil] at hj; omega
          have hYz : Y.size = 2 := by rw [← hY]; rfl
          have x1 : (9223372036854775807 < 1 + Y.size) = False := by rw [eq_iff_iff, iff_false]; omega
          have hN : (⟨#[107]⟩ ++ Y : ByteArray) = kyI i := by
            rw [← hY, hy1, hy2]
            unfold kyI
            rw [hQ, hS]
            rfl
          obtain ⟨NK, hNK⟩ : ∃ NK, kyI i = NK := ⟨_, rfl⟩
          rw [hNK] at hN
          have bW1 := (Below.refl wr.heap.size wr).alloc (Nat.le_refl _) (.cells #[.int .u8 (97 + (Q : Int)), .int .u8 (97 + (S : Int))] 5)
          have GT := Lib.hid (get_any _ p (K : Int) F _ (fL t s k) NK (by rw [fL_len]; have := fI_le s k; omega) HFX.out (T5.out.below bW1))
          rw [← hNK, isT_fL t s (by omega) hlt2, hNK] at GT
          have HB1 := Lib.hid (And.intro (B5.out.trans (bW1.mono hzs)) (T5.out.below bW1))
          clear hW1 hY hy1 hy2 bW1 hQ hS hNK
          obtain ⟨Z, hZ⟩ : ∃ Z, getZ (fL t s k) NK = Z := ⟨_, rfl⟩
          rw [hZ] at GT
          clear hZ
          go_upto_region 25 with (go_at_call 16; refine GT.out.mono ?_; rintro e v5 ⟨⟨b3, d3, rfl, -⟩, hb⟩; unfold rowV)
          generalize hV5 : World.alloc v5 _ = V5
          have hb5 : Below v5.heap.size v5 V5 := by rw [← hV5]; exact (Below.refl _ _).alloc (Nat.le_refl _) _
          have hb6 := hb.trans (hb5.mono hb.size)
          have T6 := Lib.hid (HB1.out.2.below hb6)
          have B6 := Lib.hid (HB1.out.1.trans (hb6.mono HB1.out.1.size))
          clear hV5 hb hb5 hb6 HB1 GT CV x1 hN q0 q1 q2 q3 q4 hQ2 hS2 hS4 hn1 hn2 T5 B5
          go_upto_block 4 with fail
          go_cut [15] (fun v15 wc => v15 = .int .i64 ((fI (fun j => nw t j i) k).length : Nat) ∧ Hid (Tab wc p (K : Int) F (fun k => k < w1.heap.size) (fL t s k)) ∧ Hid (Below w1.heap.size w1 wc))
          case first =>
            go_wp2_with fail
            go_loopw [15, 16] (fun nv jv ws => ∃ j : Nat, nv = .int .i64 ((fI (fun j => nw t j i) j).length : Nat) ∧ jv = .int .i64 j ∧ j ≤ k ∧ Hid (Tab ws p (K : Int) F (fun k => k < w1.heap.size) (fL t s k)) ∧ Hid (Below w1.heap.size w1 ws)) (fun _ jv _ => k - (intOf jv).toNat)
            case atStart => exact ⟨0, rfl, rfl, Nat.zero_le _, T6, B6⟩
            case round =>
              obtain ⟨j, rfl, rfl, hj, T7, B7⟩ := hrel
              clear T6 B6
              by_cases hlt3 : j < k
              · have a3 : (j : Int) < (k : Int) := by omega
                have cj := CW.out j hlt3 _ B7.out
                have ci := CW.out i hlt2 _ B7.out
                have HS1 := Lib.hid (fI_step (fun j => nw t j i) j)
                have hle := fI_le (fun j => nw t j i) j
                obtain ⟨cn, hcn⟩ : ∃ cn, (fI (fun j => nw t j i) j).length = cn := ⟨_, rfl⟩
                rw [hcn] at HS1 hle
                rw [hcn]
                obtain ⟨bn, hbn⟩ : ∃ bn, nw t j i = bn := ⟨_, rfl⟩
                have HS2 := Lib.hid (show (fI (fun j => nw t j i) (j + 1)).length = cn + (if bn = true then 1 else 0) by rw [HS1.out, hbn])
                have HBN := Lib.hid hbn
                obtain ⟨ti, hti⟩ : ∃ ti, t i = ti := ⟨_, rfl⟩
                obtain ⟨tj, htj⟩ : ∃ tj, t j = tj := ⟨_, rfl⟩
                rw [hti] at ci
                rw [htj] at cj
                have hbn2 : bn = (decide (ti < tj) || (decide (ti = tj) && decide (i < j))) := by rw [← hbn]; unfold nw; rw [hti, htj]
                clear hcn HS1 hbn hti htj
                go_upto_region 29 with fail
                go_cut [135] (fun v135 wc => v135 = .bool bn ∧ Hid (Tab wc p (K : Int) F (fun k => k < w1.heap.size) (fL t s k)) ∧ Hid (Below w1.heap.size w1 wc))
                case first =>
                  have DQ := Lib.hid (p := ∀ q, Tab (wr.drewN q) p (K : Int) F (fun k => k < w1.heap.size) (fL t s k) ∧ Below w1.heap.size w1 (wr.drewN q)) (fun q => ⟨T7.out.below ⟨rfl, rfl, rfl, Nat.le_refl _, fun _ _ => rfl⟩, B7.out.trans ((show Below wr.heap.size wr (wr.drewN q) from ⟨rfl, rfl, rfl, Nat.le_refl _, fun _ _ => rfl⟩).mono B7.out.size)⟩)
                  rcases Nat.lt_trichotomy ti tj with hh | hh | hh
                  · have d1 : decide ((ti : Int) < (tj : Int)) = true := decide_eq_true (by omega)
                    have hb1 : bn = true := by rw [hbn2, decide_eq_true hh]; rfl
                    clear hbn2
                    go_wp2_with (go_quiet (fail))
                    go_meet
                    case rel => exact ⟨by rw [hb1], Lib.hid (DQ.out _).1, Lib.hid (DQ.out _).2⟩
                  · subst hh
                    have d1 : decide ((ti : Int) < (ti : Int)) = false := decide_eq_false (by omega)
                    have d2 : ((ti : Int) == (ti : Int)) = true := beq_self_eq_true _
                    by_cases hij : i < j
                    · have d3 : decide ((i : Int) < (j : Int)) = true := decide_eq_true (by omega)
                      have hb1 : bn = true := by rw [hbn2, decide_eq_false (Nat.lt_irrefl ti), decide_eq_true rfl, decide_eq_true hij]; rfl
                      clear hbn2
                      go_wp2_with (go_quiet (fail))
                      go_meet
                      case rel => exact ⟨by rw [hb1], Lib.hid (DQ.out _).1, Lib.hid (DQ.out _).2⟩
                    · have d3 : decide ((i : Int) < (j : Int)) = false := decide_eq_false (by omega)
                      have hb1 : bn = false := by rw [hbn2, decide_eq_false (Nat.lt_irrefl ti), decide_eq_true rfl, decide_eq_false hij]; rfl
                      clear hbn2
                      go_wp2_with (go_quiet (fail))
                      go_meet
                      case rel => exact ⟨by rw [hb1], Lib.hid (DQ.out _).1, Lib.hid (DQ.out _).2⟩
                  · have d1 : decide ((ti : Int) < (tj : Int)) = false := decide_eq_false (by omega)
                    have d2 : ((tj : Int) == (ti : Int)) = false := by rw [beq_eq_false_iff_ne]; omega
                    have d8 : decide (ti < tj) = false := decide_eq_false (by omega)
                    have d9 : ¬ ti < tj := by omega
                    have d10 : ¬ (ti : Int) < (tj : Int) := by omega
                    have d4 : (tj == ti) = false := by rw [beq_eq_false_iff_ne]; omega
                    have d5 : ¬ tj = ti := by omega
                    have d7 : decide (tj = ti) = false := decide_eq_false d5
                    have hb1 : bn = false := by rw [hbn2, decide_eq_false (by omega), decide_eq_false (by omega : ¬ ti = tj)]; rfl
                    clear hbn2
                    go_wp2_with (go_quiet (fail))
                    go_meet
                    case rel => exact ⟨by rw [hb1], Lib.hid (DQ.out _).1, Lib.hid (DQ.out _).2⟩
                case rest =>
                obtain ⟨rfl, T8, B8⟩ := hcut
                clear T7 B7 cj ci hbn2
                have q9 : IntKind.i64.wrap ((cn : Nat) + 1 : Int) = ((cn + 1 : Nat) : Int) := by rw [IntWalk.i64_in _ (by omega)]; omega
                cases bn with
                | true =>
                  have h9 : (fI (fun j => nw t j i) (j + 1)).length = cn + 1 := by rw [HS2.out, if_pos rfl]
                  clear HBN
                  go_wp2_with fail
                  go_roundw
                  case rel => exact ⟨j + 1, by rw [h9]; rfl, by go_num, by omega, T8, B8⟩
                  case measure => simp [intOf]; omega
                | false =>
                  have h9 : (fI (fun j => nw t j i) (j + 1)).length = cn := by rw [HS2.out, if_neg (by simp)]; rfl
                  clear HBN
                  go_wp2_with fail
                  go_roundw
                  case rel => exact ⟨j + 1, by rw [h9], by go_num, by omega, T8, B8⟩
                  case measure => simp [intOf]; omega
              · have hjk : j = k := by omega
                have hc2 := Lib.hid (show (fI (fun j => nw t j i) j).length = (fI (fun j => nw t j i) k).length by rw [hjk])
                have a4 : ¬ (j : Int) < (k : Int) := by omega
                clear hjk
                go_wp2_with fail
                go_meet
                case rel => exact ⟨by rw [hc2.out], T7, B7⟩
          case rest =>
          obtain ⟨rfl, T9, B9⟩ := hcut
          clear T6 B6
          have hrk := rank_iff hK1 hlt2 S3.out
          obtain ⟨cn, hcn⟩ : ∃ cn, (fI (fun j => nw t j i) k).length = cn := ⟨_, rfl⟩
          rw [hcn] at hrk
          rw [hcn]
          obtain ⟨si, hsi⟩ : ∃ si, s i = si := ⟨_, rfl⟩
          rw [hsi] at hrk
          rw [hsi]
          clear hcn hsi
          by_cases hcK : cn < K
          · obtain rfl : si = true := by rw [hrk]; exact decide_eq_true hcK
            have e1 : (cn : Int) < (K : Int) := by omega
            have e2 : decide ((cn : Int) < (K : Int)) = true := decide_eq_true e1
            clear hrk
            go_wp2_with fail
            go_roundw
            case rel => exact ⟨i + 1, by go_num, by omega, T9, B9⟩
            case measure => simp [intOf]; omega
          · obtain rfl : si = false := by rw [hrk]; exact decide_eq_false hcK
            have e1 : ¬ (cn : Int) < (K : Int) := by omega
            have e2 : decide ((cn : Int) < (K : Int)) = false := decide_eq_false e1
            have e3 : decide (cn < K) = false := decide_eq_false hcK
            clear hrk
            go_wp2_with fail
            go_roundw
            case rel => exact ⟨i + 1, by go_num, by omega, T9, B9⟩
            case measure => simp [intOf]; omega
        · obtain rfl : i = k := by omega
          have P := Lib.hid (B1.out.trans (B5.out.mono hz1))
          go_wp2_with fail
          go_ret
          exact ⟨rfl, P.out⟩

end Go.Proofs.Ytikifgenfpkidaa
