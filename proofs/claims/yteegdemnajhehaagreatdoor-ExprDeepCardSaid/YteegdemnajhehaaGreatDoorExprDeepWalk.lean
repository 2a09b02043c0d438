/-
  No statement: ExprDeep's walk.
-/
import Derived.Test.YteegdemnajhehaaGreatDoorAKnown
import Derived.Test.YteegdemnajhehaaGreatDoorABack
namespace Go.Proofs.YteegdemnajhehaaGreatDoor
open Go.RowKit

def txD (m i : Nat) : List UInt8 := if m = 0 then deep0 i else if m = 1 then deep1 i else deep2 i
def ndD (m i : Nat) : Nat := if m = 0 then 2 * i + 1 else if m = 1 then i + 1 else 1

theorem txD_len (m i : Nat) : (txD m i).length ≤ 2 * i + 1 := by
  unfold txD
  split
  · unfold deep0; rw [List.length_cons, flat_len]; omega
  · split
    · unfold deep1; simp; omega
    · unfold deep2; simp; omega
theorem txD_deep (m i : Nat) (hi : i ≤ 40) : DeepOK (txD m i) (ndD m i) := by
  unfold txD ndD
  split
  · exact deep_0 i hi
  · split
    · exact deep_1 i hi
    · exact deep_2 i hi
theorem txD_0 (i : Nat) : txD 0 (i + 1) = txD 0 i ++ [43, 49] := by
  unfold txD deep0
  rw [if_pos rfl, if_pos rfl, List.replicate_succ', List.flatten_append]
  simp
theorem txD_1 (i : Nat) : txD 1 (i + 1) = 45 :: txD 1 i := by
  unfold txD deep1
  rw [if_neg (by decide), if_pos rfl, if_neg (by decide), if_pos rfl, List.replicate_succ, List.cons_append]
theorem txD_2 (i : Nat) : txD 2 (i + 1) = 40 :: (txD 2 i ++ [41]) := by
  unfold txD deep2
  rw [if_neg (by decide), if_neg (by decide), if_neg (by decide), if_neg (by decide), List.replicate_succ, List.replicate_succ' (n := i) (a := (41 : UInt8))]
  simp

set_option maxHeartbeats 8000000 in
theorem exprDeep_walk (n s : Nat) (hn : n < 256) (hs : s < 256) (w : World) (hw : Laid9 w) : Calls Tryz.prog 6 #[.int .u8 n, .int .u8 s] w fun e w' => e = .returned (.bool true) ∧ Below w.heap.size w w' := by
  have KN := Lib.hid (known9_any w hw)
  have LD := Lib.hid hw
  clear hw
  go_enter Tryz.func6, Tryz.ntmps6
  go_wp2_with fail
  refine KN.out.mono ?_
  rintro e w1 ⟨rfl, hb1⟩
  have B1 := Lib.hid hb1
  have L1 := Lib.hid (LD.out.step hb1)
  clear hb1 KN
  go_wp2_with fail
  obtain ⟨K, hK⟩ : ∃ K : Nat, n % 40 = K := ⟨_, rfl⟩
  have hK2 : (n : Int) % 40 = (K : Int) := by omega
  have hK40 : K < 40 := by omega
  rw [hK2]
  obtain ⟨m, hm⟩ : ∃ m : Nat, s % 3 = m := ⟨_, rfl⟩
  have hm3 : m < 3 := by omega
  have m0 : ((s : Int) % 3 == 0) = decide (m = 0) := by
    by_cases h : m = 0
    · rw [decide_eq_true h, beq_iff_eq]; omega
    · rw [decide_eq_false h, beq_eq_false_iff_ne]; omega
  have m1 : ((s : Int) % 3 == 1) = decide (m = 1) := by
    by_cases h : m = 1
    · rw [decide_eq_true h, beq_iff_eq]; omega
    · rw [decide_eq_false h, beq_eq_false_iff_ne]; omega
  have m2 : ((s : Int) % 3 == 2) = decide (m = 2) := by
    by_cases h : m = 2
    · rw [decide_eq_true h, beq_iff_eq]; omega
    · rw [decide_eq_false h, beq_eq_false_iff_ne]; omega
  clear hK hK2 hm
  have SX0 := Lib.hid (show (⟨#[49]⟩ : ByteArray).data.toList = txD m 0 by
    unfold txD deep0 deep1 deep2
    split
    · rfl
    · split <;> rfl)
  have N0 : ndD m 0 = 1 := by
    unfold ndD
    split
    · rfl
    · split <;> rfl
  go_loopw [6, 7, 9] (fun sv nv iv wr => ∃ (i : Nat) (S : ByteArray), sv = .string S ∧ nv = .int .i64 (ndD m i : Nat) ∧ iv = .int .i64 i ∧ i ≤ K ∧ S.size ≤ 2 * i + 1 ∧ Hid (S.data.toList = txD m i) ∧ Hid (Below w.heap.size w wr) ∧ Hid (Laid9 wr)) (fun _ _ iv _ => K - (intOf iv).toNat)
  case atStart => exact ⟨0, _, rfl, by rw [N0]; rfl, rfl, Nat.zero_le _, by decide, SX0, B1, L1⟩
  case round =>
    obtain ⟨i, S, rfl, rfl, rfl, hi, hsz, hS, hB, hLd⟩ := hrel
    clear N0
    by_cases hlt : i < K
    · have a1 : (i : Int) < (K : Int) := by omega
      by_cases c0 : m = 0
      · subst c0
        have e1 : ndD 0 i = 2 * i + 1 := rfl
        have z1 : (9223372036854775807 < S.size + 2) = False := by rw [eq_iff_iff, iff_false]; omega
        have SX2 := Lib.hid (show (S ++ ⟨#[43, 49]⟩).data.toList = txD 0 (i + 1) by rw [txD_0, ← hS.out]; simp)
        have SZ2 : (S ++ ⟨#[43, 49]⟩).size ≤ 2 * (i + 1) + 1 := by
          have : (S ++ ⟨#[43, 49]⟩).size = S.size + 2 := ByteArray.size_append
          omega
        rw [e1]
        simp only [decide_true] at m0
        clear m1 m2 e1
        go_wp2_with fail
        go_roundw
        case rel => exact ⟨i + 1, _, rfl, by show Value.int .i64 _ = Value.int .i64 ((2 * (i + 1) + 1 : Nat) : Int); congr 1, by go_num, by omega, SZ2, SX2, hB, hLd⟩
        case measure => simp [intOf]; omega
      by_cases c1 : m = 1
      · subst c1
        have e1 : ndD 1 i = i + 1 := rfl
        have z1 : (9223372036854775807 < 1 + S.size) = False := by rw [eq_iff_iff, iff_false]; omega
        have SX2 := Lib.hid (show (⟨#[45]⟩ ++ S : ByteArray).data.toList = txD 1 (i + 1) by rw [txD_1, ← hS.out]; simp)
        have SZ2 : (⟨#[45]⟩ ++ S : ByteArray).size ≤ 2 * (i + 1) + 1 := by
          have : (⟨#[45]⟩ ++ S : ByteArray).size = 1 + S.size := ByteArray.size_append
          omega
        rw [e1]
        have m0' : ((s : Int) % 3 == 0) = false := by rw [m0]; rfl
        have m1' : ((s : Int) % 3 == 1) = true := by rw [m1]; rfl
        clear m0 m1 m2 e1 c0
        go_wp2_with fail
        go_roundw
        case rel => exact ⟨i + 1, _, rfl, by show Value.int .i64 _ = Value.int .i64 (((i + 1) + 1 : Nat) : Int); congr 1, by go_num, by omega, SZ2, SX2, hB, hLd⟩
        case measure => simp [intOf]; omega
      · obtain rfl : m = 2 := by omega
        have e1 : ndD 2 i = 1 := rfl
        have z1 : (9223372036854775807 < 1 + S.size) = False := by rw [eq_iff_iff, iff_false]; omega
        have z2 : (9223372036854775807 < 1 + S.size + 1) = False := by rw [eq_iff_iff, iff_false]; omega
        have SX2 := Lib.hid (show (⟨#[40]⟩ ++ S ++ ⟨#[41]⟩ : ByteArray).data.toList = txD 2 (i + 1) by rw [txD_2, ← hS.out]; simp)
        have SZ2 : (⟨#[40]⟩ ++ S ++ ⟨#[41]⟩ : ByteArray).size ≤ 2 * (i + 1) + 1 := by
          have h1 : (⟨#[40]⟩ ++ S : ByteArray).size = 1 + S.size := ByteArray.size_append
          have h2 : (⟨#[40]⟩ ++ S ++ ⟨#[41]⟩ : ByteArray).size = (⟨#[40]⟩ ++ S : ByteArray).size + 1 := ByteArray.size_append
          omega
        rw [e1]
        have m0' : ((s : Int) % 3 == 0) = false := by rw [m0]; rfl
        have m1' : ((s : Int) % 3 == 1) = false := by rw [m1]; rfl
        have m2' : ((s : Int) % 3 == 2) = true := by rw [m2]; rfl
        clear m0 m1 m2 e1 c0 c1
        go_wp2_with fail
        go_roundw
        case rel => exact ⟨i + 1, _, rfl, rfl, by go_num, by omega, SZ2, SX2, hB, hLd⟩
        case measure => simp [intOf]; omega
    · obtain rfl : i = K := by omega
      have a1 : ¬ (i : Int) < (i : Int) := by omega
      have HD := Lib.hid (txD_deep m i (by omega))
      have CP := pParse_any S (by omega) wr hLd.out.1
      rw [hS.out] at CP
      by_cases h32 : ndD m i ≤ 32
      · obtain ⟨t, hp, hck⟩ := HD.out.1 h32
        rw [hp] at CP
        have HCP := Lib.hid CP
        have HOK := Lib.hid (((check_iff t).1 hck).1)
        have HCK := Lib.hid hck
        have HPA := Lib.hid hp
        have b1 : ((ndD m i : Nat) : Int) ≤ 32 := by omega
        clear CP hp hck m0 m1 m2 h32
        go_wp2_with fail
        refine HCP.out.mono ?_
        rintro e w2 ⟨hb2, a, c, rfl, hr2⟩
        have BA2 := (Below.refl w2.heap.size w2).alloc (Nat.le_refl _) (ndG t.op t.nm t.n a t.ks.len c)
        have NB2 := heap_alloc_new w2 (ndG t.op t.nm t.n a t.ks.len c)
        have B2 := Lib.hid (hB.out.trans ((hb2.trans (BA2.mono hb2.size)).mono hB.out.size))
        have hsz2 : w.heap.size ≤ (w2.alloc (ndG t.op t.nm t.n a t.ks.len c)).heap.size := Nat.le_trans hB.out.size (Nat.le_trans hb2.size BA2.size)
        have CC := Lib.hid (pCheck_any t (fun b => wr.heap.size ≤ b) (w2.alloc (ndG t.op t.nm t.n a t.ks.len c)) a c (parse_sz HPA.out) (hr2.kept BA2))
        rw [HCK.out] at CC
        obtain ⟨⟨x0, x1, x2, x3⟩, -⟩ := four NB2
        clear hb2 hr2 BA2 NB2 HCP
        go_wp2_with fail
        refine CC.out.mono ?_
        rintro e w3 ⟨rfl, hb3⟩
        have B3 := Lib.hid (B2.out.trans (hb3.mono hsz2))
        clear hb3 CC x0 x1 x2 x3
        go_wp2_with fail
        go_ret
        exact ⟨rfl, B3.out⟩
      · have hp := HD.out.2 (by omega)
        rw [hp] at CP
        have HCP := Lib.hid CP
        have b1 : ¬ ((ndD m i : Nat) : Int) ≤ 32 := by omega
        clear CP hp m0 m1 m2 h32
        go_wp2_with fail
        refine HCP.out.mono ?_
        rintro e w2 ⟨hb2, rfl⟩
        have B2 := Lib.hid (hB.out.trans (((hb2.trans (((Below.refl w2.heap.size w2).alloc (Nat.le_refl _) (ndG ⟨#[]⟩ ⟨#[]⟩ 0 none 0 0)).mono hb2.size))).mono hB.out.size))
        clear hb2 HCP
        go_wp2_with fail
        go_ret
        exact ⟨rfl, B2.out⟩

end Go.Proofs.YteegdemnajhehaaGreatDoor
