/-
  No statement: the walk of cantonlaw1.MapTwins: it returns true and turns nothing that was there.
-/
import Derived.Test.YtbfnoflemmneoaaKnown
namespace Go.Proofs.Ytbfnoflemmneoaa
open Go.RowKit

/-- What the walk is told of a []string that came in: its elements, text by text. -/
def IsStrs (w : World) (a : Option Addr) (len : Nat) (Sx : Nat → ByteArray) : Prop :=
  len ≤ maxLen ∧ (∀ j, j < len → (Sx j).size ≤ maxLen) ∧ (len = 0 ∨ ∃ b off, a = some ⟨b, off, none⟩ ∧ ∀ j, j < len → w.cell? ⟨b, off + j, none⟩ = some (.string (Sx j)))

theorem text_ne {x y : ByteArray} (h : ¬ x = y) : (x.toList == y.toList) = false := by
  rw [beq_eq_false_iff_ne]; intro e; exact h (bytes_eq e)

/-- Loop 1: the first k texts lie in the map, and nothing else; q is none of them. -/
def Tw1 (W wr : World) (p : Nat) (Sx : Nat → ByteArray) (q : ByteArray) (k : Nat) : Prop :=
  ∃ ks vs, Sep W wr [ObSI p ks vs] ∧ Rising lsS ks ∧ ks.length ≤ k ∧ (∀ x, x ∈ ks ↔ ∃ j, j < k ∧ Sx j = x) ∧ q ∉ ks

/-- Loop 2: what is left of the second twin: what the first k texts did not take. -/
def Tw2 (W wr : World) (p t u n len : Nat) (Sx : Nat → ByteArray) (q : ByteArray) (k : Nat) : Prop :=
  ∃ ks vs km vm kt vt, Sep W wr [ObSI u ks vs, ObSI p km vm, ObSI t kt vt] ∧ Rising lsS ks ∧ Rising lsS km ∧ Rising lsS kt ∧ ks.length ≤ 60 ∧ km.length = n + 1 ∧ kt.length = n + 1 ∧ n ≤ 60 ∧
    q ∈ km ∧ vm[pos lsS km q]? = some 2 ∧ q ∈ kt ∧ vt[pos lsS kt q]? = some 1 ∧ q ∉ ks ∧ (∀ x, x ∈ ks → ∃ j, k ≤ j ∧ j < len ∧ Sx j = x)

set_option maxHeartbeats 2000000 in
set_option maxRecDepth 100000 in
theorem twins_walk (a0 : Option Addr) (len cap : Nat) (Sx : Nat → ByteArray) (q : ByteArray) (W : World) (hl : IsStrs W a0 len Sx) (hq : q.size ≤ maxLen) :
    Calls Try.prog 6 #[.slice a0 len cap, .string q] W fun e w' => e = .returned (.bool true) ∧ Kept (fun _ => False) W w' := by
  obtain ⟨hm, hsz, hcells⟩ := hl
  unfold maxLen at hm hq hsz
  by_cases h60 : 60 < len
  · go_enter Try.func6, Try.ntmps6
    go_wp2_with (go_at_call 7; refine (known_any _).mono ?_; rintro e w1 ⟨rfl, hk⟩)
    go_ret
    exact ⟨rfl, hk⟩
  by_cases h100 : 100 < q.size
  · go_enter Try.func6, Try.ntmps6
    go_wp2_with (go_at_call 7; refine (known_any _).mono ?_; rintro e w1 ⟨rfl, hk⟩)
    go_ret
    exact ⟨rfl, hk⟩
  have HC := Lib.hid hcells
  have HZ := Lib.hid hsz
  clear hcells hsz
  go_enter Try.func6, Try.ntmps6
  go_wp2_with (go_at_call 7; refine (known_any _).mono ?_; rintro e w1 ⟨rfl, hk⟩)
  refine (sNewSI (Sep.start W |>.kept hk)).mono ?_
  rintro e w2 ⟨p, rfl, S⟩
  have S2 := Lib.hid S
  clear S hk
  go_wp2_with fail
  go_loopw [6] (fun i wr => ∃ k : Nat, k ≤ len ∧ i = .int .i64 k ∧ Hid (Tw1 W wr p Sx q k)) (fun i _ => len - (intOf i).toNat)
  case atStart => exact ⟨0, Nat.zero_le _, rfl, [], [], S2.out, List.Pairwise.nil, Nat.le_refl _, fun x => by simp, by simp⟩
  case round =>
    obtain ⟨k, hk, rfl, T⟩ := hrel
    clear S2
    by_cases hlt : k < len
    · obtain ⟨b, off, rfl, hc⟩ := HC.out.resolve_left (by omega)
      obtain ⟨ks, vs, S, hr, hn, hm1, hq1⟩ := T.out
      have ck := S.old (hc k hlt)
      have hys := HZ.out k hlt
      obtain ⟨y, hy⟩ : ∃ y, Sx k = y := ⟨_, rfl⟩
      rw [hy] at ck hys
      have HY := Lib.hid hy
      have HS := Lib.hid (p := Sep W wr [ObSI p ks vs] ∧ Rising lsS ks ∧ ks.length ≤ k ∧ (∀ x, x ∈ ks ↔ ∃ j, j < k ∧ Sx j = x) ∧ q ∉ ks) ⟨S, hr, hn, hm1, hq1⟩
      clear hy S hr hn hm1 hq1 T hc
      by_cases hy100 : 100 < y.size
      · go_wp2
        go_ret
        exact ⟨rfl, HS.out.1.1⟩
      by_cases hyq : y = q
      · subst hyq
        go_wp2
        go_ret
        exact ⟨rfl, HS.out.1.1⟩
      have hne := text_ne hyq
      have HQ := Lib.hid hyq
      clear hyq
      go_wp2_with fail
      go_at_call 10
      refine (sPutSI y k HS.out.1 (by have := HS.out.2.2.1; omega) HS.out.2.1).mono ?_
      rintro e w3 ⟨rfl, S⟩
      have S3 := Lib.hid S
      clear S ck
      go_wp2
      go_roundw
      case rel =>
        refine ⟨k + 1, by omega, by go_num, Lib.hid ⟨_, _, S3.out, rising_putK strictS HS.out.2.1 y, ?_, fun x => ?_, ?_⟩⟩
        · have := length_putK_le (less := lsS) ks y
          have := HS.out.2.2.1
          omega
        · rw [mem_putK, HS.out.2.2.2.1]
          constructor
          · rintro (⟨j, hj, e⟩ | e)
            · exact ⟨j, by omega, e⟩
            · exact ⟨k, by omega, by rw [HY.out, e]⟩
          · rintro ⟨j, hj, e⟩
            by_cases hjk : j = k
            · right; rw [← e, hjk, HY.out]
            · exact Or.inl ⟨j, by omega, e⟩
        · rw [mem_putK]
          rintro (h | h)
          · exact HS.out.2.2.2.2 h
          · exact HQ.out h.symm
      case measure => simp [intOf]; omega
    · obtain rfl : k = len := by omega
      obtain ⟨ks, vs, S, hr, hn, hm1, hq1⟩ := T.out
      have hvl := ObSI.len S (List.Mem.head _)
      have HS := Lib.hid (p := Rising lsS ks ∧ ks.length ≤ k ∧ (∀ x, x ∈ ks ↔ ∃ j, j < k ∧ Sx j = x) ∧ q ∉ ks ∧ vs.length = ks.length) ⟨hr, hn, hm1, hq1, hvl⟩
      have S3 := Lib.hid S
      have hn60 : ks.length ≤ 60 := by omega
      clear S hr hn hm1 hq1 T hvl
      go_wp2_with fail
      go_at_call 12
      refine (sTwinSI S3.out (List.Mem.head _) (by omega)).mono ?_
      rintro e w4 ⟨t, rfl, S⟩
      have S4 := Lib.hid S
      clear S S3
      go_wp2_with fail
      go_at_call 12
      refine (sTwinSI S4.out (List.Mem.tail _ (List.Mem.head _)) (by omega)).mono ?_
      rintro e w5 ⟨u, rfl, S⟩
      have S5 := Lib.hid S
      clear S S4
      go_wp2_with fail
      go_at_call 14
      refine (sLenSI S5.out (List.Mem.tail _ (List.Mem.tail _ (List.Mem.head _)))).mono ?_
      rintro e w6 ⟨rfl, rfl⟩
      have S6 := Lib.hid S5.out.swap
      clear S5
      go_wp2_with fail
      go_at_call 10
      refine (sPutSI q 1 S6.out (by omega) HS.out.1).mono ?_
      rintro e w7 ⟨rfl, S⟩
      have S7 := Lib.hid S.third
      clear S S6
      go_wp2_with fail
      go_at_call 10
      refine (sPutSI q 2 S7.out (by omega) HS.out.1).mono ?_
      rintro e w8 ⟨rfl, S⟩
      have S8 := Lib.hid S.third
      clear S S7
      obtain ⟨n, hnn⟩ : ∃ n, ks.length = n := ⟨_, rfl⟩
      rw [hnn] at hn60
      have HN := Lib.hid hnn
      simp only [hnn]
      clear hnn
      go_wp2_with fail
      go_loopw [10] (fun i wr => ∃ i2 : Nat, i2 ≤ k ∧ i = .int .i64 i2 ∧ Hid (Tw2 W wr p t u n k Sx q i2)) (fun i _ => k - (intOf i).toNat)
      case atStart =>
        have hno := has_no HS.out.2.2.2.1
        refine ⟨0, Nat.zero_le _, rfl, Lib.hid ⟨ks, vs, _, _, _, _, S8.out, HS.out.1, rising_putK strictS HS.out.1 q, rising_putK strictS HS.out.1 q, by rw [HN.out]; exact hn60, ?_, ?_, hn60, (mem_putK _ _ _).2 (Or.inr rfl), ?_, (mem_putK _ _ _).2 (Or.inr rfl), ?_, HS.out.2.2.2.1, fun x hx => ?_⟩⟩
        · rw [length_putK, hno, HN.out]; rfl
        · rw [length_putK, hno, HN.out]; rfl
        · rw [pos_putK strictS]; exact putV_at strictS HS.out.1 HS.out.2.2.2.2 q 2
        · rw [pos_putK strictS]; exact putV_at strictS HS.out.1 HS.out.2.2.2.2 q 1
        · obtain ⟨j, hj, e⟩ := (HS.out.2.2.1 x).1 hx
          exact ⟨j, Nat.zero_le _, hj, e⟩
      case round =>
        obtain ⟨i2, hi2, rfl, T⟩ := hrel
        clear S8
        obtain ⟨ku, vu, km, vm, kt, vt, S, r1, r2, r3, l1, l2, l3, l4, m1, m2, m3, m4, m5, m6⟩ := T.out
        have HT := Lib.hid (p := Rising lsS ku ∧ ku.length ≤ 60 ∧ q ∉ ku ∧ ∀ x, x ∈ ku → ∃ j, i2 ≤ j ∧ j < k ∧ Sx j = x) ⟨r1, l1, m5, m6⟩
        have HM := Lib.hid (p := Rising lsS km ∧ km.length = n + 1 ∧ q ∈ km ∧ vm[pos lsS km q]? = some 2) ⟨r2, l2, m1, m2⟩
        have HK := Lib.hid (p := Rising lsS kt ∧ kt.length = n + 1 ∧ q ∈ kt ∧ vt[pos lsS kt q]? = some 1) ⟨r3, l3, m3, m4⟩
        have S9 := Lib.hid S
        clear r1 r2 r3 l1 l2 l3 l4 m1 m2 m3 m4 m5 m6 S T
        by_cases hlt : i2 < k
        · obtain ⟨b, off, rfl, hc⟩ := HC.out.resolve_left (by omega)
          have ck := S9.out.old (hc i2 hlt)
          obtain ⟨y, hy⟩ : ∃ y, Sx i2 = y := ⟨_, rfl⟩
          rw [hy] at ck
          have HY := Lib.hid hy
          clear hy hc
          go_wp2_with fail
          go_at_call 11
          refine (sDropSI y S9.out (by have := HT.out.2.1; omega) HT.out.1).mono ?_
          rintro e w9 ⟨rfl, S⟩
          have S10 := Lib.hid S
          clear S ck
          go_wp2
          go_roundw
          case rel =>
            refine ⟨i2 + 1, by omega, by go_num, Lib.hid ⟨_, _, _, _, _, _, S10.out, rising_dropK HT.out.1 y, HM.out.1, HK.out.1, ?_, HM.out.2.1, HK.out.2.1, hn60, HM.out.2.2.1, HM.out.2.2.2, HK.out.2.2.1, HK.out.2.2.2, ?_, fun x hx => ?_⟩⟩
            · have := length_dropK_le (less := lsS) ku y
              have := HT.out.2.1
              omega
            · rw [mem_dropK strictS HT.out.1]
              exact fun h => HT.out.2.2.1 h.1
            · rw [mem_dropK strictS HT.out.1] at hx
              obtain ⟨j, h1, h2, h3⟩ := HT.out.2.2.2 x hx.1
              have : j ≠ i2 := fun e => hx.2 (by rw [← h3, e, HY.out])
              exact ⟨j, by omega, h2, h3⟩
          case measure => simp [intOf]; omega
        · obtain rfl : i2 = k := by omega
          obtain rfl : ku = [] := by
            cases ku with
            | nil => rfl
            | cons a r =>
              obtain ⟨j, h1, h2, _⟩ := HT.out.2.2.2 a (List.Mem.head _)
              omega
          have hk1 : km.length ≤ 1000000 := by have := HM.out.2.1; omega
          have hk2 : kt.length ≤ 1000000 := by have := HK.out.2.1; omega
          go_wp2_with fail
          go_at_call 15
          refine (sGetSI (v := 1) S9.out (List.Mem.tail _ (List.Mem.tail _ (List.Mem.head _))) hk2 HK.out.1 HK.out.2.2.1 HK.out.2.2.2).mono ?_
          rintro e w9 ⟨rfl, S⟩
          have S10 := Lib.hid S
          clear S S9
          go_wp2_with fail
          go_at_call 15
          refine (sGetSI (v := 2) S10.out (List.Mem.tail _ (List.Mem.head _)) hk1 HM.out.1 HM.out.2.2.1 HM.out.2.2.2).mono ?_
          rintro e w10 ⟨rfl, S⟩
          have S11 := Lib.hid S
          clear S S10
          go_wp2_with fail
          go_at_call 15
          refine (sGetOutSI S11.out (List.Mem.head _) (by simp) HT.out.1 HT.out.2.2.1).mono ?_
          rintro e w11 ⟨rfl, S⟩
          have S12 := Lib.hid S
          clear S S11
          have L1 := Lib.hid (sLenSI S12.out (List.Mem.head _))
          have L2 := Lib.hid (sLenSI S12.out (List.Mem.tail _ (List.Mem.head _)))
          have L3 := Lib.hid (sLenSI S12.out (List.Mem.tail _ (List.Mem.tail _ (List.Mem.head _))))
          rw [HM.out.2.1] at L2
          rw [HK.out.2.1] at L3
          clear hk1 hk2
          go_wp2_with (go_at_call 14; first | ((with_reducible refine L1.out.mono ?_); rintro e w' ⟨rfl, rfl⟩) | ((with_reducible refine L2.out.mono ?_); rintro e w' ⟨rfl, rfl⟩) | ((with_reducible refine L3.out.mono ?_); rintro e w' ⟨rfl, rfl⟩))
          go_ret
          exact ⟨rfl, S12.out.1⟩

end Go.Proofs.Ytbfnoflemmneoaa
