/-
  No statement: known of cantonlaw10.
-/
import Derived.Test.YtcmcnmmhkpolcaaHCalc
import Derived.Test.YtcmcnmmhkpolcaaHHolds
namespace Go.Proofs.Ytcmcnmmhkpolcaa
open Go.RowKit

def a10 : Wr.AD := ⟨⟨#[97]⟩, 1, 5, ⟨#[]⟩, 0, fun _ => 0⟩
def b10 : Wr.AD := ⟨⟨#[98]⟩, 2, 0, ⟨#[120]⟩, 0, fun _ => 0⟩
def A10 (j : Nat) : Wr.AD := if j = 0 then a10 else b10
def g10 (x : ByteArray) : Option Int := if x = ⟨#[97]⟩ then some 5 else none

theorem two_cases {j : Nat} (h : j < 2) : j = 0 ∨ j = 1 := by omega

theorem under10 : Under A10 2 g10 where
  ok := {
    yes := fun j hj => by rcases two_cases hj with rfl | rfl <;> rfl
    no := fun x h => if_neg fun e => h 0 (by decide) (by rw [e]; rfl)
    fit := fun x v h => by
      unfold g10 at h
      split at h
      · cases h; unfold In64; omega
      · cases h }
  ri := fun i j hij hj => by
    obtain rfl : i = 0 := by omega
    obtain rfl : j = 1 := by omega
    show Op.bytesLess (⟨#[97]⟩ : ByteArray).toList (⟨#[98]⟩ : ByteArray).toList = true
    rw [Lib.toList_data, Lib.toList_data]
    decide
  few := by decide
  sm := fun j hj => by rcases two_cases hj with rfl | rfl <;> decide

abbrev o10 : Obj := .cells #[.string ⟨#[97]⟩, .int .i64 1, .int .i64 5, .string ⟨#[]⟩, .slice none 0 0, .string ⟨#[98]⟩, .int .i64 2, .int .i64 0, .string ⟨#[120]⟩, .slice none 0 0] 51

theorem reads10 {w : World} {b : Nat} (h : w.heap[b]? = some o10) : Wr.ReadsA w (some ⟨b, 0, none⟩) 2 A10 := by
  refine ⟨by unfold maxLen; omega, .inr ⟨b, 0, rfl, fun j hj => ?_⟩⟩
  rcases two_cases hj with rfl | rfl
  · exact ⟨none, 0, ⟨by simp [World.cell?, h, A10, a10], by simp [World.cell?, h, A10, a10], by simp [World.cell?, h, A10, a10], by simp [World.cell?, h, A10, a10], by simp [World.cell?, h, A10, a10]⟩, Nat.zero_le _, .inl rfl⟩
  · exact ⟨none, 0, ⟨by simp [World.cell?, h, A10, b10], by simp [World.cell?, h, A10, b10], by simp [World.cell?, h, A10, b10], by simp [World.cell?, h, A10, b10], by simp [World.cell?, h, A10, b10]⟩, Nat.zero_le _, .inl rfl⟩

def t10 : TN := twoT [43] (nameT [97]) (numT 2)
def u10 : TN := nameT [98]
def v10 : TN := twoT [47] t10 (numT 0)

theorem t10_ok : checkT t10 = 0 := by rfl
theorem u10_ok : checkT u10 = 0 := by rfl
theorem v10_ok : checkT v10 = 0 := by rfl
theorem t10_nums : NumsF t10.f := by simp [t10, twoT, nameT, numT, TN.f, NumsF]
theorem u10_nums : NumsF u10.f := by simp [u10, nameT, TN.f, NumsF]
theorem v10_nums : NumsF v10.f := by simp [v10, t10, twoT, nameT, numT, TN.f, NumsF]
theorem t10_sz : SzF t10.f := by simp [t10, twoT, nameT, numT, TN.f, SzF, F.len, ByteArray.size]
theorem u10_sz : SzF u10.f := by simp [u10, nameT, TN.f, SzF, F.len, ByteArray.size]
theorem v10_sz : SzF v10.f := by simp [v10, t10, twoT, nameT, numT, TN.f, SzF, F.len, ByteArray.size]
theorem t10_ev : evT g10 t10 = some 7 := by rfl
theorem u10_ev : evT g10 u10 = none := by rfl
theorem v10_ev : evT g10 v10 = none := by rfl

/-- What Eval says of a tree of these. -/
theorem eval10 (t : TN) (r : Int) (b : Bool) (h : checkT t = 0) (hn : NumsF t.f) (hS : SzF t.f) (he : (evT g10 t).getD 0 = r ∧ (evT g10 t).isSome = b) (w : World) (a : Option Addr) (c y cy : Nat) (hr : ReadsN (fun _ => True) w a t.ks) (hA : Wr.ReadsA w (some ⟨y, 0, none⟩) 2 A10) :
    Calls Try.prog 11 #[nodeV t.op t.nm t.n a t.ks.len c, .slice (some ⟨y, 0, none⟩) 2 cy] w fun e w' => e = .returned (.tuple #[.int .i64 r, .bool b]) ∧ Below w.heap.size w w' := by
  have := pEval_any under10 t h hn hS _ w a c (some ⟨y, 0, none⟩) cy hr hA
  rw [he.1, he.2] at this
  exact this

set_option maxHeartbeats 8000000 in
theorem known10_any (w : World) : Calls Try.prog 6 #[] w fun e w' => e = .returned (.bool true) ∧ Below w.heap.size w w' := by
  have B1 := (Below.refl w.heap.size w).alloc (Nat.le_refl _) o10
  have N1 := heap_alloc_new w o10
  have s1 : (w.alloc o10).heap.size = w.heap.size + 1 := World.size_alloc _ _
  generalize hW1 : w.alloc o10 = W1 at B1 N1 s1
  have B2 := (Below.refl W1.heap.size W1).alloc (Nat.le_refl _) (.cells #[.string ⟨#[110, 97, 109, 101]⟩, .string ⟨#[97]⟩, .int .i64 0, .slice none 0 0, .string ⟨#[110, 117, 109]⟩, .string ⟨#[]⟩, .int .i64 2, .slice none 0 0] 24)
  have N2 := heap_alloc_new W1 (.cells #[.string ⟨#[110, 97, 109, 101]⟩, .string ⟨#[97]⟩, .int .i64 0, .slice none 0 0, .string ⟨#[110, 117, 109]⟩, .string ⟨#[]⟩, .int .i64 2, .slice none 0 0] 24)
  have s2 : (W1.alloc (.cells #[.string ⟨#[110, 97, 109, 101]⟩, .string ⟨#[97]⟩, .int .i64 0, .slice none 0 0, .string ⟨#[110, 117, 109]⟩, .string ⟨#[]⟩, .int .i64 2, .slice none 0 0] 24)).heap.size = W1.heap.size + 1 := World.size_alloc _ _
  generalize hW2 : W1.alloc (.cells #[.string ⟨#[110, 97, 109, 101]⟩, .string ⟨#[97]⟩, .int .i64 0, .slice none 0 0, .string ⟨#[110, 117, 109]⟩, .string ⟨#[]⟩, .int .i64 2, .slice none 0 0] 24) = W2 at B2 N2 s2
  have B3 := (Below.refl W2.heap.size W2).alloc (Nat.le_refl _) (ndG ⟨#[43]⟩ ⟨#[]⟩ 0 (some ⟨W1.heap.size, 0, none⟩) 2 2)
  have N3 := heap_alloc_new W2 (ndG ⟨#[43]⟩ ⟨#[]⟩ 0 (some ⟨W1.heap.size, 0, none⟩) 2 2)
  have s3 : (W2.alloc (ndG ⟨#[43]⟩ ⟨#[]⟩ 0 (some ⟨W1.heap.size, 0, none⟩) 2 2)).heap.size = W1.heap.size + 2 := by rw [World.size_alloc, s2]
  generalize hW3 : W2.alloc (ndG ⟨#[43]⟩ ⟨#[]⟩ 0 (some ⟨W1.heap.size, 0, none⟩) 2 2) = W3 at B3 N3 s3
  rw [s2] at N3
  have P2 : ReadsN (fun _ => True) W2 (some ⟨W1.heap.size, 0, none⟩) t10.ks := .inr ⟨W1.heap.size, 0, rfl, readsF_two (ks := .nil) (ks2 := .nil) trivial N2 (.inl rfl) (.inl rfl)⟩
  have RT := Lib.hid (P2.kept B3)
  have RA := Lib.hid (((reads10 N1).kept B2).kept B3)
  have HB := Lib.hid ((B1.trans (B2.mono (by omega))).trans (B3.mono (by omega)))
  have HW1 := Lib.hid hW1
  have HW2 := Lib.hid hW2
  have HW3 := Lib.hid hW3
  have HS2 := Lib.hid s2
  have HZ := Lib.hid (show w.heap.size ≤ W3.heap.size by omega)
  have E1 := Lib.hid (eval10 t10 7 true t10_ok t10_nums t10_sz ⟨by rw [t10_ev]; rfl, by rw [t10_ev]; rfl⟩ W3 (some ⟨W1.heap.size, 0, none⟩) 2 w.heap.size 2 RT.out RA.out)
  obtain ⟨b1, hb1⟩ : ∃ b, W1.heap.size = b := ⟨_, rfl⟩
  have HB1 := Lib.hid hb1
  rw [hb1] at E1 N3 RT
  have HN := Lib.hid N3
  clear hW1 hW2 hW3 B1 B2 B3 N1 N2 N3 s1 s2 s3 P2 hb1
  obtain ⟨⟨m0, m1, m2, m3⟩, -⟩ := four HN.out
  have H1 := Lib.hid (fun V => pHolds_any ⟨#[60, 61]⟩ 3 3 V)
  have H2 := Lib.hid (fun V => pHolds_any ⟨#[61, 61]⟩ 3 3 V)
  rw [show holdsB ⟨#[60, 61]⟩ 3 3 = some true by decide] at H1
  rw [show holdsB ⟨#[61, 61]⟩ 3 3 = none by decide] at H2
  simp only [Option.getD_some, Option.isSome_some, Option.getD_none, Option.isSome_none] at H1 H2
  go_enter Try.func6, Try.ntmps6
  go_upto_region 2 with fail
  rw [HW1.out]
  go_upto_region 3 with fail
  rw [HW2.out, HW3.out, HB1.out]
  clear HW1 HW2 HW3 HB1 HS2
  go_wp2_with fail
  refine E1.out.mono ?_
  rintro e w1 ⟨rfl, hb⟩
  have HB1 := Lib.hid (HB.out.trans (hb.mono HZ.out))
  have RT1 := Lib.hid (RT.out.kept hb)
  have RA1 := Lib.hid (RA.out.kept hb)
  have HN1 := Lib.hid ((hb.block _ (lt_block HN.out)).trans HN.out)
  have HZ1 := Lib.hid (Nat.le_trans HZ.out hb.size)
  have E2 := Lib.hid (eval10 u10 0 false u10_ok u10_nums u10_sz ⟨by rw [u10_ev]; rfl, by rw [u10_ev]; rfl⟩ w1 none 0 w.heap.size 2 (.inl rfl) RA1.out)
  clear hb HB RT RA HN HZ E1 m0 m1 m2 m3
  go_wp2_with fail
  refine E2.out.mono ?_
  rintro e w2 ⟨rfl, hb⟩
  have HB2 := Lib.hid (HB1.out.trans (hb.mono HZ1.out))
  have RT2 := RT1.out.kept hb
  have RA2 := RA1.out.kept hb
  have HN2 := Lib.hid ((hb.block _ (lt_block HN1.out)).trans HN1.out)
  have HZ2 := Lib.hid (Nat.le_trans HZ1.out hb.size)
  clear hb HB1 RT1 RA1 HN1 HZ1 E2
  obtain ⟨⟨m0, m1, m2, m3⟩, -⟩ := four HN2.out
  have B3 := (Below.refl w2.heap.size w2).alloc (Nat.le_refl _) (.cells #[.string ⟨#[43]⟩, .string ⟨#[]⟩, .int .i64 0, .slice (some ⟨b1, 0, none⟩) 2 2, .string ⟨#[110, 117, 109]⟩, .string ⟨#[]⟩, .int .i64 0, .slice none 0 0] 24)
  have N3 := heap_alloc_new w2 (.cells #[.string ⟨#[43]⟩, .string ⟨#[]⟩, .int .i64 0, .slice (some ⟨b1, 0, none⟩) 2 2, .string ⟨#[110, 117, 109]⟩, .string ⟨#[]⟩, .int .i64 0, .slice none 0 0] 24)
  have P3 : ReadsN (fun _ => True) (w2.alloc (.cells #[.string ⟨#[43]⟩, .string ⟨#[]⟩, .int .i64 0, .slice (some ⟨b1, 0, none⟩) 2 2, .string ⟨#[110, 117, 109]⟩, .string ⟨#[]⟩, .int .i64 0, .slice none 0 0] 24)) (some ⟨w2.heap.size, 0, none⟩) v10.ks := .inr ⟨w2.heap.size, 0, rfl, readsF_two (ks := t10.ks) (ks2 := .nil) trivial N3 (RT2.kept B3) (.inl rfl)⟩
  have E3 := Lib.hid (eval10 v10 0 false v10_ok v10_nums v10_sz ⟨by rw [v10_ev]; rfl, by rw [v10_ev]; rfl⟩ _ (some ⟨w2.heap.size, 0, none⟩) 2 w.heap.size 2 P3 (RA2.kept B3))
  have HB3 := Lib.hid (HB2.out.trans (B3.mono HZ2.out))
  have HZ3 := Lib.hid (Nat.le_trans HZ2.out B3.size)
  clear B3 N3 P3 RT2 RA2 HB2 HN2
  go_wp2_with fail
  refine E3.out.mono ?_
  rintro e w3 ⟨rfl, hb⟩
  have HB4 := Lib.hid (HB3.out.trans (hb.mono HZ3.out))
  clear hb HB3 HZ3 HZ2 E3 m0 m1 m2 m3
  go_wp2_with fail
  refine (H1.out _).mono ?_
  rintro e w4 ⟨rfl, rfl⟩
  go_wp2_with fail
  refine (H2.out _).mono ?_
  rintro e w5 ⟨rfl, rfl⟩
  go_wp2_with fail
  go_ret
  exact ⟨rfl, HB4.out⟩

set_option maxHeartbeats 4000000 in
theorem calcHolds_walk (o : ByteArray) (a b : Int) (_ho : o.size ≤ maxLen) (_ha : In64 a) (_hb : In64 b) (w : World) : Calls Try.prog 4 #[.string o, .int .i64 a, .int .i64 b] w fun e w' => e = .returned (.bool true) ∧ Below w.heap.size w w' := by
  have KN := Lib.hid (known10_any w)
  have H1 := Lib.hid (fun V => pHolds_any o a b V)
  have H2 := Lib.hid (fun V => rHolds_any o a b V)
  obtain ⟨r, hr⟩ : ∃ r, (holdsB o a b).getD false = r := ⟨_, rfl⟩
  obtain ⟨z, hz⟩ : ∃ z, (holdsB o a b).isSome = z := ⟨_, rfl⟩
  rw [hr, hz] at H1 H2
  clear hr hz
  go_enter Try.func4, Try.ntmps4
  go_wp2_with fail
  refine KN.out.mono ?_
  rintro e w1 ⟨rfl, hb⟩
  have HB := Lib.hid hb
  clear hb KN
  by_cases h20 : (20 : Int) < (o.size : Int)
  · go_wp2_with fail
    go_ret
    exact ⟨rfl, HB.out⟩
  · go_wp2_with fail
    refine (H1.out _).mono ?_
    rintro e w2 ⟨rfl, rfl⟩
    go_wp2_with fail
    refine (H2.out _).mono ?_
    rintro e w3 ⟨rfl, rfl⟩
    have e1 : (r == r) = true := by simp
    have e2 : (z == z) = true := by simp
    go_wp2_with fail
    go_ret
    exact ⟨rfl, HB.out⟩

end Go.Proofs.Ytcmcnmmhkpolcaa
