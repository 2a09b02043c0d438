/-
  No statement: what these walks need, of earlier texts: EDec, EText, GOfT, GFoldT, GFace, GConcat, GOfL.
-/
import Derived.Test.YtcmcnmmhkpolcaaGreatDoorHZ7
import Derived.WalkKit
import Derived.WalkSpells
import Derived.Lib.Hide
import Derived.Deep.Draws
import Derived.Sort.Walk0
import Derived.Lib.ParseIntB
import Derived.Lib.AtoiErrMem
import Derived.Lib.AppendIntMem
import Derived.Test.YtcmcnmmhkpolcaaGreatDoorShelf
import Derived.Test.YtcmcnmmhkpolcaaGreatDoorProg
import Derived.IntWalk
import Derived.LoopTactic
import Derived.StillTailTactics
import Derived.Deep.QuietTactic
import Derived.BigQuiet
import Derived.Lib.ParseIntBTie
import Derived.RangeFuncRecord
import Derived.ArgAppend
import Derived.OwnWalk
import Derived.BigRegion
import Derived.Deep.Cut
import Derived.Deep.RegionLaw
import Derived.Deep.RegionHeld3
import Derived.Shelf.Spec.SearchS
import Derived.Laws.IdiomStrings
import Derived.Lib.AppendZerosOnto
import Derived.Lib.SliceRun
import Derived.Lib.OwnBridge
import Derived.Lib.SlicesCompact
import Derived.Sort.OwnSorted
import Derived.RangeFuncBox
namespace Go.Proofs.YtcmcnmmhkpolcaaGreatDoor
section
open Go.RowKit

/-- A digit's byte. -/
def dig (m : Nat) : ByteArray := ⟨#[UInt8.ofNat (48 + m % 10)]⟩

/-- What stands ahead of the digits that are told. -/
def ahead (m : Nat) : List UInt8 := if m < 10 then [] else Lib.decDigits (m / 10)

theorem dec_ahead (m : Nat) : Lib.decDigits m = ahead m ++ (dig m).data.toList := by
  unfold ahead
  by_cases h : m < 10
  · rw [if_pos h, Lib.decDigits, dif_pos h]; simp [dig, Nat.mod_eq_of_lt h]
  · rw [if_neg h, Lib.decDigits, dif_neg h]; simp [dig]

theorem digit_conv (w : World) (m : Nat) : (convert 83 9 (.slice (some ⟨w.heap.size, 0, none⟩) 1 1)).run Tryz.prog (w.alloc (.cells #[.int .u8 (48 + (m : Int) % 10)] 5)) = .ok (.string (dig m)) (w.alloc (.cells #[.int .u8 (48 + (m : Int) % 10)] 5)) := by
  have := run_convert_bytes_back (P := Tryz.prog) (w.alloc (.cells #[.int .u8 (48 + (m : Int) % 10)] 5)) 83 9 5 ⟨w.heap.size, 0, none⟩ 1 [UInt8.ofNat (48 + m % 10)] Tryz.underlying83 Tryz.underlying5 Tryz.underlying9 (fun j hj => by
    obtain rfl : j = 0 := by simpa using hj
    have e : ((UInt8.ofNat (48 + m % 10)).toNat : Int) = 48 + (m : Int) % 10 := by
      rw [UInt8.toNat_ofNat']; omega
    simp only [List.getElem_cons_zero, e]
    exact cell_one_new w _ _ 0 _ rfl)
  exact this

theorem dec_length {n : Nat} (hn : n ≤ 9223372036854775807) : (Lib.decDigits n).length ≤ 21 := by
  have := dec_len 18 n (by omega)
  omega

set_option maxRecDepth 100000 in
set_option maxHeartbeats 4000000 in
theorem decNat_any (n : Nat) (hn : n ≤ 9223372036854775807) (w : World) : Calls Tryz.prog 30 #[.int .i64 n] w fun e w' => e = .returned (.string ⟨(Lib.decDigits n).toArray⟩) ∧ Below w.heap.size w w' := by
  have hcv := digit_conv w n
  have DC := Lib.hid (fun w m => digit_conv w m)
  have q1 : ((n : Int) == -9223372036854775808) = false := by rw [beq_eq_false_iff_ne]; omega
  have q2 : decide ((n : Int) < 0) = false := decide_eq_false (by omega)
  have ql := Lib.hid (dec_length hn)
  go_enter Tryz.func30, Tryz.ntmps30
  go_wp2
  go_loopw [0, 3] (fun v t wr => ∃ (m : Nat) (T : ByteArray), m ≤ 9223372036854775807 ∧ v = .int .i64 m ∧ t = .string T ∧ Hid (Lib.decDigits n = ahead m ++ T.data.toList) ∧ Hid (Below w.heap.size w wr)) (fun v _ _ => (intOf v).toNat)
  case atStart => exact ⟨n, dig n, hn, rfl, rfl, Lib.hid (dec_ahead n), Lib.hid ((Below.refl _ _).alloc (Nat.le_refl _) _)⟩
  case round =>
    obtain ⟨m, T, hm, rfl, rfl, hd, hb⟩ := hrel
    clear hcv
    by_cases h : 10 ≤ m
    · have hcv : (convert 83 9 (.slice (some ⟨wr.heap.size, 0, none⟩) 1 1)).run Tryz.prog (wr.alloc (.cells #[.int .u8 (48 + (m : Int) / 10 % 10)] 5)) = .ok (.string (dig (m / 10))) (wr.alloc (.cells #[.int .u8 (48 + (m : Int) / 10 % 10)] 5)) := DC.out wr (m / 10)
      have hd2 := Lib.hid (show Lib.decDigits n = ahead (m / 10) ++ (dig (m / 10) ++ T).data.toList by
        rw [hd.out, show ahead m = Lib.decDigits (m / 10) by unfold ahead; rw [if_neg (by omega)], dec_ahead (m / 10)]
        simp)
      have hb2 := Lib.hid (hb.out.alloc (by have := hb.out.size; exact this) (.cells #[.int .u8 (48 + (m : Int) / 10 % 10)] 5))
      have hT : T.size ≤ 21 := by
        have := congrArg List.length hd.out
        rw [List.length_append] at this
        have e : T.data.toList.length = T.size := by simp
        have := ql.out
        omega
      have hD : (dig (m / 10)).size ≤ 1 := Nat.le_refl _
      go_wp2
      exact ⟨⟨m / 10, dig (m / 10) ++ T, by omega, rfl, rfl, hd2, hb2⟩, by simp [intOf]; omega⟩
    · go_wp2
      go_ret
      refine ⟨?_, hb.out⟩
      rw [hd.out, show ahead m = [] by unfold ahead; rw [if_pos (by omega)]]
      rfl

end

section
open Go.RowKit

/-- NodeText's contract at a tree. -/
def TxtOK (t : TN) : Prop := ∀ (G : Nat → Prop) (w : World) (a : Option Addr) (c : Nat), (textE t).length ≤ 4000 → ReadsN G w a t.ks → Calls Tryz.prog 12 #[nodeV t.op t.nm t.n a t.ks.len c] w fun e w' => e = .returned (.string ⟨(textE t).toArray⟩) ∧ Below w.heap.size w w'

theorem op_yes {o : ByteArray} {x : List UInt8} (h : (o.data.toList == x) = true) : (o.toList == x) = true := by rw [Lib.toList_data]; exact h

theorem op_not {o : ByteArray} {x : List UInt8} (h : (o.data.toList == x) = false) : (o.toList == x) = false := by rw [Lib.toList_data]; exact h

set_option maxHeartbeats 4000000 in
theorem txt_num (o m : ByteArray) (n : Int) (h1 : isNum o = true) (h0 : 0 ≤ n) (hn : n ≤ 9223372036854775807) : TxtOK ⟨o, m, n, .nil⟩ := by
  intro G w a c hl hr
  rw [(text_num h1).1]
  clear hl hr
  dsimp only
  have g1 := op_yes h1
  unfold bNum at g1
  obtain ⟨k, rfl⟩ : ∃ k : Nat, n = k := ⟨n.toNat, by omega⟩
  have D := Lib.hid (fun V => decNat_any k (by omega) V)
  have R := Lib.hid (show Lib.itoa (k : Int) = Lib.decDigits k by rw [Lib.itoa, if_neg (by omega), Int.toNat_natCast])
  have NB := Lib.hid (heap_alloc_new w (ndO o m k a F.nil.len c))
  have B0 := Lib.hid ((Below.refl w.heap.size w).alloc (Nat.le_refl _) (ndO o m k a F.nil.len c))
  clear h0 hn h1
  go_enter Tryz.func12, Tryz.ntmps12
  go_wp2_with fail
  generalize w.alloc (ndO o m k a F.nil.len c) = W at NB B0 ⊢
  obtain ⟨⟨m0, m1, m2, m3⟩, -⟩ := four NB.out
  go_wp2_with fail
  refine (D.out _).mono ?_
  rintro e w1 ⟨rfl, hb⟩
  have B1 := Lib.hid (B0.out.trans (hb.mono B0.out.size))
  clear hb
  go_wp2_with fail
  go_ret
  rw [R.out]
  exact ⟨rfl, B1.out⟩

set_option maxHeartbeats 4000000 in
theorem txt_name (o m : ByteArray) (n : Int) (h1 : isNum o = false) (h2 : isName o = true) : TxtOK ⟨o, m, n, .nil⟩ := by
  intro G w a c hl hr
  rw [(text_name h1 h2).1, ba_toList]
  clear hl hr
  dsimp only
  have g1 := op_not h1
  have g2 := op_yes h2
  unfold bNum at g1
  unfold bName at g2
  have B0 := Lib.hid ((Below.refl w.heap.size w).alloc (Nat.le_refl _) (ndO o m n a F.nil.len c))
  clear h1 h2
  go_enter Tryz.func12, Tryz.ntmps12
  go_wp2_with fail
  go_ret
  exact ⟨rfl, B0.out⟩

set_option maxHeartbeats 4000000 in
theorem txt_neg (o m : ByteArray) (n : Int) (t : TN) (h1 : isNum o = false) (h2 : isName o = false) (h3 : isNeg o = true) (ih : TxtOK t) : TxtOK ⟨o, m, n, t.f⟩ := by
  intro G w a c hl hr
  rw [(text_neg t h1 h2 h3).1] at hl ⊢
  dsimp only at hr ⊢
  rw [show t.f.len = 1 from rfl]
  have g1 := op_not h1
  have g2 := op_not h2
  have g3 := op_yes h3
  unfold bNum at g1
  unfold bName at g2
  unfold bNeg at g3
  rw [List.length_cons] at hl
  obtain ⟨T, hT⟩ : ∃ T, textE t = T := ⟨_, rfl⟩
  rw [hT] at hl ⊢
  have NB := Lib.hid (heap_alloc_new w (ndO o m n a 1 c))
  have B0 := Lib.hid ((Below.refl w.heap.size w).alloc (Nat.le_refl _) (ndO o m n a 1 c))
  obtain ⟨b, off, a2, c2, ha, hG, hbl, ⟨p0, p1, p2, p3⟩, hr2⟩ := readsN_at (hr.kept B0.out) (show t.f.at 0 = some t from rfl)
  have C := Lib.hid (ih G (w.alloc (ndO o m n a 1 c)) a2 c2 (by rw [hT]; omega) hr2)
  rw [hT] at C
  rw [Nat.zero_mul, Nat.add_zero] at p0 p1 p2 p3
  subst ha
  have hS : (⟨T.toArray⟩ : ByteArray).size ≤ 4000 := by show T.toArray.size ≤ 4000; simp; omega
  obtain ⟨S, hS2⟩ : ∃ S : ByteArray, ⟨T.toArray⟩ = S := ⟨_, rfl⟩
  have E := Lib.hid (show (⟨(45 :: T).toArray⟩ : ByteArray) = ⟨#[45]⟩ ++ S from text_eq (by rw [← hS2]; simp))
  rw [hS2] at C hS
  clear h1 h2 h3 hr ih hl hT hr2 hS2
  go_enter Tryz.func12, Tryz.ntmps12
  go_wp2_with fail
  generalize w.alloc (ndO o m n (some ⟨b, off, none⟩) 1 c) = W at NB B0 C hbl p0 p1 p2 p3 ⊢
  obtain ⟨⟨m0, m1, m2, m3⟩, -⟩ := four NB.out
  go_wp2_with fail
  refine C.out.mono ?_
  rintro e w1 ⟨rfl, hb⟩
  have B1 := Lib.hid (B0.out.trans (hb.mono B0.out.size))
  clear hb
  go_wp2_with fail
  go_ret
  rw [E.out]
  exact ⟨rfl, B1.out⟩

set_option maxHeartbeats 8000000 in
theorem txt_two (o m : ByteArray) (n : Int) (t u : TN) (h1 : isNum o = false) (h2 : isName o = false) (h3 : isNeg o = false) (h4 : isTwo o = true) (ih : TxtOK t) (iu : TxtOK u) : TxtOK ⟨o, m, n, .cons t.op t.nm t.n t.ks u.f⟩ := by
  intro G w a c hl hr
  rw [(text_two t u h1 h2 h3).1] at hl ⊢
  dsimp only at hr ⊢
  rw [show (F.cons t.op t.nm t.n t.ks u.f).len = 2 from rfl]
  have g1 := op_not h1
  have g2 := op_not h2
  have g3 := op_not h3
  unfold bNum at g1
  unfold bName at g2
  unfold bNeg at g3
  have hos : o.size = 1 := by
    obtain ⟨_, x, hx, _⟩ := two_sign h4
    have : o.data.toList.length = 1 := by rw [hx]; rfl
    rw [← this]; simp
  simp only [List.length_cons, List.length_append, List.length_nil] at hl
  obtain ⟨T, hT⟩ : ∃ T, textE t = T := ⟨_, rfl⟩
  obtain ⟨U, hU⟩ : ∃ U, textE u = U := ⟨_, rfl⟩
  rw [hT, hU] at hl ⊢
  have NB := Lib.hid (heap_alloc_new w (ndO o m n a 2 c))
  have B0 := Lib.hid ((Below.refl w.heap.size w).alloc (Nat.le_refl _) (ndO o m n a 2 c))
  obtain ⟨b, off, a2, c2, ha, hG, hbl, ⟨p0, p1, p2, p3⟩, hr2⟩ := readsN_at (hr.kept B0.out) (show (F.cons t.op t.nm t.n t.ks u.f).at 0 = some t from rfl)
  obtain ⟨b', off', a3, c3, ha', hG', hbl', ⟨q0, q1, q2, q3⟩, hr3⟩ := readsN_at (hr.kept B0.out) (show (F.cons t.op t.nm t.n t.ks u.f).at 1 = some u from rfl)
  subst ha
  cases ha'
  have C := Lib.hid (ih G (w.alloc (ndO o m n (some ⟨b, off, none⟩) 2 c)).drew a2 c2 (by rw [hT]; omega) (hr2.kept (drew_below _)))
  have D := Lib.hid (fun V (hV : Below (w.alloc (ndO o m n (some ⟨b, off, none⟩) 2 c)).heap.size (w.alloc (ndO o m n (some ⟨b, off, none⟩) 2 c)) V) => iu G V a3 c3 (by rw [hU]; omega) (hr3.kept hV))
  rw [hT] at C
  rw [hU] at D
  rw [Nat.zero_mul, Nat.add_zero] at p0 p1 p2 p3
  rw [Nat.one_mul] at q0 q1 q2 q3
  have hS : (⟨T.toArray⟩ : ByteArray).size ≤ 4000 := by show T.toArray.size ≤ 4000; simp; omega
  have hV : (⟨U.toArray⟩ : ByteArray).size ≤ 4000 := by show U.toArray.size ≤ 4000; simp; omega
  obtain ⟨S, hS2⟩ : ∃ S : ByteArray, ⟨T.toArray⟩ = S := ⟨_, rfl⟩
  obtain ⟨V, hV2⟩ : ∃ S : ByteArray, ⟨U.toArray⟩ = S := ⟨_, rfl⟩
  have E := Lib.hid (show (⟨(40 :: (T ++ 32 :: (o.data.toList ++ 32 :: (U ++ [41])))).toArray⟩ : ByteArray) = ⟨#[40]⟩ ++ S ++ ⟨#[32]⟩ ++ o ++ ⟨#[32]⟩ ++ V ++ ⟨#[41]⟩ from text_eq (by rw [← hS2, ← hV2]; simp))
  rw [hS2] at C hS
  rw [hV2] at D hV
  have z1 : (9223372036854775807 < 1 + S.size) = False := by rw [eq_iff_iff, iff_false]; omega
  have z2 : (9223372036854775807 < 1 + S.size + 1) = False := by rw [eq_iff_iff, iff_false]; omega
  have z3 : (9223372036854775807 < 1 + S.size + 1 + o.size) = False := by rw [eq_iff_iff, iff_false]; omega
  have z4 : (9223372036854775807 < 1 + S.size + 1 + o.size + 1) = False := by rw [eq_iff_iff, iff_false]; omega
  have z5 : (9223372036854775807 < 1 + S.size + 1 + o.size + 1 + V.size) = False := by rw [eq_iff_iff, iff_false]; omega
  have z6 : (9223372036854775807 < 1 + S.size + 1 + o.size + 1 + V.size + 1) = False := by rw [eq_iff_iff, iff_false]; omega
  clear h1 h2 h3 h4 hr ih iu hl hT hU hr2 hr3 hS2 hV2 hos
  go_enter Tryz.func12, Tryz.ntmps12
  go_wp2_with fail
  generalize w.alloc (ndO o m n (some ⟨b, off, none⟩) 2 c) = W at NB B0 C D hbl hbl' p0 p1 p2 p3 q0 q1 q2 q3 ⊢
  obtain ⟨⟨m0, m1, m2, m3⟩, -⟩ := four NB.out
  have hlt := lt_block NB.out
  have CELLS := Lib.hid (p := ∀ w', Below W.heap.size W w' → (w'.cell? ⟨w.heap.size, 0, none⟩ = some (.string o) ∧ w'.cell? ⟨w.heap.size, 3, none⟩ = some (.slice (some ⟨b, off, none⟩) 2 c) ∧ w'.cell? ⟨b, off, none⟩ = some (.string t.op) ∧ w'.cell? ⟨b, off + 1, none⟩ = some (.string t.nm) ∧ w'.cell? ⟨b, off + 2, none⟩ = some (.int .i64 t.n) ∧ w'.cell? ⟨b, off + 3, none⟩ = some (.slice a2 t.ks.len c2) ∧ w'.cell? ⟨b, off + 4, none⟩ = some (.string u.op) ∧ w'.cell? ⟨b, off + 4 + 1, none⟩ = some (.string u.nm) ∧ w'.cell? ⟨b, off + 4 + 2, none⟩ = some (.int .i64 u.n) ∧ w'.cell? ⟨b, off + 4 + 3, none⟩ = some (.slice a3 u.ks.len c3))) (fun w' h => ⟨(h.cell hlt).trans m0, (h.cell hlt).trans m3, (h.cell hbl).trans p0, (h.cell hbl).trans p1, (h.cell hbl).trans p2, (h.cell hbl).trans p3, (h.cell hbl).trans q0, (h.cell hbl).trans q1, (h.cell hbl).trans q2, (h.cell hbl).trans q3⟩)
  go_wp2_with fail
  go_region_held3 (fun w' => w'.cell? ⟨w.heap.size, 0, none⟩ = some (.string o) ∧ w'.cell? ⟨w.heap.size, 3, none⟩ = some (.slice (some ⟨b, off, none⟩) 2 c) ∧ w'.cell? ⟨b, off, none⟩ = some (.string t.op) ∧ w'.cell? ⟨b, off + 1, none⟩ = some (.string t.nm) ∧ w'.cell? ⟨b, off + 2, none⟩ = some (.int .i64 t.n) ∧ w'.cell? ⟨b, off + 3, none⟩ = some (.slice a2 t.ks.len c2) ∧ w'.cell? ⟨b, off + 4, none⟩ = some (.string u.op) ∧ w'.cell? ⟨b, off + 4 + 1, none⟩ = some (.string u.nm) ∧ w'.cell? ⟨b, off + 4 + 2, none⟩ = some (.int .i64 u.n) ∧ w'.cell? ⟨b, off + 4 + 3, none⟩ = some (.slice a3 u.ks.len c3)) (first | assumption | exact ⟨m0, m3, p0, p1, p2, p3, q0, q1, q2, q3⟩ | exact CELLS.out _ B3.out | exact CELLS.out _ B2.out) (first
    | (go_at_call 12
       with_reducible refine C.out.mono ?_
       rintro e w2 ⟨rfl, hb⟩
       have B2 := Lib.hid ((drew_below W).trans hb)
       have cc := CELLS.out _ B2.out
       clear hb)
    | (go_at_call 12
       with_reducible refine (D.out _ B2.out).mono ?_
       rintro e w3 ⟨rfl, hb⟩
       have B3 := Lib.hid (B2.out.trans (hb.mono B2.out.size))
       have cd := CELLS.out _ B3.out
       clear hb)
    | fail)
  have B4 := Lib.hid (B0.out.trans (B3.out.mono B0.out.size))
  clear B3 B2 C D CELLS m0 m1 m2 m3 p0 p1 p2 p3 q0 q1 q2 q3
  go_wp2_with fail
  go_ret
  rw [E.out]
  exact ⟨rfl, B4.out⟩

theorem txt_any (t : TN) (h : OkT t) (hn : NumsF t.f) : TxtOK t :=
  tree_induct1 (P := TxtOK) (fun o m n a b c => txt_num o m n a b c) (fun o m n a b _ => txt_name o m n a b) (fun o m n t a b c ih => txt_neg o m n t a b c ih) (fun o m n t u a b c d ih iu => txt_two o m n t u a b c d ih iu) t h hn

end

section
open Go.RowKit

theorem infoT : (Tryz.prog.info? 9).map (fun i => (i.zero, i.size, i.bytes)) = some (some (.string ⟨#[]⟩), 1, 16) := by kernel_rfl

/-- The table of powers. -/
def LaidT (w : World) : Prop := ∃ t f, w.heap[0]? = some (.cells (Lib.pow10Tab.map fun z => Value.int .u64 z).toArray t f)

theorem format_any (n : Int) (h0 : -9223372036854775808 ≤ n) (h1 : n ≤ 9223372036854775807) (w : World) (hw : LaidT w) :
    Calls Tryz.prog 43 #[.int .i64 n, .int .i64 10] w fun e w' => e = .returned (.string ⟨(Lib.itoa n).toArray⟩) ∧ Below w.heap.size w w' := by
  obtain ⟨t, f, h2⟩ := hw
  refine (Tryz.strconv_FormatInt_10 n h0 h1 w (var_of (by kernel_rfl) h2)).mono ?_
  rintro e w' ⟨rfl, k, os, rfl⟩
  exact ⟨rfl, Lib.below_grow _ _ (Nat.le_refl _) _ _⟩

/-- Trees that may be, by their shape. -/
inductive OkI : TN → Prop
  | num (o m : ByteArray) (n : Int) : isNum o = true → 0 ≤ n → n ≤ 9223372036854775807 → OkI ⟨o, m, n, .nil⟩
  | name (o m : ByteArray) (n : Int) : isNum o = false → isName o = true → goodB m.data.toList = true → OkI ⟨o, m, n, .nil⟩
  | neg (o m : ByteArray) (n : Int) (a : TN) : isNum o = false → isName o = false → isNeg o = true → OkI a → OkI ⟨o, m, n, a.f⟩
  | two (o m : ByteArray) (n : Int) (a b : TN) : isNum o = false → isName o = false → isNeg o = false → isTwo o = true → OkI a → OkI b → OkI ⟨o, m, n, .cons a.op a.nm a.n a.ks b.f⟩

theorem okI_of (t : TN) (h : OkT t) (hn : NumsF t.f) : OkI t :=
  tree_induct1 (P := OkI) (fun o m n a b c => .num o m n a b c) (fun o m n a b c => .name o m n a b c) (fun o m n t a b c ih => .neg o m n t a b c ih) (fun o m n t u a b c d ih iu => .two o m n t u a b c d ih iu) t h hn

def PreT (t : TN) : Prop := OkI t ∧ (textE t).length ≤ 4000

theorem preT2 {t t2 : TN} {j : Nat} (h : PreT t) (hj : t.ks.at j = some t2) : PreT t2 := by
  obtain ⟨h, hl⟩ := h
  cases h with
  | num o m n _ _ _ => cases hj
  | name o m n _ _ _ => cases hj
  | neg o m n a h1 h2 h3 h4 =>
    match j, hj with
    | 0, hj =>
      have : a = t2 := Option.some.inj hj
      subst this
      rw [(text_neg a h1 h2 h3).1, List.length_cons] at hl
      exact ⟨h4, by omega⟩
    | j + 1, hj => cases hj
  | two o m n a b h1 h2 h3 h4 h5 h6 =>
    rw [(text_two a b h1 h2 h3).1] at hl
    simp only [List.length_cons, List.length_append, List.length_nil] at hl
    match j, hj with
    | 0, hj =>
      have : a = t2 := Option.some.inj hj
      subst this
      exact ⟨h5, by omega⟩
    | 1, hj =>
      have : b = t2 := Option.some.inj hj
      subst this
      exact ⟨h6, by omega⟩
    | j + 2, hj => cases hj

def WdT (lb : Nat) (w : World) : Prop := LaidT w ∧ lb ≠ 0

theorem wdT {w w' : World} {lb : Nat} (h : WdT lb w) (hk : Kept (· = lb) w w') : WdT lb w' := by
  obtain ⟨⟨t, f, h1⟩, h2⟩ := h
  exact ⟨⟨t, f, hk.heap h1 (fun e => h2 e.symm)⟩, h2⟩

def ResT (_ : Nat → Prop) (_ : World) (t : TN) (v : Value) : Prop := v = .string ⟨(textE t).toArray⟩

theorem resT_imp {G H : Nat → Prop} {w : World} {t : TN} {v : Value} (h : ResT G w t v) (_ : ∀ b, b < w.heap.size → G b → H b) : ResT H w t v := h

theorem resT_keptS {S G : Nat → Prop} {w w' : World} {t : TN} {v : Value} (h : ResT G w t v) (_ : Kept S w w') (_ : ∀ k, S k → ¬ G k) : ResT G w' t v := h

theorem shapeT {G : Nat → Prop} {w : World} {t : TN} {v : Value} (h : ResT G w t v) : ∃ z, v = .string z := ⟨_, h⟩

theorem oneT {G : Nat → Prop} {w : World} {t : TN} {v : Value} (h : ResT G w t v) : v.oneCell' = true := by rw [h]; rfl

set_option maxHeartbeats 8000000 in
theorem ofT_any (t : TN) (w : World) (G : Nat → Prop) (a : Option Addr) (c : Nat) (va : Option Addr) (vc : Nat) (vs : List Value) (base : Nat) (hpre : PreT t) {lb : Nat} (hwd : WdT lb w) (_ : ReadsN G w a t.ks) (ho : w.ownsRow base 9 1 (.slice va t.ks.len vc) t.ks.len vs)
    (hv : ∀ j t2, t.ks.at j = some t2 → ∃ v, vs[j]? = some v ∧ ResT (fun b => base ≤ b ∧ (Value.slice va t.ks.len vc).ownBlock ≠ some b) w t2 v) :
    Calls Tryz.prog 26 #[nodeV t.op t.nm t.n a t.ks.len c, .slice va t.ks.len vc] w fun e w' => ∃ v, e = .returned v ∧ ResT (fun b => w.heap.size ≤ b) w' t v ∧ Below w.heap.size w w' := by
  have BA := (Below.refl w.heap.size w).alloc (Nat.le_refl _) (ndG t.op t.nm t.n a t.ks.len c)
  have NB := heap_alloc_new w (ndG t.op t.nm t.n a t.ks.len c)
  have O1 := Lib.hid (owns_below ho BA)
  have LT : LaidT (w.alloc (ndG t.op t.nm t.n a t.ks.len c)) := by
    obtain ⟨⟨t', f, h1⟩, _⟩ := hwd
    exact ⟨t', f, (BA.block _ (Array.getElem?_eq_some_iff.1 h1).1).trans h1⟩
  generalize hW : w.alloc (ndG t.op t.nm t.n a t.ks.len c) = W at BA NB O1 LT
  have HW := Lib.hid hW
  have HB := Lib.hid BA
  have HLT := Lib.hid LT
  have hzw := BA.size
  have KO := Lib.hid (fun w => kidsOf_any t.op w)
  have P := Lib.hid (p := ∀ s : ByteArray, s = ⟨(textE t).toArray⟩ → ∀ W', Below w.heap.size w W' → ∃ v, Ending.returned (.string s) = .returned v ∧ ResT (fun b => w.heap.size ≤ b) W' t v ∧ Below w.heap.size w W') (fun s hs W' hb => ⟨_, rfl, by rw [hs]; rfl, hb⟩)
  obtain ⟨hi, hl⟩ := hpre
  clear hW BA ho LT hwd
  cases hi with
  | num o m n h1 h0 h9 =>
    have g1 := op_yes h1
    unfold bNum at g1
    have ha : arity o = 0 := by unfold arity; rw [h1]; rfl
    have hE := (text_num (m := m) (n := n) (ks := .nil) h1).1
    have C := Lib.hid (format_any n (by omega) h9 W HLT.out)
    have P2 := Lib.hid (P.out ⟨(Lib.itoa n).toArray⟩ (by rw [hE]))
    obtain ⟨⟨m0, m1, m2, m3⟩, -⟩ := four NB
    dsimp only at *
    rw [ha] at KO
    rw [show F.nil.len = 0 from rfl] at *
    clear P hE ha h1 h0 h9 hl hv NB
    go_enter Tryz.func26, Tryz.ntmps26
    go_upto_region 1 with fail
    rw [HW.out]
    go_upto_region 5 with (go_at_call 40; refine (KO.out _).mono ?_; rintro e w' ⟨rfl, rfl⟩)
    go_wp2_with fail
    refine C.out.mono ?_
    rintro e w1 ⟨rfl, hb⟩
    have P3 := Lib.hid (P2.out w1 (HB.out.trans (hb.mono hzw)))
    clear hb
    go_wp2_with fail
    go_ret
    exact P3.out
  | name o m n h1 h2 h3 =>
    have g1 := op_not h1
    have g2 := op_yes h2
    unfold bNum at g1
    unfold bName at g2
    have ha : arity o = 0 := by unfold arity; rw [h1, h2]; rfl
    have hE := (text_name (m := m) (n := n) (ks := .nil) h1 h2).1
    have P2 := Lib.hid (P.out m (by rw [hE]) W HB.out)
    obtain ⟨⟨m0, m1, m2, m3⟩, -⟩ := four NB
    dsimp only at *
    rw [ha] at KO
    rw [show F.nil.len = 0 from rfl] at *
    clear P hE ha h1 h2 h3 hl hv NB
    go_enter Tryz.func26, Tryz.ntmps26
    go_upto_region 1 with fail
    rw [HW.out]
    go_wp2_with (go_at_call 40; refine (KO.out _).mono ?_; rintro e w' ⟨rfl, rfl⟩)
    go_ret
    exact P2.out
  | neg o m n t1 h1 h2 h3 h4 =>
    have g1 := op_not h1
    have g2 := op_not h2
    have g3 := op_yes h3
    unfold bNum at g1
    unfold bName at g2
    unfold bNeg at g3
    have ha : arity o = 1 := by unfold arity; rw [h1, h2, h3]; rfl
    have hE := (text_neg (m := m) (n := n) t1 h1 h2 h3).1
    rw [hE, List.length_cons] at hl
    obtain ⟨v, hv0, hvr⟩ := hv 0 t1 rfl
    unfold ResT at hvr
    subst hvr
    obtain ⟨g, cc, hva, -, -, hcs⟩ := own_full O1.out (by show (1 : Nat) ≠ 0; decide)
    have hx := hcs 0 _ hv0
    obtain ⟨S, hS⟩ : ∃ S : ByteArray, ⟨(textE t1).toArray⟩ = S := ⟨_, rfl⟩
    have hSz : S.size ≤ 4000 := by rw [← hS]; show (textE t1).toArray.size ≤ _; rw [List.size_toArray]; omega
    have P2 := Lib.hid (P.out (⟨#[45]⟩ ++ S) (by rw [hE, ← hS]; exact text_eq (by simp)) W HB.out)
    rw [hS] at hx
    obtain ⟨⟨m0, m1, m2, m3⟩, -⟩ := four NB
    dsimp only at *
    rw [ha] at KO
    have h1l : t1.f.len = 1 := rfl
    rw [h1l] at HW m3 hva ⊢
    simp only [Value.slice.injEq, true_and] at hva
    obtain ⟨rfl, rfl⟩ := hva
    clear P hE ha h1 h2 h3 h4 hl hv NB hv0 hcs hS h1l
    go_enter Tryz.func26, Tryz.ntmps26
    go_upto_region 1 with fail
    rw [HW.out]
    go_wp2_with (go_at_call 40; refine (KO.out _).mono ?_; rintro e w' ⟨rfl, rfl⟩)
    go_ret
    exact P2.out
  | two o m n t1 t2 h1 h2 h3 h4 h5 h6 =>
    have g1 := op_not h1
    have g2 := op_not h2
    have g3 := op_not h3
    unfold bNum at g1
    unfold bName at g2
    unfold bNeg at g3
    have ha : arity o = 2 := by unfold arity; rw [h1, h2, h3, h4]; rfl
    have hos : o.size = 1 := by
      obtain ⟨_, x, hx, _⟩ := two_sign h4
      have : o.data.toList.length = 1 := by rw [hx]; rfl
      rw [← this]; simp
    have hE := (text_two (m := m) (n := n) t1 t2 h1 h2 h3).1
    rw [hE] at hl
    simp only [List.length_cons, List.length_append, List.length_nil] at hl
    obtain ⟨v, hv0, hvr⟩ := hv 0 t1 rfl
    unfold ResT at hvr
    subst hvr
    obtain ⟨u, hu0, hur⟩ := hv 1 t2 rfl
    unfold ResT at hur
    subst hur
    obtain ⟨g, cc, hva, -, -, hcs⟩ := own_full O1.out (by show (2 : Nat) ≠ 0; decide)
    have hx := hcs 0 _ hv0
    have hy := hcs 1 _ hu0
    obtain ⟨S, hS⟩ : ∃ S : ByteArray, ⟨(textE t1).toArray⟩ = S := ⟨_, rfl⟩
    obtain ⟨V, hV⟩ : ∃ S : ByteArray, ⟨(textE t2).toArray⟩ = S := ⟨_, rfl⟩
    have hSz : S.size ≤ 4000 := by rw [← hS]; show (textE t1).toArray.size ≤ _; rw [List.size_toArray]; omega
    have hVz : V.size ≤ 4000 := by rw [← hV]; show (textE t2).toArray.size ≤ _; rw [List.size_toArray]; omega
    have P2 := Lib.hid (P.out (⟨#[40]⟩ ++ S ++ ⟨#[32]⟩ ++ o ++ ⟨#[32]⟩ ++ V ++ ⟨#[41]⟩) (by rw [hE, ← hS, ← hV]; exact text_eq (by simp)))
    have P3 := Lib.hid (fun n => P2.out (W.drewN n) ⟨HB.out.os, HB.out.tape, HB.out.output, HB.out.size, HB.out.block⟩)
    rw [hS] at hx
    rw [hV] at hy
    have z1 : (9223372036854775807 < 1 + S.size) = False := by rw [eq_iff_iff, iff_false]; omega
    have z2 : (9223372036854775807 < 1 + S.size + 1) = False := by rw [eq_iff_iff, iff_false]; omega
    have z3 : (9223372036854775807 < 1 + S.size + 1 + o.size) = False := by rw [eq_iff_iff, iff_false]; omega
    have z4 : (9223372036854775807 < 1 + S.size + 1 + o.size + 1) = False := by rw [eq_iff_iff, iff_false]; omega
    have z5 : (9223372036854775807 < 1 + S.size + 1 + o.size + 1 + V.size) = False := by rw [eq_iff_iff, iff_false]; omega
    have z6 : (9223372036854775807 < 1 + S.size + 1 + o.size + 1 + V.size + 1) = False := by rw [eq_iff_iff, iff_false]; omega
    obtain ⟨⟨m0, m1, m2, m3⟩, -⟩ := four NB
    dsimp only at *
    rw [ha] at KO
    have h1l : (F.cons t1.op t1.nm t1.n t1.ks t2.f).len = 2 := rfl
    rw [h1l] at HW m3 hva ⊢
    simp only [Value.slice.injEq, true_and] at hva
    obtain ⟨rfl, rfl⟩ := hva
    clear P P2 hE ha h1 h2 h3 h4 h5 h6 hl hv NB hv0 hu0 hcs hS hV h1l hos
    go_enter Tryz.func26, Tryz.ntmps26
    go_upto_region 1 with fail
    rw [HW.out]
    go_upto_region 10 with (go_at_call 40; refine (KO.out _).mono ?_; rintro e w' ⟨rfl, rfl⟩)
    go_wp2_with (go_quiet (fail))
    go_ret
    exact P3.out _

end

section
open Go.RowKit

/-- What foldWithin does at a tree. -/
def FoldT (t : TN) : Prop := ∀ (G : Nat → Prop) (lb : Nat) (w : World) (a : Option Addr) (c l : Nat), l ≤ 1000 → PreT t → (∀ b, G b → b ≠ lb) → WdT lb w → ReadsN G w a t.ks → w.heap[lb]? = some (.cells #[.int .i64 l] 3 (0, 0)) →
  Calls Tryz.prog 42 #[.pointer (some ⟨lb, 0, none⟩), nodeV t.op t.nm t.n a t.ks.len c, .func (.func 26) #[] #[]] w fun e w' => Kept (· = lb) w w' ∧
    (sizeT t ≤ l → ∃ v, e = .returned (.tuple #[v, .bool true]) ∧ ResT (fun b => w.heap.size ≤ b) w' t v) ∧
    (sizeT t ≤ l → w'.heap[lb]? = some (.cells #[.int .i64 ((l - sizeT t : Nat) : Int)] 3 (0, 0))) ∧
    (¬ sizeT t ≤ l → e = .returned (.tuple #[.string ⟨#[]⟩, .bool false]))

set_option maxHeartbeats 8000000 in
set_option maxRecDepth 100000 in
theorem foldT_step (t : TN) (ih : EachF FoldT t.ks) : FoldT t := by
  intro G lb w a c l hl hpre hG hwd hr hlb
  obtain ⟨i0, hi, hz0, hz1, hz2⟩ := info_parts infoT
  have und : Tryz.prog.underlying 41 = some (.slice 9) := Tryz.underlying41
  have hlt := (Array.getElem?_eq_some_iff.1 hlb).1
  have IH := Lib.hid ih
  have R := Lib.hid hr
  have PRE := Lib.hid hpre
  have HG := Lib.hid hG
  have WD := Lib.hid hwd
  have BA := (Below.refl w.heap.size w).alloc (Nat.le_refl _) (ndG t.op t.nm t.n a t.ks.len c)
  have NB := heap_alloc_new w (ndG t.op t.nm t.n a t.ks.len c)
  have LB1 := (BA.block lb hlt).trans hlb
  have hs0 : (w.alloc (ndG t.op t.nm t.n a t.ks.len c)).heap.size = w.heap.size + 1 := World.size_alloc _ _
  generalize hW : w.alloc (ndG t.op t.nm t.n a t.ks.len c) = W at BA NB LB1 hs0
  have HW := Lib.hid hW
  have hsize : sizeT t = 1 + sizeF t.ks := rfl
  have hlen := len_size t.ks
  have K1 := (kept_below BA (· = lb)).setCell (p := ⟨lb, 0, none⟩) (.inl rfl) (.int .i64 ((l : Int) - 1))
  have LB2 := one_set LB1 (.int .i64 ((l : Int) - 1))
  have NB2 := ((Kept.refl (· = lb) W).setCell (p := ⟨lb, 0, none⟩) (.inl rfl) (.int .i64 ((l : Int) - 1))).heap NB (by omega)
  have hs1 : (W.setCell ⟨lb, 0, none⟩ (.int .i64 ((l : Int) - 1))).heap.size = w.heap.size + 1 := by rw [World.size_setCell]; exact hs0
  obtain ⟨lc, lf⟩ := one_cell LB1
  by_cases hstop : (l : Int) - 1 < (t.ks.len : Int)
  · have P := Lib.hid (show ¬ sizeT t ≤ l by omega)
    generalize hV : W.setCell ⟨lb, 0, none⟩ (.int .i64 ((l : Int) - 1)) = V at K1 LB2 NB2 hs1
    have HV := Lib.hid hV
    obtain ⟨lc2, -⟩ := one_cell LB2
    obtain ⟨⟨m0, m1, m2, m3⟩, -⟩ := four NB2
    have HK1 := Lib.hid K1
    clear hr hpre hG ih hwd hlb hW hV K1 LB1 LB2 NB NB2 BA hsize
    go_enter Tryz.func42, Tryz.ntmps42
    go_upto_region 2 with fail
    rw [HW.out]
    go_upto_region 3 with fail
    rw [HV.out]
    go_wp2_with (go_quiet (fail))
    go_ret2
    exact ⟨HK1.out.drewN _, fun h => absurd h P.out, fun h => absurd h P.out, fun _ => rfl⟩
  · obtain ⟨l', rfl⟩ : ∃ l', l = l' + 1 := ⟨l - 1, by omega⟩
    have hcast : (((l' + 1 : Nat) : Int) - 1) = (l' : Int) := by omega
    rw [hcast] at K1 LB2 NB2 hs1 hstop
    generalize hV : W.setCell ⟨lb, 0, none⟩ (.int .i64 (l' : Int)) = V at K1 LB2 NB2 hs1
    have HV := Lib.hid hV
    obtain ⟨lc2, -⟩ := one_cell LB2
    obtain ⟨⟨m0, m1, m2, m3⟩, -⟩ := four NB2
    have HK1 := Lib.hid K1
    have HLB := Lib.hid LB2
    have HNB := Lib.hid NB2
    have hll : t.ks.len ≤ l' := by omega
    have b9 : ¬ (l' : Int) < (t.ks.len : Int) := hstop
    clear hr hpre hG ih hwd hlb hW hV K1 LB1 LB2 NB NB2 BA hstop hcast
    go_enter Tryz.func42, Tryz.ntmps42
    go_upto_region 2 with fail
    rw [HW.out]
    go_upto_region 3 with fail
    rw [HV.out]
    go_upto_region 5 with (go_quiet (fail))
    have HK2 := Lib.hid (HK1.out.drewN nq)
    have HLB2 := Lib.hid (show (V.drewN nq).heap[lb]? = _ from HLB.out)
    have HNB2 := Lib.hid (show (V.drewN nq).heap[w.heap.size]? = _ from HNB.out)
    have hsV : (V.drewN nq).heap.size = w.heap.size + 1 := hs1
    have n3 : (V.drewN nq).cell? ⟨w.heap.size, 3, none⟩ = some (.slice a t.ks.len c) := m3
    generalize V.drewN nq = U at HK2 HLB2 HNB2 hsV n3 ⊢
    clear m0 m1 m2 m3 lc lf lc2 HW HV HK1 HLB HNB
    go_wp2_with fail
    go_loopw [9, 30] (fun kv i wr => ∃ (k x : Nat) (va : Option Addr) (vc : Nat) (vs : List Value), kv = .slice va k vc ∧ i = .int .i64 k ∧ k ≤ t.ks.len ∧ x + sizeF t.ks = l' + sizeF (t.ks.drop k) ∧ Hid (wr.ownsRow (w.heap.size + 1) 9 1 (.slice va k vc) k vs) ∧
      Hid (∀ j t2, j < k → t.ks.at j = some t2 → ∃ v, vs[j]? = some v ∧ ResT (fun b => w.heap.size + 1 ≤ b ∧ (Value.slice va k vc).ownBlock ≠ some b) wr t2 v) ∧ Hid (wr.heap[lb]? = some (.cells #[.int .i64 x] 3 (0, 0))) ∧ Hid (Kept (· = lb) w wr) ∧ Hid (wr.heap[w.heap.size]? = some (ndG t.op t.nm t.n a t.ks.len c))) (fun _ i _ => t.ks.len - (intOf i).toNat)
    case atStart => exact ⟨0, l', none, 0, [], rfl, rfl, Nat.zero_le _, by rw [F.drop_zero], Lib.hid (World.ownsRow_nil _ _ _ _), Lib.hid (fun _ _ h => absurd h (Nat.not_lt_zero _)), HLB2, HK2, HNB2⟩
    case round =>
      obtain ⟨k, x, va, vc, vs, rfl, rfl, hk, hx, hO, hV, hL, hK, hN⟩ := hrel
      clear n3
      obtain ⟨⟨m0, m1, m2, m3⟩, -⟩ := four hN.out
      have hz := hK.out.size
      by_cases hkl : k < t.ks.len
      · obtain ⟨t2, hat, -⟩ := at_some hkl
        have hsd := size_drop hat
        have hdl := size_drop_le t.ks k
        obtain ⟨b, off, a2, c2, ha, hGb, hbl, ⟨p0, p1, p2, p3⟩, hr2⟩ := readsN_at (R.out.keptS hK.out (fun q hq hg => HG.out q hg hq)) hat
        subst ha
        have hN1 : w.heap.size < wr.heap.size := (Array.getElem?_eq_some_iff.1 hN.out).1
        have BA := (Below.refl wr.heap.size wr).alloc (Nat.le_refl _) (ndG t2.op t2.nm t2.n a2 t2.ks.len c2)
        have NB := heap_alloc_new wr (ndG t2.op t2.nm t2.n a2 t2.ks.len c2)
        have hs2 : (wr.alloc (ndG t2.op t2.nm t2.n a2 t2.ks.len c2)).heap.size = wr.heap.size + 1 := World.size_alloc _ _
        generalize hX : wr.alloc (ndG t2.op t2.nm t2.n a2 t2.ks.len c2) = Z at BA NB hs2
        have HX := Lib.hid hX
        have CF := Lib.hid ((EachF.at IH.out hat) G lb Z a2 c2 x (by omega) (preT2 PRE.out hat) HG.out (wdT WD.out (hK.out.trans (kept_below BA (· = lb)) (fun _ h _ => h))) (hr2.kept BA) ((BA.block lb (by omega)).trans hL.out))
        have HAT := Lib.hid hat
        have HBA := Lib.hid BA
        have OZ := Lib.hid (owns_below hO.out BA)
        obtain ⟨⟨z0, z1, z2, z3⟩, -⟩ := four NB
        clear hX BA NB hr2 hat hGb
        go_upto_region 9 with fail
        rw [HX.out]
        clear p0 p1 p2 p3 m0 m1 m2 m3
        go_wp2_with fail
        refine CF.out.mono ?_
        rintro e w2 ⟨k2, hA1, hA2, hB⟩
        have hzk2 := k2.size
        have K2 := Lib.hid (hK.out.trans ((kept_below HBA.out (· = lb)).trans k2 (fun _ h _ => h)) (fun _ h _ => h))
        have N2 := Lib.hid (k2.heap ((HBA.out.block w.heap.size (by omega)).trans hN.out) (by omega))
        by_cases hfit : sizeT t2 ≤ x
        · obtain ⟨v, rfl, hv⟩ := hA1 hfit
          obtain ⟨z, rfl⟩ := shapeT hv
          have L2 := Lib.hid (hA2 hfit)
          have O2 := Lib.hid (owns_kept (row := some lb) OZ.out (k2.mono (fun i hi _ => by rw [hi])) (fun q hq e => by have := (OZ.out.lt q hq).1; have := Option.some.inj e; omega))
          have HVV := Lib.hid hv
          have hx2 : (x - sizeT t2) + sizeF t.ks = l' + sizeF (t.ks.drop (k + 1)) := by omega
          have hksz : k + 1 ≤ 1000 := by omega
          have vone : ∀ u ∈ [(Value.string z)], u.oneCell' = true := fun u hu => by rw [List.mem_singleton.1 hu]; exact oneT hv
          clear CF hA1 hA2 hB hv hfit z0 z1 z2 z3
          go_upto_region 12 with fail
          have BN := (Below.refl w2.heap.size w2).alloc (Nat.le_refl _) (.cells #[(Value.string z)] 9)
          have F2 := Lib.hid (show ∀ j u, [(Value.string z)][j]? = some u → (w2.alloc (.cells #[(Value.string z)] 9)).cell? ((⟨w2.heap.size, 0, none⟩ : Addr).add j) = some u from fun j u hj => by
            rw [Addr.add_lit, Nat.zero_add, cell_of_row _ _ _ _ _ (0, 0) (heap_alloc_new w2 _)]
            simpa using hj)
          have HBN := Lib.hid BN
          clear BN
          go_wp2_with (at_builtin; refine wpList_append_new rfl _ _ 41 rfl und hi hz0 hz1 hz2 rfl (by decide) (.slice va k vc) k 1 1 ⟨w2.heap.size, 0, none⟩ vs [(Value.string z)] rfl rfl (owns_below O2.out HBN.out) rfl F2.out vone (by unfold maxLen; omega) (by omega) (by rw [World.size_alloc]; omega) ?_)
          intro v3 w3 ho hg hq
          obtain ⟨va3, vc3, rfl⟩ := own_rowG ho
          have kg : Kept (fun b => (Value.slice va k vc).ownBlock = some b) w2 w3 := ((Kept.refl _ w2).alloc _).grown hg (fun q hq => .inl hq)
          have hov : ∀ q, (Value.slice va k vc).ownBlock = some q → w.heap.size + 1 ≤ q ∧ q < w2.heap.size := fun q hq => by have := O2.out.lt q hq; omega
          have O3 := Lib.hid ho
          have L3 := Lib.hid (kg.heap L2.out (fun e => by have := hov lb e; omega))
          have K3 := Lib.hid (K2.out.trans (kg.mono (T := fun b => w.heap.size + 1 ≤ b) (fun i hi _ => (hov i hi).1)) (fun i hi hlt => by omega))
          have N3 := Lib.hid (kg.heap N2.out (fun e => by have := hov _ e; omega))
          have hnewb : ∀ b, b < w2.heap.size → (Value.slice va k vc).ownBlock ≠ some b → (Value.slice va3 (k + 1) vc3).ownBlock ≠ some b := fun b hb hne e => by
            rcases hq b e with h1 | h1
            · exact hne h1
            · omega
          have V3 := Lib.hid (show ∀ j t3, j < k + 1 → t.ks.at j = some t3 → ∃ u, (vs ++ [(Value.string z)])[j]? = some u ∧ ResT (fun b => w.heap.size + 1 ≤ b ∧ (Value.slice va3 (k + 1) vc3).ownBlock ≠ some b) w3 t3 u from fun j t3 hj hjt => by
            have hvl : vs.length = k := by have := hO.out.1; rwa [Nat.mul_one] at this
            by_cases hjk : j < k
            · obtain ⟨u, hu, hru⟩ := hV.out j t3 hjk hjt
              refine ⟨u, by rw [List.getElem?_append_left (by omega)]; exact hu, ?_⟩
              have r1 := resT_keptS (resT_keptS hru (kept_below HBA.out (fun _ => False)) (fun _ h => h.elim)) k2 (fun q hq hg => by have := hg.1; omega)
              have r2 := resT_imp (H := fun b => (w.heap.size + 1 ≤ b ∧ (Value.slice va k vc).ownBlock ≠ some b) ∧ (Value.slice va3 (k + 1) vc3).ownBlock ≠ some b) r1 (fun b hb hg => ⟨hg, hnewb b hb hg.2⟩)
              exact resT_imp (resT_keptS r2 kg (fun q hq hg => hg.1.2 hq)) (fun b hb hg => ⟨hg.1.1, hg.2⟩)
            · obtain rfl : j = k := by omega
              have : t3 = t2 := by rw [HAT.out] at hjt; exact (Option.some.inj hjt).symm
              subst this
              refine ⟨_, by rw [List.getElem?_append_right (by omega), hvl, Nat.sub_self]; rfl, ?_⟩
              have r2 := resT_imp (H := fun b => (w.heap.size + 1 ≤ b ∧ (Value.slice va j vc).ownBlock ≠ some b) ∧ (Value.slice va3 (j + 1) vc3).ownBlock ≠ some b) HVV.out (fun b hb hg => by
                have hne : (Value.slice va j vc).ownBlock ≠ some b := fun e => by have := (OZ.out.lt b e).2; omega
                exact ⟨⟨by omega, hne⟩, hnewb b hb hne⟩)
              exact resT_imp (resT_keptS r2 kg (fun q hq hg => hg.1.2 hq)) (fun b hb hg => ⟨hg.1.1, hg.2⟩))
          clear ho hg hq kg hov hnewb
          go_wp2_with fail
          go_roundw
          case rel => exact ⟨k + 1, x - sizeT t2, va3, vc3, vs ++ [(Value.string z)], rfl, by go_num, by omega, hx2, O3, V3, L3, K3, N3⟩
          case measure => simp [intOf]; omega
        · obtain rfl := hB hfit
          have P := Lib.hid (show ¬ sizeT t ≤ l' + 1 by omega)
          clear CF hA1 hA2 hB hfit z0 z1 z2 z3
          go_wp2_with fail
          go_ret2
          exact ⟨K2.out, fun h => absurd h P.out, fun h => absurd h P.out, fun _ => rfl⟩
      · obtain rfl : k = t.ks.len := by omega
        have hx2 : x + sizeF t.ks = l' := by rw [hx, F.drop_len _ _ (Nat.le_refl _)]; rfl
        have CO := Lib.hid (ofT_any t wr G a c va vc vs (w.heap.size + 1) PRE.out (wdT WD.out hK.out) (R.out.keptS hK.out (fun q hq hg => HG.out q hg hq)) hO.out (fun j t2 hj => hV.out j t2 (at_lt hj) hj))
        go_wp2_with fail
        refine CO.out.mono ?_
        rintro e w2 ⟨v, rfl, hv, hb⟩
        have P := Lib.hid (show Kept (· = lb) w w2 ∧ ResT (fun b => w.heap.size ≤ b) w2 t v ∧ w2.heap[lb]? = some (.cells #[.int .i64 ((l' + 1 - sizeT t : Nat) : Int)] 3 (0, 0)) ∧ sizeT t ≤ l' + 1 from
          ⟨hK.out.trans (kept_below hb (· = lb)) (fun _ h _ => h), resT_imp hv (fun b _ hg => by omega), by rw [hb.block lb (by omega), hL.out, show x = l' + 1 - sizeT t by omega], by omega⟩)
        clear hv hb CO m0 m1 m2 m3
        go_wp2_with fail
        go_ret2
        exact ⟨P.out.1, fun _ => ⟨v, rfl, P.out.2.1⟩, fun _ => P.out.2.2.1, fun h => absurd P.out.2.2.2 h⟩

theorem foldT_all (t : TN) : FoldT t := tree_of foldT_step t

set_option maxHeartbeats 4000000 in
set_option maxRecDepth 100000 in
theorem foldT_any (t : TN) (G : Nat → Prop) (w : World) (a : Option Addr) (c : Nat) (hpre : PreT t) (hwd : ∀ lb, w.heap.size ≤ lb → WdT lb w) (hr : ReadsN G w a t.ks) :
    Calls Tryz.prog 25 #[nodeV t.op t.nm t.n a t.ks.len c, .func (.func 26) #[] #[]] w fun e w' => Below w.heap.size w w' ∧
      (sizeT t ≤ 32 → ∃ v, e = .returned (.tuple #[v, .bool true]) ∧ ResT (fun b => w.heap.size ≤ b) w' t v) ∧ (¬ sizeT t ≤ 32 → e = .returned (.tuple #[.string ⟨#[]⟩, .bool false])) := by
  have BA := (Below.refl w.heap.size w).alloc (Nat.le_refl _) (ndG t.op t.nm t.n a t.ks.len c)
  have NB := heap_alloc_new w (ndG t.op t.nm t.n a t.ks.len c)
  have hs0 : (w.alloc (ndG t.op t.nm t.n a t.ks.len c)).heap.size = w.heap.size + 1 := World.size_alloc _ _
  generalize hW : w.alloc (ndG t.op t.nm t.n a t.ks.len c) = W at BA NB hs0
  have BB := (Below.refl W.heap.size W).alloc (Nat.le_refl _) (.cells #[.int .i64 32] 3)
  have NC := heap_alloc_new W (.cells #[.int .i64 32] 3)
  have hs1 : (W.alloc (.cells #[.int .i64 32] 3)).heap.size = w.heap.size + 2 := by rw [World.size_alloc]; omega
  generalize hV : W.alloc (.cells #[.int .i64 32] 3) = V at BB NC hs1
  rw [hs0] at NC
  have BV := BA.trans (BB.mono (by omega))
  have N2 := (BB.block w.heap.size (by omega)).trans NB
  have hGlt := hr.imp (H := fun b => G b ∧ b < w.heap.size) (fun b hb hg => ⟨hg, hb⟩)
  have CF := Lib.hid (foldT_all t (fun b => G b ∧ b < w.heap.size) (w.heap.size + 1) V a c 32 (by omega) hpre (fun b hg => by omega) (wdT (hwd (w.heap.size + 1) (by omega)) (kept_below BV (fun _ => False) |>.mono (fun _ h _ => h.elim) : Kept (· = w.heap.size + 1) w V)) (hGlt.keptS (kept_below BV (fun _ => False)) (fun _ h => h.elim)) NC)
  have HW := Lib.hid hW
  have HV := Lib.hid hV
  have HB := Lib.hid BV
  obtain ⟨⟨m0, m1, m2, m3⟩, -⟩ := four N2
  clear hW hV BA NB BB NC BV N2 hGlt hr hpre hwd
  go_enter Tryz.func25, Tryz.ntmps25
  go_upto_region 1 with fail
  rw [HW.out]
  go_upto_region 2 with fail
  rw [HV.out]
  go_wp2_with fail
  refine CF.out.mono ?_
  rintro e w2 ⟨k2, hA, -, hB⟩
  have B2 := Lib.hid (HB.out.trans (Kept.below k2 (B := w.heap.size) (fun q hq => by omega) (by omega)))
  by_cases h32 : sizeT t ≤ 32
  · obtain ⟨v, rfl, hv⟩ := hA h32
    have HR := Lib.hid (resT_imp hv (H := fun b => w.heap.size ≤ b) (fun b _ hg => by omega))
    have H32 := Lib.hid h32
    clear k2 hA hB hv h32 CF m0 m1 m2 m3
    go_wp2_with fail
    go_ret2
    exact ⟨B2.out, fun _ => ⟨v, rfl, HR.out⟩, fun h => absurd H32.out h⟩
  · obtain rfl := hB h32
    have H32 := Lib.hid h32
    clear k2 hA hB h32 CF m0 m1 m2 m3
    go_wp2_with fail
    go_ret2
    exact ⟨B2.out, fun h => absurd h H32.out, fun _ => rfl⟩

end

section
open Go.RowKit

set_option maxHeartbeats 4000000 in
theorem pCheck_any (t : TN) (G : Nat → Prop) (w : World) (a : Option Addr) (c : Nat) (hS : SzF t.f) (hr : ReadsN G w a t.ks) :
    Calls Tryz.prog 9 #[nodeV t.op t.nm t.n a t.ks.len c] w fun e w' => e = .returned (.int .i64 (checkT t)) ∧ Below w.heap.size w w' := by
  have BA := (Below.refl w.heap.size w).alloc (Nat.le_refl _) (ndG t.op t.nm t.n a t.ks.len c)
  have NB := heap_alloc_new w (ndG t.op t.nm t.n a t.ks.len c)
  have CF := foldE_any t G (w.alloc (ndG t.op t.nm t.n a t.ks.len c)) a c hS (fun _ _ => trivial) (hr.kept BA)
  have hz : w.heap.size ≤ (w.alloc (ndG t.op t.nm t.n a t.ks.len c)).heap.size := BA.size
  generalize hW : w.alloc (ndG t.op t.nm t.n a t.ks.len c) = W at BA NB CF hz
  have HCF := Lib.hid CF
  have HB := Lib.hid BA
  have HW := Lib.hid hW
  have HI := Lib.hid (cnt_iff t)
  obtain ⟨⟨m0, m1, m2, m3⟩, -⟩ := four NB
  clear hW BA NB CF hr hS
  go_enter Tryz.func9, Tryz.ntmps9
  go_upto_region 1 with fail
  rw [HW.out]
  go_wp2_with fail
  refine HCF.out.mono ?_
  rintro e w2 ⟨hb, hA, hB⟩
  have B2 := Lib.hid (HB.out.trans (hb.mono hz))
  by_cases h32 : sizeT t ≤ 32
  · obtain ⟨v, rfl, hv⟩ := hA h32
    unfold ResE at hv
    subst hv
    have E := Lib.hid (show checkT t = chkF t.f by unfold checkT; rw [if_neg (fun h => by have := HI.out.1 h; omega)])
    clear hb hA hB h32
    go_wp2_with fail
    go_ret
    rw [E.out]
    exact ⟨rfl, B2.out⟩
  · obtain rfl := hB h32
    have E := Lib.hid (show checkT t = 4 by unfold checkT; rw [if_pos (HI.out.2 (by omega))])
    clear hb hA hB h32
    go_wp2_with fail
    go_ret
    rw [E.out]
    exact ⟨rfl, B2.out⟩

set_option maxHeartbeats 4000000 in
theorem pText_any (t : TN) (G : Nat → Prop) (w : World) (a : Option Addr) (c : Nat) (ho : OkT t) (hn : NumsF t.f) (hs : sizeT t ≤ 32) (hl : LaidT w) (hr : ReadsN G w a t.ks) :
    Calls Tryz.prog 10 #[nodeV t.op t.nm t.n a t.ks.len c] w fun e w' => e = .returned (.string ⟨(textE t).toArray⟩) ∧ Below w.heap.size w w' := by
  have BA := (Below.refl w.heap.size w).alloc (Nat.le_refl _) (ndG t.op t.nm t.n a t.ks.len c)
  have NB := heap_alloc_new w (ndG t.op t.nm t.n a t.ks.len c)
  have LT : LaidT (w.alloc (ndG t.op t.nm t.n a t.ks.len c)) := by
    obtain ⟨t', f, h1⟩ := hl
    exact ⟨t', f, (BA.block _ (Array.getElem?_eq_some_iff.1 h1).1).trans h1⟩
  have CF := foldT_any t G (w.alloc (ndG t.op t.nm t.n a t.ks.len c)) a c ⟨okI_of t ho hn, by have := text_len t ho hn; omega⟩ (fun lb hlb => ⟨LT, fun e => by
    obtain ⟨t', f, h1⟩ := LT
    have := (Array.getElem?_eq_some_iff.1 h1).1
    omega⟩) (hr.kept BA)
  have hz : w.heap.size ≤ (w.alloc (ndG t.op t.nm t.n a t.ks.len c)).heap.size := BA.size
  generalize hW : w.alloc (ndG t.op t.nm t.n a t.ks.len c) = W at BA NB CF hz LT
  have HCF := Lib.hid CF
  have HB := Lib.hid BA
  have HW := Lib.hid hW
  have H32 := Lib.hid hs
  obtain ⟨⟨m0, m1, m2, m3⟩, -⟩ := four NB
  clear hW BA NB CF hr hs LT hl ho hn
  go_enter Tryz.func10, Tryz.ntmps10
  go_upto_region 1 with fail
  rw [HW.out]
  go_wp2_with fail
  refine HCF.out.mono ?_
  rintro e w2 ⟨hb, hA, -⟩
  have B2 := Lib.hid (HB.out.trans (hb.mono hz))
  obtain ⟨v, rfl, hv⟩ := hA H32.out
  unfold ResT at hv
  subst hv
  clear hb hA
  go_wp2_with fail
  go_ret
  exact ⟨rfl, B2.out⟩

end

section
open Go.RowKit

theorem infoN : (Tryz.prog.info? 22).map (fun i => (i.zero, i.size, i.bytes)) = some (some (.slice none 0 0), 1, 24) := by kernel_rfl

set_option maxHeartbeats 4000000 in
set_option maxRecDepth 100000 in
theorem grow_any (n : Nat) (hn : n ≤ 100000) (w : World) : Calls Tryz.prog 68 #[.slice none 0 0, .int .i64 n] w fun e w' => ∃ v, e = .returned v ∧ w'.ownsRow w.heap.size 24 4 v 0 [] ∧ Below w.heap.size w w' := by
  obtain ⟨i0, hi, hz0, hz1, hz2⟩ := info_parts ndInfo
  have und : Tryz.prog.underlying 22 = some (.slice 24) := Tryz.underlying22
  have undi : Tryz.prog.underlying 3 = some (.int .i64) := Tryz.underlying3
  by_cases h0 : n = 0
  · subst h0
    have O0 := Lib.hid (World.ownsRow_nil w w.heap.size 24 4)
    go_enter Tryz.func68, Tryz.ntmps68
    go_wp2_with fail
    go_ret
    exact ⟨_, rfl, O0.out, Below.refl _ _⟩
  · have h1 : ¬ ((n : Int) < 0) := by omega
    have h4 : (0 : Int) < (n : Int) := by omega
    have hold : (Builtin.firstCells i0.size 0 (.slice none 0 0)).run Tryz.prog w.drew = .ok #[] w.drew := run_firstCells_none w.drew i0.size 0 0 0
    have hge : n ≤ grownCap w (0 + n) 0 24 := by have := grownCap_ge w (0 + n) 0 24; omega
    have hle : grownCap w (0 + n) 0 24 ≤ maxLen := grownCap_le_maxLen w (0 + n) 0 24 (by unfold maxLen; omega)
    have hrz : ∀ ty, (Builtin.append_ #[22, 3] ty #[.slice none 0 0, .int .i64 n]).run Tryz.prog w =
        .ok (.slice (some ⟨w.heap.size, 0, none⟩) n (grownCap w (0 + n) 0 24)) (w.drew.alloc (.cells ((#[] : Array Value) ++ Builtin.zeroCells (Value.agg #[.string ⟨#[]⟩, .string ⟨#[]⟩, .int .i64 0, .slice none 0 0]).cells n ++ Builtin.zeroCells (Value.agg #[.string ⟨#[]⟩, .string ⟨#[]⟩, .int .i64 0, .slice none 0 0]).cells (grownCap w (0 + n) 0 24 - (0 + n))) 24)) := fun ty => by
      have h := Lib.run_append_grow_zeros w 22 3 ty 24 i0 _ .i64 .i64 und undi hi hz0 none 0 0 [] hold n (by omega) (by omega) (by omega) (by omega) (by rw [hz2]; omega)
        (growslice_fits (by omega) (by rw [hz2]; omega))
      rw [Nat.zero_add] at h ⊢
      exact h
    obtain ⟨Gc, hG⟩ : ∃ G, grownCap w (0 + n) 0 24 = G := ⟨_, rfl⟩
    rw [hG] at hrz hge hle
    obtain ⟨cur, hcur⟩ : ∃ cur, ((#[] : Array Value) ++ Builtin.zeroCells (Value.agg #[.string ⟨#[]⟩, .string ⟨#[]⟩, .int .i64 0, .slice none 0 0]).cells n ++ Builtin.zeroCells (Value.agg #[.string ⟨#[]⟩, .string ⟨#[]⟩, .int .i64 0, .slice none 0 0]).cells (Gc - (0 + n))) = cur := ⟨_, rfl⟩
    have hsz : cur.size = Gc * 4 := by
      rw [← hcur]
      simp only [Array.size_append, size_zeroCells]
      show 0 + n * 4 + (Gc - (0 + n)) * 4 = Gc * 4
      omega
    rw [hcur] at hrz
    have O1 := Lib.hid (show (w.drew.alloc (.cells cur 24)).ownsRow w.heap.size 24 4 (.slice (some ⟨w.heap.size, 0, none⟩) 0 Gc) 0 [] from
      ⟨rfl, .inr ⟨w.heap.size, Gc, cur, rfl, Nat.le_refl _, heap_alloc_new w.drew _, Nat.zero_le _, hle, hsz, by simp⟩⟩)
    have B1 := Lib.hid (show Below w.heap.size w (w.drew.alloc (.cells cur 24)) from ((Below.refl w.heap.size w.drew).alloc (Nat.le_refl _) _ |> fun b => ⟨b.os, b.tape, b.output, b.size, b.block⟩))
    clear hold hG hcur hsz
    go_enter Tryz.func68, Tryz.ntmps68
    go_wp2_with (at_builtin; refine Lib.wpList_append_run _ rfl _ _ _ _ rfl _ _ rfl rfl _ _ (hrz _) ?_)
    go_ret
    exact ⟨_, rfl, O1.out, B1.out⟩

/-- The cells of nodes, in their order. -/
def lstL : List TN → List (Option Addr × Nat) → List Value
  | t :: r, q :: s => ndL t q ++ lstL r s
  | _, _ => []

theorem lstL_len : ∀ {l : List TN} {q : List (Option Addr × Nat)}, q.length = l.length → (lstL l q).length = l.length * 4
  | [], [], _ => rfl
  | [], _ :: _, h => by simp at h
  | _ :: r, _ :: s, h => by rw [lstL, List.length_append, lstL_len (by simpa using h), List.length_cons]; simp [ndL]; omega
  | _ :: _, [], h => by simp at h

theorem lstL_one : ∀ (l : List TN) (q : List (Option Addr × Nat)), ∀ u ∈ lstL l q, u.oneCell' = true
  | [], _, u, h => by rw [lstL] at h; cases h; intro a b c d e; cases e
  | _ :: _, [], u, h => by rw [lstL] at h; cases h; intro a b c d e f; cases f
  | t :: r, q :: s, u, h => by
    rw [lstL] at h
    rcases List.mem_append.1 h with h | h
    · exact ndL_one t q u h
    · exact lstL_one r s u h

theorem lstL_app : ∀ (l m : List TN) (q p : List (Option Addr × Nat)), q.length = l.length → lstL (l ++ m) (q ++ p) = lstL l q ++ lstL m p
  | [], _, [], _, _ => rfl
  | [], _, _ :: _, _, h => by simp at h
  | _ :: r, m, _ :: s, p, h => by rw [List.cons_append, List.cons_append, lstL, lstL, lstL_app r m s p (by simpa using h), List.append_assoc]
  | _ :: _, _, [], _, h => by simp at h

/-- Nodes in memory from an address on. -/
structure ResL (G : Nat → Prop) (w : World) (t : TN) (v : Value) : Prop where
  h : ∃ b off c qs, v = .slice (some ⟨b, off, none⟩) (preF t.f).length c ∧ G b ∧ b < w.heap.size ∧ qs.length = (preF t.f).length ∧ ∀ j u, (lstL (preF t.f) qs)[j]? = some u → w.cell? ⟨b, off + j, none⟩ = some u

theorem resL_imp {G H : Nat → Prop} {w : World} {t : TN} {v : Value} (h : ResL G w t v) (hG : ∀ b, b < w.heap.size → G b → H b) : ResL H w t v := by
  obtain ⟨b, off, c, qs, h1, h2, h3, h4⟩ := h.h
  exact ⟨b, off, c, qs, h1, hG b h3 h2, h3, h4⟩

theorem resL_keptS {S G : Nat → Prop} {w w' : World} {t : TN} {v : Value} (h : ResL G w t v) (hk : Kept S w w') (hS : ∀ k, S k → ¬ G k) : ResL G w' t v := by
  obtain ⟨b, off, c, qs, h1, h2, h3, h4, h5⟩ := h.h
  exact ⟨b, off, c, qs, h1, h2, Nat.lt_of_lt_of_le h3 hk.size, h4, fun j u hj => hk.cell (h5 j u hj) (fun hs => hS b hs h2)⟩

theorem shapeL {G : Nat → Prop} {w : World} {t : TN} {v : Value} (h : ResL G w t v) : ∃ za zn zc, v = .slice za zn zc := by
  obtain ⟨b, off, c, qs, h1, _⟩ := h.h
  exact ⟨_, _, _, h1⟩

theorem oneL {G : Nat → Prop} {w : World} {t : TN} {v : Value} (h : ResL G w t v) : v.oneCell' = true := by
  obtain ⟨b, off, c, qs, h1, _⟩ := h.h
  rw [h1]; rfl

theorem pre_cons (t : TN) (r : F) : preF (.cons t.op t.nm t.n t.ks r) = preF t.f ++ preF r := by
  rw [TN.f, preF, preF]
  simp [preF]

set_option maxHeartbeats 8000000 in
set_option maxRecDepth 100000 in
theorem concat_any (ks : F) (va : Option Addr) (vc : Nat) (vs : List Value) (base : Nat) (w : World) (ho : w.ownsRow base 22 1 (.slice va ks.len vc) ks.len vs) (hs : sizeF ks ≤ 1000) {G : Nat → Prop}
    (hv : ∀ j t2, ks.at j = some t2 → ∃ v, vs[j]? = some v ∧ ResL G w t2 v) :
    Calls Tryz.prog 49 #[.slice va ks.len vc] w fun e w' => ∃ v qs, e = .returned v ∧ qs.length = (preF ks).length ∧ w'.ownsRow w.heap.size 24 4 v (preF ks).length (lstL (preF ks) qs) ∧ Below w.heap.size w w' := by
  obtain ⟨i0, hi, hz0, hz1, hz2⟩ := info_parts ndInfo
  have und : Tryz.prog.underlying 22 = some (.slice 24) := Tryz.underlying22
  have hlen := len_size ks
  have hpl := pre_len ks
  have HO := Lib.hid ho
  have HV := Lib.hid hv
  have hbase : ∀ k, k < ks.len → va ≠ none := fun k hk e => by
    rcases ho.2 with ⟨h1, h2⟩ | ⟨g, cap, cur, h1, _⟩
    · omega
    · rw [e] at h1; cases h1
  have HBN := Lib.hid hbase
  have CELL := Lib.hid (p := ∀ k v, k < ks.len → vs[k]? = some v → ∃ g, va = some ⟨g, 0, none⟩ ∧ g < w.heap.size ∧ w.cell? ⟨g, k, none⟩ = some v) (fun k v hk hv => by
    obtain ⟨g, c', h1, _, _, h4⟩ := own_full ho (by omega)
    simp only [Value.slice.injEq, true_and] at h1
    exact ⟨g, h1.1, (ho.lt g (by rw [h1.1]; rfl)).2, h4 k v hv⟩)
  clear ho hv hbase
  go_enter Tryz.func49, Tryz.ntmps49
  go_wp2_with fail
  go_loop [3, 11] (fun s i => ∃ (x k : Nat), s = .int .i64 x ∧ i = .int .i64 k ∧ k ≤ ks.len ∧ Hid (x + (preF (ks.drop k)).length = (preF ks).length)) (fun _ i => ks.len - (intOf i).toNat)
  case atStart => exact ⟨0, 0, rfl, rfl, Nat.zero_le _, Lib.hid (by rw [F.drop_zero, Nat.zero_add])⟩
  case round =>
    obtain ⟨x, k, rfl, rfl, hk, hx⟩ := hrel
    have hx9 : x ≤ 1000 := by have := hx.out; omega
    by_cases hlt : k < ks.len
    · obtain ⟨t2, hat, hdr⟩ := at_some hlt
      obtain ⟨v, hvj, hvr⟩ := HV.out k t2 hat
      obtain ⟨b, off, c, qs, rfl, hG, hbl, hq, hc⟩ := hvr.h
      obtain ⟨g, rfl, hg, hcell⟩ := CELL.out k _ hlt hvj
      obtain ⟨m, hm⟩ : ∃ m, (preF t2.f).length = m := ⟨_, rfl⟩
      rw [hm] at hcell
      have X2 := Lib.hid (show (x + m) + (preF (ks.drop (k + 1))).length = (preF ks).length by have := hx.out; rw [hdr, pre_cons, List.length_append, hm] at this; omega)
      have hxm : x + m ≤ 1000 := by have := X2.out; omega
      have a1 : ¬ ((x : Int) + (m : Int) < 0) := by omega
      clear hat hdr hvj hvr hc hm
      go_wp2_with fail
      go_round
      case rel => exact ⟨x + m, k + 1, by go_num, by go_num, by omega, X2⟩
      case measure => simp [intOf]; omega
    · obtain rfl : k = ks.len := by omega
      have hx2 := Lib.hid (show x = (preF ks).length by have := hx.out; rw [F.drop_len _ _ (Nat.le_refl _)] at this; simpa [preF] using this)
      have CG := Lib.hid (grow_any x (by omega) w)
      clear hx
      go_wp2_with fail
      refine CG.out.mono ?_
      rintro e w1 ⟨v0, rfl, ho0, hb0⟩
      obtain ⟨a0, c0, rfl⟩ := own_rowG ho0
      have O0 := Lib.hid ho0
      have B0 := Lib.hid hb0
      clear ho0 hb0 CG
      go_wp2_with fail
      go_loopw [6, 27] (fun s i wr => ∃ (k : Nat) (xa : Option Addr) (xc : Nat) (done : List TN) (qs : List (Option Addr × Nat)), s = .slice xa done.length xc ∧ i = .int .i64 k ∧ k ≤ ks.len ∧ Hid (preF ks = done ++ preF (ks.drop k)) ∧ Hid (qs.length = done.length) ∧ Hid (wr.ownsRow w.heap.size 24 4 (.slice xa done.length xc) done.length (lstL done qs)) ∧ Hid (Below w.heap.size w wr)) (fun _ i _ => ks.len - (intOf i).toNat)
      case atStart => exact ⟨0, a0, c0, [], [], rfl, rfl, Nat.zero_le _, Lib.hid (by rw [F.drop_zero]; rfl), Lib.hid rfl, O0, B0⟩
      case round =>
        obtain ⟨k, xa, xc, done, qs, rfl, rfl, hk2, hD, hQ, hO, hB⟩ := hrel
        by_cases hlt2 : k < ks.len
        · obtain ⟨t2, hat, hdr⟩ := at_some hlt2
          obtain ⟨v, hvj, hvr⟩ := HV.out k t2 hat
          obtain ⟨b, off, c, qs2, rfl, hG, hbl, hq, hc⟩ := hvr.h
          obtain ⟨g, rfl, hg, hcell⟩ := CELL.out k _ hlt2 hvj
          have hz := hB.out.size
          have hcell2 := (hB.out.cell (p := ⟨g, k, none⟩) hg).trans hcell
          have C2 := Lib.hid (p := ∀ j u, (lstL (preF t2.f) qs2)[j]? = some u → wr.cell? ((⟨b, off, none⟩ : Addr).add j) = some u) (fun j u hj => by
            rw [Addr.add_lit]
            exact (hB.out.cell (p := ⟨b, off + j, none⟩) hbl).trans (hc j u hj))
          have hq2 := Lib.hid (lstL_len hq)
          have HQ2 := Lib.hid hq
          have HH := Lib.hid (show preF ks = (done ++ preF t2.f) ++ preF (ks.drop (k + 1)) by rw [hD.out, hdr, pre_cons, List.append_assoc])
          have hb1 : done.length + (preF t2.f).length ≤ 1000 := by
            have := congrArg List.length HH.out
            simp only [List.length_append] at this
            omega
          clear hat hdr hvj hvr hc hcell hq
          go_wp2_with (at_builtin; refine wpList_append_new rfl _ _ 22 rfl und hi hz0 hz1 hz2 rfl (by decide) (.slice xa done.length xc) done.length (preF t2.f).length c ⟨b, off, none⟩ (lstL done qs) (lstL (preF t2.f) qs2) rfl rfl hO.out hq2.out C2.out (lstL_one _ _) (by unfold maxLen; omega) (by omega) hz ?_)
          intro v3 w3 ho hgr _
          obtain ⟨xa3, xc3, rfl⟩ := own_rowG ho
          have e1 : done.length + (preF t2.f).length = (done ++ preF t2.f).length := by rw [List.length_append]
          rw [e1, ← lstL_app _ _ _ _ hQ.out] at ho
          have O3 := Lib.hid ho
          have B3 := Lib.hid (hB.out.grown hgr hz (fun q hq => (hO.out.lt q hq).1))
          have Q3 := Lib.hid (show (qs ++ qs2).length = (done ++ preF t2.f).length by rw [List.length_append, List.length_append, hQ.out, HQ2.out])
          rw [e1]
          clear ho hgr e1
          go_wp2_with fail
          go_roundw
          case rel => exact ⟨k + 1, xa3, xc3, done ++ preF t2.f, qs ++ qs2, rfl, by go_num, by omega, HH, Q3, O3, B3⟩
          case measure => simp [intOf]; omega
        · obtain rfl : k = ks.len := by omega
          have hd : preF ks = done := by have := hD.out; rw [F.drop_len _ _ (Nat.le_refl _)] at this; simpa [preF] using this
          have P := Lib.hid (show qs.length = (preF ks).length ∧ wr.ownsRow w.heap.size 24 4 (.slice xa done.length xc) (preF ks).length (lstL (preF ks) qs) by rw [hd]; exact ⟨hQ.out, hO.out⟩)
          clear hd
          go_wp2_with fail
          go_ret
          exact ⟨_, qs, rfl, P.out.1, P.out.2, hB.out⟩

end

section
open Go.RowKit

theorem infoL : (Tryz.prog.info? 22).map (fun i => (i.zero, i.size, i.bytes)) = some (some (.slice none 0 0), 1, 24) := infoN

def PreL (t : TN) : Prop := OkI t ∧ sizeT t ≤ 1000

theorem preL2 {t t2 : TN} {j : Nat} (h : PreL t) (hj : t.ks.at j = some t2) : PreL t2 := by
  obtain ⟨h, hl⟩ := h
  refine ⟨?_, ?_⟩
  · cases h with
    | num o m n _ _ _ => cases hj
    | name o m n _ _ _ => cases hj
    | neg o m n a h1 h2 h3 h4 =>
      match j, hj with
      | 0, hj =>
        have : a = t2 := Option.some.inj hj
        subst this
        exact h4
      | j + 1, hj => cases hj
    | two o m n a b h1 h2 h3 h4 h5 h6 =>
      match j, hj with
      | 0, hj =>
        have : a = t2 := Option.some.inj hj
        subst this
        exact h5
      | 1, hj =>
        have : b = t2 := Option.some.inj hj
        subst this
        exact h6
      | j + 2, hj => cases hj
  · have h1 := size_drop hj
    have h2 := size_drop_le t.ks j
    unfold sizeT at hl
    omega

def WdL (_ : Nat) (_ : World) : Prop := True

theorem wdL {w w' : World} {lb : Nat} (_ : WdL lb w) (_ : Kept (· = lb) w w') : WdL lb w' := trivial

/-- A node has no kids just where its Op has none. -/
theorem okI_arity {t : TN} (h : OkI t) : (arity t.op = 0 ∧ t.ks = .nil) ∨ (arity t.op ≠ 0 ∧ 0 < t.ks.len) := by
  cases h with
  | num o m n h1 _ _ => left; exact ⟨by show arity o = 0; unfold arity; rw [h1]; rfl, rfl⟩
  | name o m n h1 h2 _ => left; exact ⟨by show arity o = 0; unfold arity; rw [h1, h2]; rfl, rfl⟩
  | neg o m n a h1 h2 h3 _ =>
    right
    refine ⟨?_, Nat.succ_pos _⟩
    show arity o ≠ 0
    unfold arity; rw [h1, h2, h3]; simp
  | two o m n a b h1 h2 h3 h4 _ _ =>
    right
    refine ⟨?_, Nat.succ_pos _⟩
    show arity o ≠ 0
    unfold arity; rw [h1, h2, h3, h4]; simp

theorem pre_tree (t : TN) : preF t.f = t :: (if arity t.op = 0 then [] else preF t.ks) := by
  rw [TN.f, preF]
  simp [preF]

theorem own_one (w : World) (t : TN) (a : Option Addr) (c : Nat) : (w.alloc (ndG t.op t.nm t.n a t.ks.len c)).ownsRow w.heap.size 24 4 (.slice (some ⟨w.heap.size, 0, none⟩) 1 1) 1 (ndL t (a, c)) :=
  ⟨rfl, .inr ⟨w.heap.size, 1, _, rfl, Nat.le_refl _, heap_alloc_new w _, Nat.le_refl _, by unfold maxLen; omega, rfl, rfl⟩⟩

set_option maxHeartbeats 8000000 in
set_option maxRecDepth 100000 in
theorem ofL_any (t : TN) (w : World) (G : Nat → Prop) (a : Option Addr) (c : Nat) (va : Option Addr) (vc : Nat) (vs : List Value) (base : Nat) (hpre : PreL t) {lb : Nat} (_ : WdL lb w) (_ : ReadsN G w a t.ks) (ho : w.ownsRow base 22 1 (.slice va t.ks.len vc) t.ks.len vs)
    (hv : ∀ j t2, t.ks.at j = some t2 → ∃ v, vs[j]? = some v ∧ ResL (fun b => base ≤ b ∧ (Value.slice va t.ks.len vc).ownBlock ≠ some b) w t2 v) :
    Calls Tryz.prog 32 #[nodeV t.op t.nm t.n a t.ks.len c, .slice va t.ks.len vc] w fun e w' => ∃ v, e = .returned v ∧ ResL (fun b => w.heap.size ≤ b) w' t v ∧ Below w.heap.size w w' := by
  obtain ⟨i0, hi, hz0, hz1, hz2⟩ := info_parts ndInfo
  have und : Tryz.prog.underlying 22 = some (.slice 24) := Tryz.underlying22
  have BA := (Below.refl w.heap.size w).alloc (Nat.le_refl _) (ndG t.op t.nm t.n a t.ks.len c)
  have NB := heap_alloc_new w (ndG t.op t.nm t.n a t.ks.len c)
  have hs0 : (w.alloc (ndG t.op t.nm t.n a t.ks.len c)).heap.size = w.heap.size + 1 := World.size_alloc _ _
  have KO := Lib.hid (fun w => kidsOf_any t.op w)
  have CC := Lib.hid (p := ∀ V, Below w.heap.size w V → Calls Tryz.prog 49 #[.slice va t.ks.len vc] V fun e w' => ∃ v qs, e = .returned v ∧ qs.length = (preF t.ks).length ∧ w'.ownsRow V.heap.size 24 4 v (preF t.ks).length (lstL (preF t.ks) qs) ∧ Below V.heap.size V w') (fun V hV =>
    concat_any t.ks va vc vs base V (owns_below ho hV) (by have := hpre.2; unfold sizeT at this; omega) (G := fun b => base ≤ b ∧ (Value.slice va t.ks.len vc).ownBlock ≠ some b) (fun j t2 hj => by
      obtain ⟨v, h1, h2⟩ := hv j t2 hj
      exact ⟨v, h1, resL_keptS h2 (kept_below hV (fun _ => False)) (fun _ h => h.elim)⟩))
  generalize hW : w.alloc (ndG t.op t.nm t.n a t.ks.len c) = W at BA NB hs0
  have HW := Lib.hid hW
  have HB := Lib.hid BA
  have hsize := hpre.2
  obtain ⟨⟨m0, m1, m2, m3⟩, -⟩ := four NB
  have HNB := Lib.hid NB
  rcases okI_arity hpre.1 with ⟨h0, h0k⟩ | ⟨h0, h0k⟩
  · have b1 : ((arity t.op : Int) == 0) = true := by rw [h0]; rfl
    have hp : preF t.f = [t] := by rw [pre_tree, if_pos h0]
    have P := (show ResL (fun b => w.heap.size ≤ b) (W.alloc (ndG t.op t.nm t.n a t.ks.len c)) t (.slice (some ⟨W.heap.size, 0, none⟩) 1 1) ∧ Below w.heap.size w (W.alloc (ndG t.op t.nm t.n a t.ks.len c)) from by
      have ob := own_one W t a c
      refine ⟨⟨⟨W.heap.size, 0, 1, [(a, c)], by rw [hp]; rfl, by omega, by rw [World.size_alloc]; omega, by rw [hp]; rfl, fun j u hj => ?_⟩⟩, BA.alloc (by omega) _⟩
      rw [hp] at hj
      have hj2 : (ndL t (a, c))[j]? = some u := by
        have e : lstL [t] [(a, c)] = ndL t (a, c) := by simp [lstL]
        rw [e] at hj; exact hj
      obtain ⟨g', h1, h2⟩ := owns_at ob hj2
      simp only [Addr.mk.injEq, and_true] at h1
      subst h1
      rw [Nat.zero_add]
      exact h2)
    rw [hs0] at P
    have P := Lib.hid P
    clear hW NB BA ho hv hpre h0 h0k hp CC
    go_enter Tryz.func32, Tryz.ntmps32
    go_upto_region 1 with fail
    rw [HW.out]
    go_wp2_with (go_at_call 40; refine (KO.out _).mono ?_; rintro e w' ⟨rfl, rfl⟩)
    go_ret
    exact ⟨_, rfl, P.out.1, P.out.2⟩
  · have b1 : ((arity t.op : Int) == 0) = false := by rw [beq_eq_false_iff_ne]; exact h0
    have hp : preF t.f = t :: preF t.ks := by rw [pre_tree, if_neg h0]
    have hpk : 0 < (preF t.ks).length := by
      cases hk : t.ks with
      | nil => rw [hk] at h0k; simp [F.len] at h0k
      | cons o m n k r => rw [preF]; simp
    have hpl := pre_len t.ks
    have hpl2 : (preF t.ks).length ≤ 1000 := by unfold sizeT at hsize; omega
    have HP := Lib.hid hp
    have hpkn : (preF t.ks).length ≠ 0 := by omega
    clear hW NB BA ho hv hpre h0 h0k hp hpl
    go_enter Tryz.func32, Tryz.ntmps32
    go_upto_region 1 with fail
    rw [HW.out]
    go_upto_region 3 with (go_at_call 40; refine (KO.out _).mono ?_; rintro e w' ⟨rfl, rfl⟩)
    have BW1 := Lib.hid (show Below w.heap.size w (W.alloc (ndG t.op t.nm t.n a t.ks.len c)).drew from (HB.out.alloc (by omega) _ |> fun b => ⟨b.os, b.tape, b.output, b.size, b.block⟩))
    have ow1 : (W.alloc (ndG t.op t.nm t.n a t.ks.len c)).drew.ownsRow W.heap.size 24 4 (.slice (some ⟨W.heap.size, 0, none⟩) 1 1) 1 (ndL t (a, c)) := own_one W t a c
    rw [hs0] at ow1
    have OW1 := Lib.hid ow1
    clear ow1
    have BW0 := Lib.hid (show Below w.heap.size w W.drew from ⟨HB.out.os, HB.out.tape, HB.out.output, HB.out.size, HB.out.block⟩)
    have hsz0 : W.drew.heap.size = w.heap.size + 1 := hs0
    have hsz1 : (W.alloc (ndG t.op t.nm t.n a t.ks.len c)).drew.heap.size = w.heap.size + 2 := by
      have : (W.alloc (ndG t.op t.nm t.n a t.ks.len c)).drew.heap.size = W.heap.size + 1 := World.size_alloc _ _
      omega
    go_region_law (first
      | (go_simp
         go_at_call 49
         refine (CC.out _ BW1.out).mono ?_
         rintro e w2 ⟨v2, qs, rfl, hq, ho2, hb2⟩
         obtain ⟨g2, c2, rfl, -, -, hc2⟩ := own_full ho2 hpkn
         have O2 := Lib.hid (owns_below OW1.out hb2)
         have HQ := Lib.hid hq
         have HB2 := Lib.hid (BW1.out.trans (hb2.mono (by omega)))
         have HC := Lib.hid (p := ∀ j u, (lstL (preF t.ks) qs)[j]? = some u → w2.cell? ((⟨g2, 0, none⟩ : Addr).add j) = some u) (fun j u hj => by rw [Addr.add_lit, Nat.zero_add]; exact hc2 j u hj)
         have HLL := Lib.hid (lstL_len hq)
         have hz2w : w.heap.size + 2 ≤ w2.heap.size := by have := hb2.size; omega
         clear ho2 hb2 hc2 hq)
      | (refine step_append_new rfl (.tmp 12) (.tmp 14) 22 rfl (base := w.heap.size + 1) und hi hz0 hz1 hz2 rfl (by decide) (.slice (some ⟨w.heap.size + 1, 0, none⟩) 1 1) 1 (preF t.ks).length (ndL t (a, c)) (lstL (preF t.ks) qs) ⟨g2, 0, none⟩ c2 (by first | (simp [Act.eval]; done) | (simp [Act.eval, Act.put]; done) | fail) (by first | (simp [Act.eval]; done) | (simp [Act.eval, Act.put]; done) | fail) O2.out HLL.out HC.out (lstL_one _ _) (by unfold maxLen; omega) (by omega) (by omega) ?_
         intro v3 w3 ho3 hg3 _
         obtain ⟨g3, c3, rfl, -, -, hc3⟩ := own_full ho3 (by omega)
         have hb3 := (ho3.lt g3 rfl)
         have P3 := Lib.hid (show ResL (fun b => w.heap.size ≤ b) w3 t (.slice (some ⟨g3, 0, none⟩) (1 + (preF t.ks).length) c3) from ⟨⟨g3, 0, c3, (a, c) :: qs, by rw [HP.out, List.length_cons, Nat.add_comm], by omega, hb3.2, by rw [HP.out, List.length_cons, List.length_cons, HQ.out], fun j u hj => by
           rw [HP.out, lstL] at hj
           rw [Nat.zero_add]
           exact hc3 j u hj⟩⟩)
         have B3 := Lib.hid (HB2.out.grown hg3 (by omega) (fun q hq => by have := (O2.out.lt q hq).1; omega))
         clear ho3 hg3 hc3 hb3)
      | (go_simp
         go_at_call 49
         refine (CC.out _ BW0.out).mono ?_
         rintro e w2 ⟨v2, qs, rfl, hq, ho2, hb2⟩
         obtain ⟨g2, c2, rfl, -, -, hc2⟩ := own_full ho2 hpkn
         have NB2 := hb2.block w.heap.size (by omega)
         have hz2w : w.heap.size + 1 ≤ w2.heap.size := by have := hb2.size; omega
         have y : w2.heap[w.heap.size]? = some (ndG t.op t.nm t.n a t.ks.len c) := NB2.trans HNB.out
         have O2b := Lib.hid (own_one w2 t a c)
         have HQ := Lib.hid hq
         have HB2b := Lib.hid ((BW0.out.trans (hb2.mono (by omega))).alloc (by omega) (ndG t.op t.nm t.n a t.ks.len c))
         have HCb := Lib.hid (p := ∀ j u, (lstL (preF t.ks) qs)[j]? = some u → (w2.alloc (ndG t.op t.nm t.n a t.ks.len c)).cell? ((⟨g2, 0, none⟩ : Addr).add j) = some u) (fun j u hj => by rw [Addr.add_lit, Nat.zero_add]; exact Lib.cell?_alloc_some _ (hc2 j u hj))
         have HLL := Lib.hid (lstL_len hq)
         have hz3w : (w2.alloc (ndG t.op t.nm t.n a t.ks.len c)).heap.size = w2.heap.size + 1 := World.size_alloc _ _
         clear ho2 hb2 hc2 hq NB2 m0 m1 m2 m3
         obtain ⟨⟨m0, m1, m2, m3⟩, -⟩ := four y
         clear y)
      | (refine step_append_new rfl (.tmp 12) (.tmp 14) 22 rfl (base := w2.heap.size) und hi hz0 hz1 hz2 rfl (by decide) (.slice (some ⟨w2.heap.size, 0, none⟩) 1 1) 1 (preF t.ks).length (ndL t (a, c)) (lstL (preF t.ks) qs) ⟨g2, 0, none⟩ c2 (by first | (simp [Act.eval]; done) | (simp [Act.eval, Act.put]; done) | fail) (by first | (simp [Act.eval]; done) | (simp [Act.eval, Act.put]; done) | fail) O2b.out HLL.out HCb.out (lstL_one _ _) (by unfold maxLen; omega) (by omega) (by rw [World.size_alloc]; omega) ?_
         intro v3 w3 ho3 hg3 _
         obtain ⟨g3, c3, rfl, -, -, hc3⟩ := own_full ho3 (by omega)
         have hb3 := (ho3.lt g3 rfl)
         have P3 := Lib.hid (show ResL (fun b => w.heap.size ≤ b) w3 t (.slice (some ⟨g3, 0, none⟩) (1 + (preF t.ks).length) c3) from ⟨⟨g3, 0, c3, (a, c) :: qs, by rw [HP.out, List.length_cons, Nat.add_comm], by have := hb3.1; omega, hb3.2, by rw [HP.out, List.length_cons, List.length_cons, HQ.out], fun j u hj => by
           rw [HP.out, lstL] at hj
           rw [Nat.zero_add]
           exact hc3 j u hj⟩⟩)
         have B3 := Lib.hid (HB2b.out.grown hg3 (by rw [World.size_alloc]; omega) (fun q hq => by have := (O2b.out.lt q hq).1; omega))
         clear ho3 hg3 hc3 hb3)
      | fail)
    all_goals
      go_wp2_with fail
      go_ret
      exact ⟨_, rfl, P3.out, B3.out⟩

end

end Go.Proofs.YtcmcnmmhkpolcaaGreatDoor
