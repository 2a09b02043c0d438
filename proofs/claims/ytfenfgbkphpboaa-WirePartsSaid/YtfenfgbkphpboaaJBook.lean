/-
  No statement: the law's bytes of a row, what lies in the memory, and when it fails.
-/
import Derived.Test.YtfenfgbkphpboaaCEncT
import Derived.Test.YtfenfgbkphpboaaWSame
import Derived.Test.YtfenfgbkphpboaaCOpen
namespace Go.Proofs.Ytfenfgbkphpboaa
open Go.RowKit

/-- A text in bytes. -/
def encTB (s : ByteArray) : List UInt8 := encI (s.size : Nat) ++ s.data.toList
/-- A value in bytes, its Kind ahead. -/
def encV (x : AD) : List UInt8 := encI x.k ++ (if x.k = 1 then encI x.n else if x.k = 2 then encTB x.s else if x.k = 3 then encI (x.len : Nat) ++ encs (upTo x.z x.len) else [])
/-- An attribute, a stamp, attributes, a row, rows. -/
def encA (x : AD) : List UInt8 := encTB x.m ++ encV x
def encSt (t i q : Int) (o : ByteArray) : List UInt8 := encI t ++ encI i ++ encI q ++ encTB o
def encAs (l : List AD) : List UInt8 := l.flatMap encA
def encR (x : RD) : List UInt8 := encTB x.key ++ encSt x.t x.i x.q x.o ++ encI (x.len : Nat) ++ encAs (fromA x.A x.len 0)
def encRs (l : List RD) : List UInt8 := l.flatMap encR

/-- Some of a kind, one behind the other. -/
def dMany {α : Type} (f : DS → α × DS) : Nat → DS → List α × DS
  | 0, d => ([], d)
  | n + 1, d => ((f d).1 :: (dMany f n (f d).2).1, (dMany f n (f d).2).2)

theorem dMany_succ {α : Type} (f : DS → α × DS) : ∀ n d, dMany f (n + 1) d = ((dMany f n d).1 ++ [(f (dMany f n d).2).1], (f (dMany f n d).2).2)
  | 0, d => rfl
  | n + 1, d => by
    have := dMany_succ f n (f d).2
    rw [dMany, this]
    rfl

theorem dMany_len {α : Type} (f : DS → α × DS) : ∀ n d, (dMany f n d).1.length = n
  | 0, d => rfl
  | n + 1, d => by rw [dMany, List.length_cons, dMany_len f n]

theorem dMany_ok {α : Type} {f : DS → α × DS} (hf : ∀ d, OkD d → OkD (f d).2) : ∀ n d, OkD d → OkD (dMany f n d).2
  | 0, _, h => h
  | n + 1, d, h => dMany_ok hf n _ (hf d h)

theorem dMany_enc {α β : Type} {f : DS → α × DS} {enc : β → List UInt8} {g : β → α} {e : Int} : ∀ (l : List β), (∀ x ∈ l, ∀ r, f (enc x ++ r, e) = (g x, r, e)) → ∀ r, dMany f l.length (l.flatMap enc ++ r, e) = (l.map g, r, e)
  | [], _, r => rfl
  | x :: l, h, r => by
    have h1 := h x (by simp) (l.flatMap enc ++ r)
    have h2 := dMany_enc l (fun y hy => h y (by simp [hy])) r
    rw [List.flatMap_cons, List.length_cons, dMany, List.append_assoc, h1]
    simp only
    rw [h2]
    rfl

def zL (l : List Int) (j : Nat) : Int := l.getD j 0
def zA : AD := ⟨⟨#[]⟩, 0, 0, ⟨#[]⟩, 0, fun _ => 0⟩
def atA (D : List AD) (j : Nat) : AD := D.getD j zA
def zR : RD := ⟨⟨#[]⟩, 0, 0, 0, ⟨#[]⟩, 0, fun _ => zA⟩
def atR (D : List RD) (j : Nat) : RD := D.getD j zR

/-- A number, a text, a list as values. -/
def vInt (n : Int) : AD := ⟨⟨#[]⟩, 1, n, ⟨#[]⟩, 0, fun _ => 0⟩
def vText (s : List UInt8) : AD := ⟨⟨#[]⟩, 2, 0, ⟨s.toArray⟩, 0, fun _ => 0⟩
def vList (l : List Int) : AD := ⟨⟨#[]⟩, 3, 0, ⟨#[]⟩, l.length, zL l⟩
def vNone (k : Int) : AD := ⟨⟨#[]⟩, k, 0, ⟨#[]⟩, 0, fun _ => 0⟩

/-- How many numbers follow; the numbers. -/
def dList (d : DS) : List Int × DS := dMany dInt (dNum 0 16 d).1.toNat (dNum 0 16 d).2
/-- What follows a Kind. -/
def dKind (k : Int) (d : DS) : AD × DS :=
  if k = 1 then (vInt (dInt d).1, (dInt d).2) else if k = 2 then (vText (dText d).1, (dText d).2) else if k = 3 then (vList (dList d).1, (dList d).2) else (vNone k, d)
/-- But where an error was nothing is told. -/
def orZ {α : Type} (z : α) (r : α × DS) : α × DS := if r.2.2 = 0 then r else (z, r.2)
def dVal (d : DS) : AD × DS := orZ zA (dKind (dInt d).1 (dInt d).2)

structure SD where
  t : Int
  i : Int
  q : Int
  o : ByteArray
def zS : SD := ⟨0, 0, 0, ⟨#[]⟩⟩
def d1 (d : DS) : DS := (dInt d).2
def dSt (d : DS) : SD × DS := orZ zS (⟨(dInt d).1, (dInt (d1 d)).1, (dInt (d1 (d1 d))).1, ⟨(dText (d1 (d1 (d1 d)))).1.toArray⟩⟩, (dText (d1 (d1 (d1 d)))).2)
def nmA (m : List UInt8) (x : AD) : AD := ⟨⟨m.toArray⟩, x.k, x.n, x.s, x.len, x.z⟩
def dAt (d : DS) : AD × DS := (nmA (dText d).1 (dVal (dText d).2).1, (dVal (dText d).2).2)
def dAts (d : DS) : List AD × DS := dMany dAt (dNum 0 32 d).1.toNat (dNum 0 32 d).2
def rowOf (key : List UInt8) (s : SD) (D : List AD) : RD := ⟨⟨key.toArray⟩, s.t, s.i, s.q, s.o, D.length, atA D⟩
def dRow (d : DS) : RD × DS := orZ zR (rowOf (dText d).1 (dSt (dText d).2).1 (dAts (dSt (dText d).2).2).1, (dAts (dSt (dText d).2).2).2)
def dRows (d : DS) : List RD × DS := dMany dRow (dNum 0 64 d).1.toNat (dNum 0 64 d).2

theorem orZ_ok {α : Type} {z : α} {r : α × DS} (h : OkD r.2) : OkD (orZ z r).2 := by unfold orZ; split <;> exact h
theorem dInt_ok {d : DS} (h : OkD d) : OkD (dInt d).2 := dNum_ok h
theorem dList_ok {d : DS} (h : OkD d) : OkD (dList d).2 := dMany_ok (fun _ h => dInt_ok h) _ _ (dNum_ok h)
theorem dKind_ok {k : Int} {d : DS} (h : OkD d) : OkD (dKind k d).2 := by
  unfold dKind
  split
  · exact dInt_ok h
  · split
    · exact dText_ok h
    · split
      · exact dList_ok h
      · exact h
theorem dVal_ok {d : DS} (h : OkD d) : OkD (dVal d).2 := orZ_ok (dKind_ok (dInt_ok h))
theorem dSt_ok {d : DS} (h : OkD d) : OkD (dSt d).2 := orZ_ok (dText_ok (dInt_ok (dInt_ok (dInt_ok h))))
theorem dAt_ok {d : DS} (h : OkD d) : OkD (dAt d).2 := dVal_ok (dText_ok h)
theorem dAts_ok {d : DS} (h : OkD d) : OkD (dAts d).2 := dMany_ok (fun _ h => dAt_ok h) _ _ (dNum_ok h)
theorem dRow_ok {d : DS} (h : OkD d) : OkD (dRow d).2 := orZ_ok (dAts_ok (dSt_ok (dText_ok h)))

/-- How many there are. -/
theorem dNum_in {most : Int} (h0 : 0 ≤ most) (d : DS) : 0 ≤ (dNum 0 most d).1 ∧ (dNum 0 most d).1 ≤ most := by
  unfold dNum
  split
  · split
    · rename_i h; exact h
    · exact ⟨Int.le_refl _, h0⟩
  · exact ⟨Int.le_refl _, h0⟩

theorem strB0 (s : ByteArray) : (⟨s.data.toList.toArray⟩ : ByteArray) = s := by cases s; simp

theorem dText_encTB {s : ByteArray} (h : s.size ≤ 9223372036854775807) (r : List UInt8) (e : Int) : dText (encTB s ++ r, e) = (s.data.toList, r, e) := by
  have hl : s.data.toList.length = s.size := by rw [Array.length_toList]; rfl
  have := dText_enc (s := s.data.toList) (by omega) r e
  unfold encT at this
  rw [hl] at this
  exact this

/-- A value as it comes back. -/
def canV (x : AD) : AD := if x.k = 1 then vInt x.n else if x.k = 2 then vText x.s.data.toList else if x.k = 3 then vList (upTo x.z x.len) else vNone x.k
def canA (x : AD) : AD := nmA x.m.data.toList (canV x)
def canR (x : RD) : RD := rowOf x.key.data.toList ⟨x.t, x.i, x.q, x.o⟩ ((fromA x.A x.len 0).map canA)

theorem dVal_enc {x : AD} (hn : NumA x) (hs : x.s.size ≤ 9223372036854775807) (hl : x.k = 3 → x.len ≤ 16) (r : List UInt8) : dVal (encV x ++ r, 0) = (canV x, r, 0) := by
  unfold dVal encV canV
  rw [List.append_assoc, dInt_enc hn.1.1 hn.1.2]
  simp only
  unfold dKind
  by_cases h1 : x.k = 1
  · rw [if_pos h1, if_pos h1, if_pos h1, dInt_enc hn.2.1.1 hn.2.1.2]; rfl
  rw [if_neg h1, if_neg h1, if_neg h1]
  by_cases h2 : x.k = 2
  · rw [if_pos h2, if_pos h2, if_pos h2, dText_encTB hs]; rfl
  rw [if_neg h2, if_neg h2, if_neg h2]
  by_cases h3 : x.k = 3
  · rw [if_pos h3, if_pos h3, if_pos h3]
    have h16 := hl h3
    have hm : dMany dInt (upTo x.z x.len).length ((upTo x.z x.len).flatMap encI ++ r, 0) = ((upTo x.z x.len).map id, r, 0) := dMany_enc (g := id) _ (fun y hy r => by
      obtain ⟨j, -, rfl⟩ := List.mem_map.1 hy
      exact dInt_enc (hn.2.2 j).1 (hn.2.2 j).2 r 0) r
    rw [upTo_len, List.map_id] at hm
    unfold dList
    rw [List.append_assoc, dNum_enc (by omega) (by omega) (by omega) (by omega), Int.toNat_natCast]
    unfold encs
    rw [hm]
    rfl
  · rw [if_neg h3, if_neg h3, if_neg h3]; rfl

/-- A stamp. -/
theorem dSt_enc {t i q : Int} {o : ByteArray} (ht : In64 t) (hi : In64 i) (hq : In64 q) (ho : o.size ≤ 9223372036854775807) (r : List UInt8) : dSt (encSt t i q o ++ r, 0) = (⟨t, i, q, o⟩, r, 0) := by
  unfold dSt encSt d1
  simp only [List.append_assoc]
  rw [dInt_enc ht.1 ht.2]
  simp only
  rw [dInt_enc hi.1 hi.2]
  simp only
  rw [dInt_enc hq.1 hq.2]
  simp only
  rw [dText_encTB ho]
  unfold orZ
  rw [if_pos rfl, strB0]

theorem dAt_enc {x : AD} (hn : NumA x) (hm : x.m.size ≤ 9223372036854775807) (hs : x.s.size ≤ 9223372036854775807) (hl : x.k = 3 → x.len ≤ 16) (r : List UInt8) : dAt (encA x ++ r, 0) = (canA x, r, 0) := by
  unfold dAt encA
  rw [List.append_assoc, dText_encTB hm]
  simp only
  rw [dVal_enc hn hs hl]
  rfl

/-- A row that may be written: sizes and numbers of Go, no more of each than may be. -/
structure EncOk (x : RD) : Prop where
  k : x.key.size ≤ 1000
  o : x.o.size ≤ 1000
  t : In64 x.t
  i : In64 x.i
  q : In64 x.q
  n : ∀ j, j < x.len → NumA (x.A j)
  s : ∀ j, j < x.len → (x.A j).m.size ≤ 1000 ∧ (x.A j).s.size ≤ 1000
  l : ∀ j, j < x.len → (x.A j).k = 3 → (x.A j).len ≤ 16
  a : x.len ≤ 32

theorem mem_fromA {A : Nat → AD} {n : Nat} {y : AD} (h : y ∈ fromA A n 0) : ∃ j, j < n ∧ y = A j := by
  unfold fromA at h
  obtain ⟨j, hj, rfl⟩ := List.mem_map.1 h
  exact ⟨j, by simpa using hj, by rw [Nat.zero_add]⟩

theorem fromA_len (A : Nat → AD) (n : Nat) : (fromA A n 0).length = n := by simp [fromA]

theorem dRow_enc {x : RD} (h : EncOk x) (r : List UInt8) : dRow (encR x ++ r, 0) = (canR x, r, 0) := by
  have hm : dMany dAt (fromA x.A x.len 0).length ((fromA x.A x.len 0).flatMap encA ++ r, 0) = ((fromA x.A x.len 0).map canA, r, 0) := dMany_enc _ (fun y hy r => by
    obtain ⟨j, hj, rfl⟩ := mem_fromA hy
    have h1 := h.s j hj
    exact dAt_enc (h.n j hj) (by omega) (by omega) (h.l j hj) r) r
  rw [fromA_len] at hm
  have hk := h.k
  have ho := h.o
  have ha := h.a
  unfold dRow encR encAs
  simp only [List.append_assoc]
  rw [dText_encTB (by omega)]
  simp only
  rw [dSt_enc h.t h.i h.q (by omega)]
  simp only
  unfold dAts
  rw [dNum_enc (by omega) (by omega) (by omega) (by omega), Int.toNat_natCast, hm]
  rfl

theorem dRows_enc {l : List RD} (h : ∀ x ∈ l, EncOk x) (hl : l.length ≤ 64) (r : List UInt8) : dRows (encI (l.length : Nat) ++ encRs l ++ r, 0) = (l.map canR, r, 0) := by
  have hm := dMany_enc (f := dRow) (enc := encR) (g := canR) (e := 0) l (fun y hy r => dRow_enc (h y hy) r) r
  unfold dRows encRs
  rw [List.append_assoc, dNum_enc (by omega) (by omega) (by omega) (by omega), Int.toNat_natCast, hm]

theorem upTo_zL (l : List Int) : upTo (zL l) l.length = l := by
  apply List.ext_getElem
  · rw [upTo_len]
  · intro i h1 h2
    simp [upTo, zL, List.getD_eq_getElem?_getD, List.getElem?_eq_getElem h2]

theorem canV_k (x : AD) : (canV x).k = x.k := by
  unfold canV
  split
  · rename_i h; exact h.symm
  · split
    · rename_i h; exact h.symm
    · split
      · rename_i h; exact h.symm
      · rfl

theorem cmpL_refl : ∀ l, cmpL l l = 0
  | [] => rfl
  | a :: r => by rw [cmpL, if_pos (cmpI_self a)]; exact cmpL_refl r

theorem cmpV_can (x : AD) : cmpV (canV x).k (canV x).n (canV x).s (canV x).len (canV x).z x.k x.n x.s x.len x.z = 0 := by
  unfold cmpV
  rw [canV_k, if_pos rfl]
  unfold canV
  by_cases h1 : x.k = 1
  · rw [if_pos h1, if_pos h1]; exact cmpI_self _
  rw [if_neg h1, if_neg h1]
  by_cases h2 : x.k = 2
  · rw [if_pos h2, if_pos h2]
    show cmpS ⟨x.s.data.toList.toArray⟩ x.s = 0
    rw [strB0]; exact cmpS_self _
  rw [if_neg h2, if_neg h2]
  by_cases h3 : x.k = 3
  · rw [if_pos h3, if_pos h3]
    show cmpL (upTo (zL (upTo x.z x.len)) (upTo x.z x.len).length) _ = 0
    rw [upTo_zL]; exact cmpL_refl _
  · rw [if_neg h3]

theorem sameAD_can (x : AD) : sameAD (canA x) x = true := by
  unfold sameAD
  have h1 : (canA x).m = x.m := strB0 x.m
  have h2 := cmpV_can x
  rw [h1, beq_self_eq_true, Bool.true_and, decide_eq_true_eq]
  exact h2

theorem sameAs_can : ∀ l : List AD, sameAs (l.map canA) l = true
  | [] => rfl
  | x :: l => by rw [List.map_cons, sameAs, sameAD_can, sameAs_can l]; rfl

theorem fromA_atA (D : List AD) : fromA (atA D) D.length 0 = D := by
  apply List.ext_getElem
  · rw [fromA_len]
  · intro i h1 h2
    simp [fromA, atA, List.getD_eq_getElem?_getD, List.getElem?_eq_getElem h2]

theorem canR_len (x : RD) : (canR x).len = x.len := by simp [canR, rowOf, fromA]

theorem sameR_can (x : RD) : sameR (canR x) x = true := by
  unfold sameR
  have h1 : (canR x).key = x.key := strB0 x.key
  have h2 : cmpSt (canR x).t (canR x).i (canR x).q (canR x).o x.t x.i x.q x.o = 0 := cmpSt_self x.t x.i x.q x.o
  have h3 : fromA (canR x).A (canR x).len 0 = (fromA x.A x.len 0).map canA := fromA_atA _
  rw [h1, h2, h3, canR_len, sameAs_can]
  simp

theorem errV_can (x : AD) : errV (canV x).k (canV x).s (canV x).len (canV x).z = errV x.k x.s x.len x.z := by
  unfold errV
  rw [canV_k]
  unfold canV
  by_cases h1 : x.k = 1
  · rw [if_pos h1, if_pos h1]
  rw [if_neg h1, if_neg h1, if_neg h1]
  by_cases h2 : x.k = 2
  · rw [if_pos h2, if_pos h2, if_pos h2]; rfl
  rw [if_neg h2, if_neg h2, if_neg h2]
  by_cases h3 : x.k = 3
  · rw [if_pos h3, if_pos h3, if_pos h3]
    show errL (upTo (zL (upTo x.z x.len)) (upTo x.z x.len).length) = _
    rw [upTo_zL]
  · rw [if_neg h3, if_neg h3]

theorem errAs_can : ∀ (p : ByteArray) (l : List AD), errAs p (l.map canA) = errAs p l
  | _, [] => rfl
  | p, x :: l => by
    have h1 : (canA x).m = x.m := strB0 x.m
    have h2 : errA p (canA x) = errA p x := by
      unfold errA
      rw [h1]
      have := errV_can x
      split
      · rfl
      · split
        · rfl
        · exact this
    rw [List.map_cons, errAs, errAs, h2, h1, errAs_can x.m l]

theorem errR_can (x : RD) : errR (canR x) = errR x := by
  unfold errR
  have h1 : (canR x).key = x.key := strB0 x.key
  have h3 : fromA (canR x).A (canR x).len 0 = (fromA x.A x.len 0).map canA := fromA_atA _
  rw [h1, h3, canR_len, errAs_can]
  rfl

/-- What is well is of no more than may be. -/
theorem errAs_ok : ∀ {p : ByteArray} {l : List AD}, errAs p l = 0 → ∀ x ∈ l, x.m.size ≤ 8 ∧ (x.k = 2 → x.s.size ≤ 64) ∧ (x.k = 3 → x.len ≤ 16)
  | _, [], _, x, hx => by simp at hx
  | p, y :: l, h, x, hx => by
    rw [errAs] at h
    by_cases he : errA p y = 0
    · rw [if_pos he] at h
      rcases List.mem_cons.1 hx with rfl | hx
      · unfold errA at he
        by_cases h1 : goodB x.m.data.toList = false
        · rw [if_pos h1] at he; omega
        rw [if_neg h1] at he
        by_cases h2 : lsS p x.m = false
        · rw [if_pos h2] at he; omega
        rw [if_neg h2] at he
        refine ⟨?_, fun hk => ?_, fun hk => ?_⟩
        · have hl : x.m.data.toList.length = x.m.size := by rw [Array.length_toList]; rfl
          cases hd : x.m.data.toList with
          | nil => rw [hd] at hl; simp at hl; omega
          | cons c r =>
            rw [hd] at h1 hl
            unfold goodB at h1
            simp only [Bool.not_eq_false, Bool.and_eq_true, decide_eq_true_eq] at h1
            rw [List.length_cons] at hl
            omega
        · unfold errV at he
          rw [hk, if_neg (by decide), if_pos rfl] at he
          unfold errT at he
          have hl : x.s.data.toList.length = x.s.size := by rw [Array.length_toList]; rfl
          by_cases h3 : 64 < x.s.data.toList.length
          · rw [if_pos h3] at he; omega
          · omega
        · unfold errV at he
          rw [hk, if_neg (by decide), if_neg (by decide), if_pos rfl] at he
          unfold errL at he
          rw [upTo_len] at he
          by_cases h3 : 16 < x.len
          · rw [if_pos h3] at he; omega
          · omega
      · exact errAs_ok h x hx
    · rw [if_neg he] at h; exact absurd h he

end Go.Proofs.Ytfenfgbkphpboaa

namespace Go.Proofs.Ytfenfgbkphpboaa
open Go.RowKit

/-- A []int64 reads as numbers, in a block that is G. -/
def ReadsG (G : Nat → Prop) (w : World) (a : Option Addr) (len : Nat) (z : Nat → Int) : Prop :=
  len ≤ maxLen ∧ (len = 0 ∨ ∃ b off, a = some ⟨b, off, none⟩ ∧ G b ∧ ∀ j, j < len → w.cell? ⟨b, off + j, none⟩ = some (.int .i64 (z j)))
/-- A []Attr likewise, its lists too. -/
def ReadsAG (G : Nat → Prop) (w : World) (a : Option Addr) (len : Nat) (A : Nat → AD) : Prop :=
  len ≤ maxLen ∧ (len = 0 ∨ ∃ b off, a = some ⟨b, off, none⟩ ∧ G b ∧ ∀ j, j < len → ∃ y c, Cells5 w b (off + j * 5) (A j) y c ∧ ReadsG G w y (A j).len (A j).z)
/-- A row lies in six cells. -/
def Cells6 (w : World) (b o : Nat) (x : RD) (y : Option Addr) (c : Nat) : Prop :=
  w.cell? ⟨b, o, none⟩ = some (.string x.key) ∧ w.cell? ⟨b, o + 1, none⟩ = some (.int .i64 x.t) ∧ w.cell? ⟨b, o + 2, none⟩ = some (.int .i64 x.i) ∧ w.cell? ⟨b, o + 3, none⟩ = some (.int .i64 x.q) ∧ w.cell? ⟨b, o + 4, none⟩ = some (.string x.o) ∧ w.cell? ⟨b, o + 5, none⟩ = some (.slice y x.len c)
/-- A []Row likewise. -/
def ReadsRG (G : Nat → Prop) (w : World) (a : Option Addr) (len : Nat) (R : Nat → RD) : Prop :=
  len ≤ maxLen ∧ (len = 0 ∨ ∃ b off, a = some ⟨b, off, none⟩ ∧ G b ∧ ∀ j, j < len → ∃ y c, Cells6 w b (off + j * 6) (R j) y c ∧ ReadsAG G w y (R j).len (R j).A)

section
variable {G H S : Nat → Prop} {w w' : World} {a : Option Addr} {len : Nat}

theorem ReadsG.plain {z : Nat → Int} (h : ReadsG G w a len z) : Reads w a len z := by
  refine ⟨h.1, h.2.imp id ?_⟩
  rintro ⟨b, off, rfl, -, hc⟩
  exact ⟨b, off, rfl, hc⟩
theorem ReadsG.of {z : Nat → Int} (h : Reads w a len z) : ReadsG (fun k => k < w.heap.size) w a len z := by
  refine ⟨h.1, ?_⟩
  by_cases h0 : len = 0
  · exact .inl h0
  · obtain ⟨b, off, rfl, hc⟩ := h.2.resolve_left h0
    exact .inr ⟨b, off, rfl, by have := World.block_lt_of_cell? w _ (hc 0 (by omega)); simpa using this, hc⟩
theorem ReadsG.lt {z : Nat → Int} (h : ReadsG G w a len z) : ReadsG (fun k => G k ∧ k < w.heap.size) w a len z := by
  refine ⟨h.1, ?_⟩
  by_cases h0 : len = 0
  · exact .inl h0
  · obtain ⟨b, off, rfl, hg, hc⟩ := h.2.resolve_left h0
    exact .inr ⟨b, off, rfl, ⟨hg, by have := World.block_lt_of_cell? w _ (hc 0 (by omega)); simpa using this⟩, hc⟩
theorem ReadsG.mono {z : Nat → Int} (h : ReadsG G w a len z) (hG : ∀ k, G k → k < w.heap.size → H k) : ReadsG H w a len z := by
  refine ⟨h.1, h.lt.2.imp id ?_⟩
  rintro ⟨b, off, rfl, hg, hc⟩
  exact ⟨b, off, rfl, hG b hg.1 hg.2, hc⟩
theorem ReadsG.kept {z : Nat → Int} (h : ReadsG G w a len z) (hk : Kept S w w') (hS : ∀ k, G k → ¬ S k) : ReadsG G w' a len z := by
  refine ⟨h.1, h.2.imp id ?_⟩
  rintro ⟨b, off, rfl, hg, hc⟩
  exact ⟨b, off, rfl, hg, fun j hj => hk.cell (hc j hj) (hS b hg)⟩

theorem Cells5.keptS {b o c : Nat} {x : AD} {y : Option Addr} (h : Cells5 w b o x y c) (hk : Kept S w w') (hb : ¬ S b) : Cells5 w' b o x y c :=
  ⟨hk.cell h.1 hb, hk.cell h.2.1 hb, hk.cell h.2.2.1 hb, hk.cell h.2.2.2.1 hb, hk.cell h.2.2.2.2 hb⟩
theorem Cells6.keptS {b o c : Nat} {x : RD} {y : Option Addr} (h : Cells6 w b o x y c) (hk : Kept S w w') (hb : ¬ S b) : Cells6 w' b o x y c :=
  ⟨hk.cell h.1 hb, hk.cell h.2.1 hb, hk.cell h.2.2.1 hb, hk.cell h.2.2.2.1 hb, hk.cell h.2.2.2.2.1 hb, hk.cell h.2.2.2.2.2 hb⟩
theorem Cells6.lt {b o c : Nat} {x : RD} {y : Option Addr} (h : Cells6 w b o x y c) : b < w.heap.size := by have := World.block_lt_of_cell? w _ h.1; simpa using this

theorem ReadsAG.plain {A : Nat → AD} (h : ReadsAG G w a len A) : ReadsA w a len A := by
  refine ⟨h.1, h.2.imp id ?_⟩
  rintro ⟨b, off, rfl, -, hc⟩
  refine ⟨b, off, rfl, fun j hj => ?_⟩
  obtain ⟨y, c, h5, hr⟩ := hc j hj
  exact ⟨y, c, h5, hr.plain⟩
theorem ReadsAG.of {A : Nat → AD} (h : ReadsA w a len A) : ReadsAG (fun k => k < w.heap.size) w a len A := by
  refine ⟨h.1, ?_⟩
  by_cases h0 : len = 0
  · exact .inl h0
  · obtain ⟨b, off, rfl, hc⟩ := h.2.resolve_left h0
    refine .inr ⟨b, off, rfl, ?_, fun j hj => ?_⟩
    · obtain ⟨y, c, h5, -⟩ := hc 0 (by omega); exact h5.lt
    · obtain ⟨y, c, h5, hr⟩ := hc j hj
      exact ⟨y, c, h5, ReadsG.of hr⟩
theorem ReadsAG.mono {A : Nat → AD} (h : ReadsAG G w a len A) (hG : ∀ k, G k → k < w.heap.size → H k) : ReadsAG H w a len A := by
  refine ⟨h.1, ?_⟩
  by_cases h0 : len = 0
  · exact .inl h0
  · obtain ⟨b, off, rfl, hg, hc⟩ := h.2.resolve_left h0
    refine .inr ⟨b, off, rfl, ?_, fun j hj => ?_⟩
    · obtain ⟨y, c, h5, -⟩ := hc 0 (by omega); exact hG b hg h5.lt
    · obtain ⟨y, c, h5, hr⟩ := hc j hj
      exact ⟨y, c, h5, hr.mono hG⟩
theorem ReadsAG.kept {A : Nat → AD} (h : ReadsAG G w a len A) (hk : Kept S w w') (hS : ∀ k, G k → ¬ S k) : ReadsAG G w' a len A := by
  refine ⟨h.1, h.2.imp id ?_⟩
  rintro ⟨b, off, rfl, hg, hc⟩
  refine ⟨b, off, rfl, hg, fun j hj => ?_⟩
  obtain ⟨y, c, h5, hr⟩ := hc j hj
  exact ⟨y, c, h5.keptS hk (hS b hg), hr.kept hk hS⟩

theorem ReadsRG.mono {R : Nat → RD} (h : ReadsRG G w a len R) (hG : ∀ k, G k → k < w.heap.size → H k) : ReadsRG H w a len R := by
  refine ⟨h.1, ?_⟩
  by_cases h0 : len = 0
  · exact .inl h0
  · obtain ⟨b, off, rfl, hg, hc⟩ := h.2.resolve_left h0
    refine .inr ⟨b, off, rfl, ?_, fun j hj => ?_⟩
    · obtain ⟨y, c, h5, -⟩ := hc 0 (by omega); exact hG b hg h5.lt
    · obtain ⟨y, c, h5, hr⟩ := hc j hj
      exact ⟨y, c, h5, hr.mono hG⟩
theorem ReadsRG.kept {R : Nat → RD} (h : ReadsRG G w a len R) (hk : Kept S w w') (hS : ∀ k, G k → ¬ S k) : ReadsRG G w' a len R := by
  refine ⟨h.1, h.2.imp id ?_⟩
  rintro ⟨b, off, rfl, hg, hc⟩
  refine ⟨b, off, rfl, hg, fun j hj => ?_⟩
  obtain ⟨y, c, h5, hr⟩ := hc j hj
  exact ⟨y, c, h5.keptS hk (hS b hg), hr.kept hk hS⟩
end

/-- A []Row reads as rows. -/
abbrev ReadsR (w : World) (a : Option Addr) (len : Nat) (R : Nat → RD) : Prop := ReadsRG (fun k => k < w.heap.size) w a len R

theorem keptBelow {w w' : World} (hb : Below w.heap.size w w') : Kept (fun k => w.heap.size ≤ k) w w' := ⟨hb.os, hb.tape, hb.output, hb.size, fun k hk _ => hb.block k hk⟩
theorem keptNew {w w' : World} (hb : Below w.heap.size w w') : Kept (fun _ => False) w w' := ⟨hb.os, hb.tape, hb.output, hb.size, fun k hk _ => hb.block k hk⟩

theorem ReadsR.below {w w' : World} {a : Option Addr} {len : Nat} {R : Nat → RD} (h : ReadsR w a len R) (hb : Below w.heap.size w w') : ReadsR w' a len R :=
  (ReadsRG.kept (G := fun k => k < w.heap.size) h (keptBelow hb) (fun k hk h => by omega)).mono (fun k _ h => h)

/-- A row in memory by itself. -/
structure FewR (x : RD) : Prop where
  k : x.key.size ≤ 100
  o : x.o.size ≤ 100
  t : In64 x.t
  i : In64 x.i
  q : In64 x.q
  n : ∀ j, j < x.len → NumA (x.A j)
  f : ∀ j, j < x.len → FewA (x.A j)
  l : x.len ≤ 40

theorem upTo_succ (z : Nat → Int) (k : Nat) : upTo z (k + 1) = upTo z k ++ [z k] := by simp [upTo, List.range_succ]
theorem encs_app (l m : List Int) : encs (l ++ m) = encs l ++ encs m := by unfold encs; rw [List.flatMap_append]
theorem encs_one (n : Int) : encs [n] = encI n := by simp [encs]
theorem encI_len10 {n : Int} (h : In64 n) : (encI n).length ≤ 10 := encI_len h.1 h.2
theorem encI_lenN {n : Nat} (h : n ≤ 9223372036854775807) : (encI (n : Nat)).length ≤ 10 := encI_len (by omega) (by omega)
theorem encs_len {z : Nat → Int} (hz : ∀ j, In64 (z j)) : ∀ k, (encs (upTo z k)).length ≤ 10 * k
  | 0 => by simp [upTo, encs]
  | k + 1 => by
    rw [upTo_succ, encs_app, encs_one, List.length_append]
    have := encs_len hz k
    have := encI_len10 (hz k)
    omega
theorem encTB_len {s : ByteArray} (h : s.size ≤ 1000000) : (encTB s).length ≤ 10 + s.size := by
  unfold encTB
  have := encI_lenN (n := s.size) (by omega)
  have hl : s.data.toList.length = s.size := by rw [Array.length_toList]; rfl
  rw [List.length_append]; omega
theorem encV_len {x : AD} (hf : FewA x) (hn : NumA x) : (encV x).length ≤ 420 := by
  unfold encV
  have h1 := encI_len10 hn.1
  have h2 := encI_len10 hn.2.1
  have h3 := encTB_len (s := x.s) (by have := hf.2.1; omega)
  have h4 := encI_lenN (n := x.len) (by have := hf.2.2; omega)
  have h5 := encs_len hn.2.2 x.len
  have h6 := hf.2.1
  have h7 := hf.2.2
  rw [List.length_append]
  split
  · omega
  · split
    · omega
    · split
      · rw [List.length_append]; omega
      · simp; omega
theorem encA_len {x : AD} (hf : FewA x) (hn : NumA x) : (encA x).length ≤ 530 := by
  unfold encA
  have h1 := encV_len hf hn
  have h3 := encTB_len (s := x.m) (by have := hf.1; omega)
  have h6 := hf.1
  rw [List.length_append]; omega

/-- The first k of attributes, of rows. -/
def tkA (A : Nat → AD) (k : Nat) : List AD := fromA A k 0
def tkR (R : Nat → RD) (k : Nat) : List RD := (List.range k).map R
theorem tkA_succ (A : Nat → AD) (k : Nat) : tkA A (k + 1) = tkA A k ++ [A k] := by
  simp [tkA, fromA, List.range_succ]
theorem tkR_succ (R : Nat → RD) (k : Nat) : tkR R (k + 1) = tkR R k ++ [R k] := by simp [tkR, List.range_succ]
theorem encAs_snoc (l : List AD) (x : AD) : encAs (l ++ [x]) = encAs l ++ encA x := by simp [encAs]
theorem encRs_snoc (l : List RD) (x : RD) : encRs (l ++ [x]) = encRs l ++ encR x := by simp [encRs]
theorem encAs_len {A : Nat → AD} {n : Nat} (h : ∀ j, j < n → FewA (A j) ∧ NumA (A j)) : ∀ k, k ≤ n → (encAs (tkA A k)).length ≤ 530 * k
  | 0, _ => by simp [tkA, fromA, encAs]
  | k + 1, hk => by
    rw [tkA_succ, encAs_snoc, List.length_append]
    have := encAs_len h k (by omega)
    have := encA_len (h k (by omega)).1 (h k (by omega)).2
    omega
theorem encSt_len {t i q : Int} {o : ByteArray} (ht : In64 t) (hi : In64 i) (hq : In64 q) (ho : o.size ≤ 100) : (encSt t i q o).length ≤ 140 := by
  unfold encSt
  have h1 := encI_len10 ht
  have h2 := encI_len10 hi
  have h3 := encI_len10 hq
  have h4 := encTB_len (s := o) (by omega)
  simp only [List.length_append]; omega
theorem encR_len {x : RD} (h : FewR x) : (encR x).length ≤ 21500 := by
  unfold encR
  have h1 := encTB_len (s := x.key) (by have := h.k; omega)
  have h2 := encSt_len h.t h.i h.q h.o
  have h3 := encI_lenN (n := x.len) (by have := h.l; omega)
  have h4 := encAs_len (fun j hj => ⟨h.f j hj, h.n j hj⟩) x.len (Nat.le_refl _)
  have h5 := h.k
  have h6 := h.l
  unfold tkA at h4
  simp only [List.length_append]; omega
theorem encRs_len {R : Nat → RD} {n : Nat} (h : ∀ j, j < n → FewR (R j)) : ∀ k, k ≤ n → (encRs (tkR R k)).length ≤ 21500 * k
  | 0, _ => by simp [tkR, encRs]
  | k + 1, hk => by
    rw [tkR_succ, encRs_snoc, List.length_append]
    have := encRs_len h k (by omega)
    have := encR_len (h k (by omega))
    omega

end Go.Proofs.Ytfenfgbkphpboaa

namespace Go.Proofs.Ytfenfgbkphpboaa
open Go.RowKit

/-- The rows from the k-th on. -/
def fromR (R : Nat → RD) (n k : Nat) : List RD := (List.range (n - k)).map fun j => R (k + j)
theorem fromR_cons (R : Nat → RD) {n k : Nat} (h : k < n) : fromR R n k = R k :: fromR R n (k + 1) := by
  unfold fromR
  rw [show n - k = (n - (k + 1)) + 1 by omega, List.range_succ_eq_map, List.map_cons, List.map_map]
  simp only [Nat.add_zero, List.cons.injEq, true_and]
  apply List.map_congr_left
  intro j _
  simp only [Function.comp_def, Nat.succ_eq_add_one]
  congr 1; omega
theorem fromR_nil (R : Nat → RD) {n k : Nat} (h : n ≤ k) : fromR R n k = [] := by unfold fromR; rw [Nat.sub_eq_zero_of_le h]; rfl
theorem fromR_all (R : Nat → RD) (n : Nat) : fromR R n 0 = tkR R n := by simp [fromR, tkR]
theorem tkR_len (R : Nat → RD) (n : Nat) : (tkR R n).length = n := by simp [tkR]
theorem tkR_atR (D : List RD) : tkR (atR D) D.length = D := by
  apply List.ext_getElem
  · rw [tkR_len]
  · intro i h1 h2
    simp [tkR, atR, List.getD_eq_getElem?_getD, List.getElem?_eq_getElem h2]

/-- What is wrong with rows, the first; with as many as there are. -/
def errF : List RD → Int
  | [] => 0
  | x :: r => if errR x = 0 then errF r else errR x
def errRows (l : List RD) : Int := if 64 < l.length then 4 else errF l

theorem errF_map (l : List RD) : errF (l.map canR) = errF l := by
  induction l with
  | nil => rfl
  | cons x l ih => rw [List.map_cons, errF, errF, errR_can, ih]
theorem errF_all : ∀ {l : List RD}, errF l = 0 → ∀ x ∈ l, errR x = 0
  | [], _, x, hx => by simp at hx
  | y :: l, h, x, hx => by
    rw [errF] at h
    by_cases he : errR y = 0
    · rw [if_pos he] at h
      rcases List.mem_cons.1 hx with rfl | hx
      · exact he
      · exact errF_all h x hx
    · rw [if_neg he] at h; exact absurd h he

/-- What Encode, All answer: bytes and an error. -/
def encodeR (x : RD) : List UInt8 × Int := if errR x = 0 then (sealB (encR x), 0) else ([], errR x)
def encodeRs (l : List RD) : List UInt8 × Int := if errRows l = 0 then (sealB (encI (l.length : Nat) ++ encRs l), 0) else ([], errRows l)
/-- What Open answers. -/
def openF (l : List UInt8) : List UInt8 × Int := if l.length < 4 then ([], 3) else if valB (l.drop (l.length - 4)) = crc (l.take (l.length - 4)) then (l.take (l.length - 4), 0) else ([], 10)
/-- What is read of them, all of them, and is well. -/
def allOf {α : Type} (z : α) (r : α × DS) (err : α → Int) : α × Int := if r.2.2 = 0 then (if r.2.1 = [] then (if err r.1 = 0 then (r.1, 0) else (z, err r.1)) else (z, 2)) else (z, r.2.2)
def decodeR (l : List UInt8) : RD × Int := if (openF l).2 = 0 then allOf zR (dRow ((openF l).1, 0)) errR else (zR, (openF l).2)
def decodeRs (l : List UInt8) : List RD × Int := if (openF l).2 = 0 then allOf [] (dRows ((openF l).1, 0)) errRows else ([], (openF l).2)

theorem openF_len (l : List UInt8) : (openF l).1.length ≤ l.length := by
  unfold openF
  split
  · simp
  · split
    · simp only [List.length_take]; omega
    · simp

/-- What was well written is read again. -/
theorem encOk_of {x : RD} (h : FewR x) (he : errR x = 0) : EncOk x := by
  have hl : x.len ≤ 32 ∧ errAs ⟨#[]⟩ (fromA x.A x.len 0) = 0 := by
    unfold errR at he
    by_cases h1 : goodB x.key.data.toList = false
    · rw [if_pos h1] at he; omega
    rw [if_neg h1] at he
    by_cases h2 : errS x.t x.i x.q x.o = 0
    · rw [if_pos h2] at he
      by_cases h3 : 32 < x.len
      · rw [if_pos h3] at he; omega
      · rw [if_neg h3] at he; exact ⟨by omega, he⟩
    · rw [if_neg h2] at he; exact absurd he h2
  refine ⟨by have := h.k; omega, by have := h.o; omega, h.t, h.i, h.q, h.n, fun j hj => ?_, fun j hj hk => ?_, hl.1⟩
  · have := h.f j hj
    exact ⟨by have := this.1; omega, by have := this.2.1; omega⟩
  · have hm : x.A j ∈ fromA x.A x.len 0 := by
      unfold fromA
      exact List.mem_map.2 ⟨j, by simpa using hj, by rw [Nat.zero_add]⟩
    exact (errAs_ok hl.2 _ hm).2.2 hk

/-- Lengths: what is left is no longer; a text is no longer than what there was. -/
theorem dNum_len (lo hi : Int) (d : DS) : (dNum lo hi d).2.1.length ≤ d.1.length := by
  obtain ⟨k, h⟩ := dNum_left lo hi d
  rw [h, List.length_drop]; omega
theorem dInt_len (d : DS) : (dInt d).2.1.length ≤ d.1.length := dNum_len _ _ d
theorem dText_len (d : DS) : (dText d).1.length ≤ d.1.length ∧ (dText d).2.1.length ≤ d.1.length := by
  have h := dNum_len 0 9223372036854775807 d
  unfold dText
  split
  · refine ⟨by simp, ?_⟩
    unfold failD
    split
    · simp
    · exact h
  · refine ⟨?_, ?_⟩
    · simp only [List.length_take]; omega
    · simp only [List.length_drop]; omega
theorem dMany_left {α : Type} {f : DS → α × DS} (hf : ∀ d, (f d).2.1.length ≤ d.1.length) : ∀ n d, (dMany f n d).2.1.length ≤ d.1.length
  | 0, _ => Nat.le_refl _
  | n + 1, d => Nat.le_trans (dMany_left hf n _) (hf d)
theorem dMany_all {α : Type} {f : DS → α × DS} {P : α → Prop} {B : Nat} (hf : ∀ d, (f d).2.1.length ≤ d.1.length) (hP : ∀ d, d.1.length ≤ B → P (f d).1) : ∀ n d, d.1.length ≤ B → ∀ x ∈ (dMany f n d).1, P x
  | 0, _, _, x, hx => by simp [dMany] at hx
  | n + 1, d, hd, x, hx => by
    rw [dMany] at hx
    rcases List.mem_cons.1 hx with rfl | hx
    · exact hP d hd
    · exact dMany_all hf hP n _ (Nat.le_trans (hf d) hd) x hx

/-- An attribute, a row, whose texts are no longer than B. -/
def SzA (B : Nat) (x : AD) : Prop := x.m.size ≤ B ∧ x.s.size ≤ B
structure SzR (B : Nat) (x : RD) : Prop where
  k : x.key.size ≤ B
  o : x.o.size ≤ B
  a : ∀ j, j < x.len → SzA B (x.A j)
  l : x.len ≤ 32

theorem dVal_sz (d : DS) : (dVal d).1.s.size ≤ d.1.length ∧ (dVal d).2.1.length ≤ d.1.length := by
  have h1 := dInt_len d
  have hk : (dKind (dInt d).1 (dInt d).2).1.s.size ≤ d.1.length ∧ (dKind (dInt d).1 (dInt d).2).2.1.length ≤ d.1.length := by
    unfold dKind
    split
    · exact ⟨Nat.zero_le _, Nat.le_trans (dInt_len _) h1⟩
    · split
      · have h2 := dText_len (dInt d).2
        refine ⟨?_, Nat.le_trans h2.2 h1⟩
        show (dText (dInt d).2).1.toArray.size ≤ _
        simp; omega
      · split
        · exact ⟨Nat.zero_le _, Nat.le_trans (dMany_left dInt_len _ _) (Nat.le_trans (dNum_len _ _ _) h1)⟩
        · exact ⟨Nat.zero_le _, h1⟩
  unfold dVal orZ
  split
  · exact hk
  · exact ⟨Nat.zero_le _, hk.2⟩
theorem dAt_sz (d : DS) : SzA d.1.length (dAt d).1 ∧ (dAt d).2.1.length ≤ d.1.length := by
  have h1 := dText_len d
  have h2 := dVal_sz (dText d).2
  refine ⟨⟨?_, Nat.le_trans h2.1 h1.2⟩, Nat.le_trans h2.2 h1.2⟩
  show (dText d).1.toArray.size ≤ _
  simp; omega
theorem dSt_sz (d : DS) : (dSt d).1.o.size ≤ d.1.length ∧ (dSt d).2.1.length ≤ d.1.length := by
  have h1 := dInt_len d
  have h2 := dInt_len (d1 d)
  have h3 := dInt_len (d1 (d1 d))
  have h4 := dText_len (d1 (d1 (d1 d)))
  have e1 : (d1 d).1.length ≤ d.1.length := h1
  have e2 : (d1 (d1 d)).1.length ≤ (d1 d).1.length := h2
  have e3 : (d1 (d1 (d1 d))).1.length ≤ (d1 (d1 d)).1.length := h3
  unfold dSt orZ
  split
  · refine ⟨?_, by simp only; omega⟩
    show (dText (d1 (d1 (d1 d)))).1.toArray.size ≤ _
    simp; omega
  · exact ⟨Nat.zero_le _, by simp only; omega⟩
theorem dRow_left (d : DS) : (dRow d).2.1.length ≤ d.1.length := by
  have h1 := dText_len d
  have h2 := dSt_sz (dText d).2
  have h3 := dNum_len 0 32 (dSt (dText d).2).2
  have h4 := dMany_left (f := dAt) (fun d => (dAt_sz d).2) (dNum 0 32 (dSt (dText d).2).2).1.toNat (dNum 0 32 (dSt (dText d).2).2).2
  unfold dRow orZ dAts
  split <;> (simp only; omega)
theorem zR_sz (B : Nat) : SzR B zR := ⟨Nat.zero_le _, Nat.zero_le _, fun j hj => by have : (0 : Nat) = zR.len := rfl; omega, Nat.zero_le _⟩
theorem SzR.mono {B C : Nat} {x : RD} (h : SzR B x) (hB : B ≤ C) : SzR C x := ⟨Nat.le_trans h.k hB, Nat.le_trans h.o hB, fun j hj => ⟨Nat.le_trans (h.a j hj).1 hB, Nat.le_trans (h.a j hj).2 hB⟩, h.l⟩
theorem rowOf_sz {B : Nat} {key : List UInt8} {s : SD} {D : List AD} (hk : key.length ≤ B) (ho : s.o.size ≤ B) (hD : ∀ x ∈ D, SzA B x) (hl : D.length ≤ 32) : SzR B (rowOf key s D) := by
  refine ⟨?_, ho, fun j hj => ?_, hl⟩
  · show key.toArray.size ≤ B
    simpa using hk
  · have hj' : j < D.length := hj
    show SzA B (atA D j)
    unfold atA
    rw [List.getD_eq_getElem?_getD, List.getElem?_eq_getElem hj']
    exact hD _ (List.getElem_mem hj')
theorem dAts_sz (d : DS) : (∀ x ∈ (dAts d).1, SzA d.1.length x) ∧ (dAts d).1.length ≤ 32 := by
  have h3 := dNum_len 0 32 d
  have h5 := dNum_in (most := 32) (by omega) d
  refine ⟨dMany_all (f := dAt) (P := SzA d.1.length) (B := d.1.length) (fun d => (dAt_sz d).2) (fun e he => ⟨Nat.le_trans (dAt_sz e).1.1 he, Nat.le_trans (dAt_sz e).1.2 he⟩) _ _ h3, ?_⟩
  unfold dAts
  rw [dMany_len]; omega
theorem orZ_P {α : Type} {P : α → Prop} {z : α} {r : α × DS} (hz : P z) (hr : P r.1) : P (orZ z r).1 := by
  unfold orZ
  split
  · exact hr
  · exact hz
theorem dRow_sz (d : DS) : SzR d.1.length (dRow d).1 := by
  have h1 := dText_len d
  have h2 := dSt_sz (dText d).2
  have h4 := dAts_sz (dSt (dText d).2).2
  refine orZ_P (zR_sz _) (rowOf_sz h1.1 (Nat.le_trans h2.1 h1.2) (fun x hx => ?_) h4.2)
  have := h4.1 x hx
  have hB : (dSt (dText d).2).2.1.length ≤ d.1.length := Nat.le_trans h2.2 h1.2
  exact ⟨Nat.le_trans this.1 hB, Nat.le_trans this.2 hB⟩
theorem dRows_sz (d : DS) : ∀ x ∈ (dRows d).1, SzR d.1.length x :=
  dMany_all (P := SzR d.1.length) dRow_left (fun e he => (dRow_sz e).mono he) _ _ (dNum_len _ _ _)
theorem dRows_len (d : DS) : (dRows d).1.length ≤ 64 := by
  have h5 := dNum_in (most := 64) (by omega) d
  unfold dRows
  rw [dMany_len]; omega

end Go.Proofs.Ytfenfgbkphpboaa
