/-
 No statement: what AggTurnedCard needs, of the texts OW1.
-/
import Derived.Test.YtapcjnoaofmmiaaGreatDoorVU15
import Derived.Deep.LoopGhost
import Derived.Shelf.Spec.SlicesInsertGrow
import Derived.Lib.SlicesDelete
import Derived.WalkLawsBesides
import Derived.Lib.ItoaLen
import Derived.Laws.BytesString
import Derived.RangeFuncBox
import Derived.Maps.AppendAt
import Derived.Deep.Slices
import Derived.Deep.Fields
import Derived.ChangeSame
import Derived.RangeFuncNested
import Derived.RangeFuncBound
import Derived.RangeFuncCalls
import Derived.RangeFuncLeaves
import Derived.Shelf.Abstract
import Derived.Shelf.RegionOpen
import Derived.OwnWalkIn
import Derived.TacticsInMore
import Derived.LoopNIn
import Derived.LoopIn
import Derived.Lib.IndexLaws
import Derived.Maps.OwnIn
namespace Go.Proofs.YtapcjnoaofmmiaaGreatDoor.Wr
section
section
open Go.RowKit
end
section
open Go.RowKit
end
section
open Go.RowKit
def tK (c : UInt8) : Bool := decide ((c.toNat : Int) < 32) || decide (126 < (c.toNat : Int)) || decide ((c.toNat : Int) = 34)
def EJ (l : List UInt8) : Int := if 64 < l.length then 4 else if l.any tK then 2 else 0
def kQ : List Int -> Bool
 | a :: b :: r => decide (a < b) && kQ (b :: r)
 | _ => true
def EO (l : List Int) : Int := if 16 < l.length then 4 else if kQ l then 0 else 2
theorem AI (l : List Int) : kQ l = true ↔ ∀ j, j + 1 < l.length -> l.getD j 0 < l.getD (j + 1) 0 := by
 induction l with
 | nil => simp [kQ]
 | cons a r ih =>
   cases r with
   | nil => simp [kQ]
   | cons b r =>
     simp only [kQ, Bool.and_eq_true, decide_eq_true_eq];rw [ih];constructor
     · rintro ⟨h, k⟩ j hj
       cases j with
       | zero => simpa using h
       | succ j => simpa using k j (by simpa using hj)
     · intro h
       exact ⟨by simpa using h 0 (by simp), fun j hj => by simpa using h (j + 1) (by simpa using hj)⟩
theorem KI {s : ByteArray} (h : ∀ j (hj : j < s.size), tK s[j] = false) : s.data.toList.any tK = false := by
 rw [List.any_eq_false];intro c hc;obtain ⟨j, hj, rfl⟩ := List.mem_iff_getElem.1 hc;have := h j (by simpa using hj);intro e;have e' : tK s[j] = true := e;rw [this] at e'; cases e'
theorem tO {s : ByteArray} {j : Nat} (hj : j < s.size) (h : tK s[j] = true) : s.data.toList.any tK = true := by
 rw [List.any_eq_true];exact ⟨s[j], List.mem_iff_getElem.2 ⟨j, by simpa using hj, rfl⟩, h⟩
def Reads (w : World) (a : Option Addr) (len : Nat) (z : Nat -> Int) : Prop :=
 len <= maxLen /\ (len = 0 \/ ∃ b off, a = some ⟨b, off, none⟩ /\ ∀ j, j < len -> w.cell? ⟨b, off + j, none⟩ = some (.int .i64 (z j)))
def fI (z : Nat -> Int) (n : Nat) : List Int := (List.range n).map z
theorem jO (z : Nat -> Int) (n : Nat) : (fI z n).length = n := by simp [fI]
theorem mF (z : Nat -> Int) {n j : Nat} (h : j < n) : (fI z n).getD j 0 = z j := by simp [fI, List.getD, h]
theorem Reads.kept {w w' : World} {a : Option Addr} {len : Nat} {z : Nat -> Int} (h : Reads w a len z) (hb : Below w.heap.size w w') : Reads w' a len z := by
 refine ⟨h.1, ?_⟩
 rcases h.2 with h0 | ⟨b, off, rfl, hc⟩
 · exact .inl h0
 · exact .inr ⟨b, off, rfl, fun j hj => (hb.cell (p := ⟨b, off + j, none⟩) (World.block_lt_of_cell? w _ (hc j hj))).trans (hc j hj)⟩
theorem sA {z : Nat -> Int} {n : Nat} : kQ (fI z n) = true ↔ ∀ j, j + 1 < n -> z j < z (j + 1) := by
 rw [AI, jO];exact ⟨fun h j hj => by have := h j hj; rwa [mF z (by omega), mF z hj] at this, fun h j hj => by rw [mF z (by omega), mF z hj]; exact h j hj⟩
def val (k n : Int) (s : ByteArray) (l : Value) : Value := .agg #[.int .i64 k, .int .i64 n, .string s, l]
def s9 (k : Int) (s : ByteArray) (len : Nat) (z : Nat -> Int) : Int := if k = 1 then 0 else if k = 2 then EJ s.data.toList else if k = 3 then EO (fI z len) else 7
end
section
open Go.RowKit
theorem l5 {b : Nat} {A W : World} {B : Nat} (h : Below b A W) (hB : b <= B) (v0 v1 v2 v3 : Value) :
 Below b A ((((W.setCell ⟨B, 0, none⟩ v0).setCell ⟨B, 1, none⟩ v1).setCell ⟨B, 2, none⟩ v2).setCell ⟨B, 3, none⟩ v3) :=
 (((h.setCell (p := ⟨B, 0, none⟩) hB v0).setCell (p := ⟨B, 1, none⟩) hB v1).setCell (p := ⟨B, 2, none⟩) hB v2).setCell (p := ⟨B, 3, none⟩) hB v3
end
section
open Go.RowKit
def lI (n : Int) : Bool := decide (0 <= n) && decide (n <= 1000000000)
def Ae (t i q : Int) (o : ByteArray) : Int := if lI t = true then if lI i = true then if lI q = true then if lM o.data.toList = true then 0 else 5 else 1 else 1 else 1
abbrev stp (t i q : Int) (o : ByteArray) : Value := .agg #[.int .i64 t, .int .i64 i, .int .i64 q, .string o]
end
section
open Go.RowKit
set_option maxHeartbeats 1000000 in
theorem wI (n : Int) (w : World) : Calls Tryz.prog 157 #[.int .i64 n] w fun e w' => e = .returned (.bool (lI n)) /\ w = w' := by
 by_cases h : 0 <= n
 · go_enter Tryz.func157, Tryz.ntmps157
   go_wp2
   go_ret;exact ⟨cT (a := decide (n <= 1000000000)) (by unfold lI; rw [decide_eq_true h]; rfl), rfl⟩
 · go_enter Tryz.func157, Tryz.ntmps157
   go_wp2
   go_ret;exact ⟨cT (a := false) (by unfold lI; rw [decide_eq_false (by omega)]; rfl), rfl⟩
theorem uQ {s : ByteArray} (h : 1 <= s.size) : s.toList.isEmpty = false := by
 rw [Lib.toList_data];have hl : s.data.toList.length = s.size := by simp
 cases e : s.data.toList with
 | nil => rw [e] at hl; simp at hl; omega
 | cons a b => rfl
theorem Iv {s : ByteArray} (h : 2 <= s.size) (c : UInt8) : (s.toList == [c]) = false := by
 rw [beq_eq_false_iff_ne, Lib.toList_data];intro e;have hl : s.data.toList.length = s.size := by simp
 rw [e] at hl; simp at hl; omega
end
section
open Go.RowKit
def cmpI (a b : Int) : Int := if a < b then -1 else if b < a then 1 else 0
def cmpS (a b : ByteArray) : Int := if Op.bytesLess a.toList b.toList then -1 else if Op.bytesLess b.toList a.toList then 1 else 0
set_option maxHeartbeats 1000000 in
theorem vQ (a b : Int) (w : World) : Calls Tryz.prog 179 #[.int .i64 a, .int .i64 b] w fun e w' => e = .returned (.int .i64 (cmpI a b)) /\ w = w' := by
 have hc : a < b \/ b < a \/ a = b := by omega
 rcases hc with h | h | rfl
 · rw [show cmpI a b = -1 by unfold cmpI; rw [if_pos h]]
   go_enter Tryz.func179, Tryz.ntmps179
   go_wp2
   go_ret;exact ⟨rfl, rfl⟩
 · rw [show cmpI a b = 1 by unfold cmpI; rw [if_neg (by omega), if_pos h]]
   go_enter Tryz.func179, Tryz.ntmps179
   go_wp2
   go_ret;exact ⟨rfl, rfl⟩
 · rw [show cmpI a a = 0 by unfold cmpI; rw [if_neg (by omega), if_neg (by omega)]]
   go_enter Tryz.func179, Tryz.ntmps179
   go_wp2
   go_ret;exact ⟨rfl, rfl⟩
set_option maxHeartbeats 1000000 in
theorem BI (a b : Int) (w : World) : Calls Tryz.prog 178 #[.int .i64 a, .int .i64 b] w fun e w' => e = .returned (.int .i64 (cmpI a b)) /\ w = w' := by
 have hc : a < b \/ b < a \/ a = b := by omega
 rcases hc with h | h | rfl
 · rw [show cmpI a b = -1 by unfold cmpI; rw [if_pos h]]
   go_enter Tryz.func178, Tryz.ntmps178
   go_wp2
   go_ret;exact ⟨rfl, rfl⟩
 · rw [show cmpI a b = 1 by unfold cmpI; rw [if_neg (by omega), if_pos h]]
   go_enter Tryz.func178, Tryz.ntmps178
   go_wp2
   go_ret;exact ⟨rfl, rfl⟩
 · rw [show cmpI a a = 0 by unfold cmpI; rw [if_neg (by omega), if_neg (by omega)]]
   go_enter Tryz.func178, Tryz.ntmps178
   go_wp2
   go_ret;exact ⟨rfl, rfl⟩
set_option maxHeartbeats 1000000 in
theorem BH (a b : ByteArray) (w : World) : Calls Tryz.prog 180 #[.string a, .string b] w fun e w' => e = .returned (.int .i64 (cmpS a b)) /\ w = w' := by
 by_cases h : Op.bytesLess a.toList b.toList = true
 · rw [show cmpS a b = -1 by unfold cmpS; rw [if_pos h]]
   go_enter Tryz.func180, Tryz.ntmps180
   go_wp2
   go_ret;exact ⟨rfl, rfl⟩
 · have h' : Op.bytesLess a.toList b.toList = false := by simpa using h
   by_cases k : Op.bytesLess b.toList a.toList = true
   · rw [show cmpS a b = 1 by unfold cmpS; rw [if_neg h, if_pos k]]
     have q : (a.toList == b.toList) = false := by
      rw [beq_eq_false_iff_ne]; intro e;rw [e, f9] at k; cases k
     clear h
     go_enter Tryz.func180, Tryz.ntmps180
     go_wp2
     go_ret;exact ⟨rfl, rfl⟩
   · have k' : Op.bytesLess b.toList a.toList = false := by simpa using k
     rw [show cmpS a b = 0 by unfold cmpS; rw [if_neg h, if_neg k]];obtain rfl : a = b := pH (gT _ _ h' k');clear h k k'
     go_enter Tryz.func180, Tryz.ntmps180
     go_wp2
     go_ret;exact ⟨rfl, rfl⟩
def cmpL : List Int -> List Int -> Int
 | [], [] => 0
 | [], _ :: _ => -1
 | _ :: _, [] => 1
 | a :: r, b :: q => if cmpI a b = 0 then cmpL r q else cmpI a b
theorem kF (a : Int) : cmpI a a = 0 := by unfold cmpI; rw [if_neg (by omega), if_neg (by omega)]
theorem I4 {a b : Int} (h : ¬ a = b) : ¬ cmpI a b = 0 := by
 unfold cmpI
 split
 · omega
 · split <;> omega
theorem E4 (k : Nat) : ∀ (l m : List Int), k <= l.length -> k <= m.length -> (∀ j, j < k -> l.getD j 0 = m.getD j 0) -> cmpL l m = cmpL (l.drop k) (m.drop k) := by
 induction k with
 | zero => intro l m _ _ _; rfl
 | succ k ih =>
   intro l m hl hm h;cases l with
   | nil => simp at hl
   | cons a l => cases m with
     | nil => simp at hm
     | cons b m =>
       have e : a = b := by simpa using h 0 (by omega)
       subst e;rw [cmpL, kF, if_pos rfl, List.drop_succ_cons, List.drop_succ_cons];exact ih l m (by simpa using hl) (by simpa using hm) (fun j hj => by simpa using h (j + 1) (by omega))
theorem JY {z1 z2 : Nat -> Int} {n1 n2 k : Nat} (h : ∀ j, j < k -> z1 j = z2 j) (h1 : k <= n1) (h2 : k <= n2) :
 cmpL (fI z1 n1) (fI z2 n2) = cmpL ((fI z1 n1).drop k) ((fI z2 n2).drop k) :=
 E4 k _ _ (by rw [jO]; exact h1) (by rw [jO]; exact h2) (fun j hj => by rw [mF z1 (by omega), mF z2 (by omega)]; exact h j hj)
theorem jP (z : Nat -> Int) {n k : Nat} (h : k < n) : (fI z n).drop k = z k :: (fI z n).drop (k + 1) := by
 rw [List.drop_eq_getElem_cons (by rw [jO]; exact h)]
 congr 1
 simp [fI]
theorem mE (z : Nat -> Int) {n k : Nat} (h : n <= k) : (fI z n).drop k = [] := List.drop_of_length_le (by rw [jO]; exact h)
set_option maxHeartbeats 2000000 in
theorem Ao (a1 a2 : Option Addr) (n1 c1 n2 c2 : Nat) (z1 z2 : Nat -> Int) (w : World) (h1 : Reads w a1 n1 z1) (h2 : Reads w a2 n2 z2) :
 Calls Tryz.prog 181 #[.slice a1 n1 c1, .slice a2 n2 c2] w fun e w' => e = .returned (.int .i64 (cmpL (fI z1 n1) (fI z2 n2))) /\ w = w' := by
 obtain ⟨m1, h1⟩ := h1;obtain ⟨m2, h2⟩ := h2;unfold maxLen at m1 m2
 rcases h1 with rfl | ⟨b1, o1, rfl, hc1⟩
 · by_cases h0 : n2 = 0
   · subst h0
     go_enter Tryz.func181, Tryz.ntmps181
     go_wp2
     go_loop [11] (fun i => i = .int .i64 0) (fun _ => 0)
     case atStart => rfl
     case round =>
      subst hrel
      go_wp2
      go_ret;exact ⟨rfl, rfl⟩
   · have R := aA (show cmpL (fI z1 0) (fI z2 n2) = -1 by
      have : (fI z2 n2).drop 0 = _ := jP z2 (Nat.pos_of_ne_zero h0);rw [List.drop_zero] at this; rw [this]; rfl)
     have hp : 0 < n2 := Nat.pos_of_ne_zero h0;clear h0 h2
     go_enter Tryz.func181, Tryz.ntmps181
     go_wp2
     go_loop [11] (fun i => i = .int .i64 0) (fun _ => 0)
     case atStart => rfl
     case round =>
      subst hrel
      go_wp2
      go_ret;exact ⟨cF R.out.symm, rfl⟩
 · have H1 := aA hc1
   have H2 := aA h2;clear hc1 h2
   go_enter Tryz.func181, Tryz.ntmps181
   go_wp2
   go_loop [11] (fun i => ∃ k : Nat, k <= n1 /\ k <= n2 /\ i = .int .i64 k /\ Hid (∀ j, j < k -> z1 j = z2 j)) (fun i => n1 - (intOf i).toNat)
   case atStart => exact ⟨0, Nat.zero_le _, Nat.zero_le _, rfl, aA (fun j h => by omega)⟩
   case round =>
    obtain ⟨k, hk1, hk2, rfl, he⟩ := hrel;have R := aA (JY he.out hk1 hk2)
    by_cases hlt : k < n1
    · have g1 := H1.out k hlt
      by_cases hl2 : k < n2
      · rcases H2.out with h | ⟨b2, o2, rfl, hc2⟩
        · omega
        · have g2 := hc2 k hl2
          clear hc2;have C := vQ (z1 k) (z2 k);obtain ⟨x, hx⟩ : ∃ x, z1 k = x := ⟨_, rfl⟩;obtain ⟨y, hy⟩ : ∃ y, z2 k = y := ⟨_, rfl⟩;have R2 := aA (R.out.trans (by rw [jP z1 hlt, jP z2 hl2, hx, hy]));rw [hx] at g1 C;rw [hy] at g2 C
          have he2 := aA (show x = y -> ∀ j, j < k + 1 -> z1 j = z2 j from fun exy j hj => by
           by_cases e : j = k
           · subst e; rw [hx, hy, exy]
           · exact he.out j (by omega))
          have C1 := aA C;clear C hx hy R he
          by_cases hxy : x = y
          · subst hxy
            rw [kF] at C1;have he3 := aA (he2.out rfl);clear he2
            go_wp2_with (go_at_call 179; refine (C1.out _).mono ?_; rintro e w' ⟨rfl, rfl⟩)
            go_round
            case rel => exact ⟨k + 1, by omega, by omega, by go_num, he3⟩
            case measure => simp [intOf]; omega
          · have hne := I4 hxy
            obtain ⟨v, hv⟩ : ∃ v, cmpI x y = v := ⟨_, rfl⟩;have R3 := aA (show cmpL (fI z1 n1) (fI z2 n2) = v by rw [R2.out, cmpL, if_neg hne, hv]);rw [hv] at C1 hne;have hn1 : (v != 0) = true := by simpa using hne
            clear hv R2 hne
            go_wp2_with (go_at_call 179; refine (C1.out _).mono ?_; rintro e w' ⟨rfl, rfl⟩)
            go_ret;exact ⟨cF R3.out.symm, rfl⟩
      · have R2 := aA (R.out.trans (by rw [jP z1 hlt, mE z2 (by omega)]))
        clear R
        go_wp2
        go_ret;exact ⟨cF (by rw [R2.out, cmpL]), rfl⟩
    · by_cases hl2 : k < n2
      · have R2 := aA (R.out.trans (by rw [mE z1 (by omega), jP z2 hl2]))
        clear R
        go_wp2
        go_ret;exact ⟨cF (by rw [R2.out, cmpL]), rfl⟩
      · have R2 := aA (R.out.trans (by rw [mE z1 (by omega), mE z2 (by omega)]))
        clear R
        go_wp2
        go_ret;exact ⟨cF (by rw [R2.out, cmpL]), rfl⟩
def cmpV (k1 n1 : Int) (s1 : ByteArray) (l1 : Nat) (z1 : Nat -> Int) (k2 n2 : Int) (s2 : ByteArray) (l2 : Nat) (z2 : Nat -> Int) : Int :=
 if k1 = k2 then (if k1 = 1 then cmpI n1 n2 else if k1 = 2 then cmpS s1 s2 else if k1 = 3 then cmpL (fI z1 l1) (fI z2 l2) else 0) else cmpI k1 k2
set_option maxHeartbeats 2000000 in
theorem An (k1 n1 : Int) (s1 : ByteArray) (a1 : Option Addr) (l1 c1 : Nat) (z1 : Nat -> Int) (k2 n2 : Int) (s2 : ByteArray) (a2 : Option Addr) (l2 c2 : Nat) (z2 : Nat -> Int) (w : World) (h1 : Reads w a1 l1 z1) (h2 : Reads w a2 l2 z2) :
 Calls Tryz.prog 156 #[val k1 n1 s1 (.slice a1 l1 c1), val k2 n2 s2 (.slice a2 l2 c2)] w fun e w' => e = .returned (.int .i64 (cmpV k1 n1 s1 l1 z1 k2 n2 s2 l2 z2)) /\ Below w.heap.size w w' := by
 unfold val;have bl : ∀ o1 o2, Below w.heap.size w ((w.alloc o1).alloc o2) := fun o1 o2 => ((Below.refl _ _).alloc (Nat.le_refl _) _).alloc (by simp) _
 have r1 := aA (fun o1 o2 => h1.kept (bl o1 o2));have r2 := aA (fun o1 o2 => h2.kept (bl o1 o2));clear h1 h2 bl
 by_cases hk : k1 = k2
 · subst hk
   have R : cmpV k1 n1 s1 l1 z1 k1 n2 s2 l2 z2 = if k1 = 1 then cmpI n1 n2 else if k1 = 2 then cmpS s1 s2 else if k1 = 3 then cmpL (fI z1 l1) (fI z2 l2) else 0 := by unfold cmpV; rw [if_pos rfl]
   rw [R];clear R
   by_cases e1 : k1 = 1
   · subst e1; rw [if_pos rfl]
     go_enter Tryz.func156, Tryz.ntmps156
     go_wp2_with (go_at_call 179; refine (vQ _ _ _).mono ?_; rintro e w' ⟨rfl, rfl⟩)
     go_ret;exact ⟨rfl, (((Below.refl _ _).alloc (Nat.le_refl _) _).alloc (by simp) _)⟩
   have q1 : (k1 == 1) = false := by simpa using e1
   rw [if_neg e1]
   by_cases e2 : k1 = 2
   · subst e2; rw [if_pos rfl]
     go_enter Tryz.func156, Tryz.ntmps156
     go_wp2_with (go_at_call 180; refine (BH _ _ _).mono ?_; rintro e w' ⟨rfl, rfl⟩)
     go_ret;exact ⟨rfl, (((Below.refl _ _).alloc (Nat.le_refl _) _).alloc (by simp) _)⟩
   have q2 : (k1 == 2) = false := by simpa using e2
   rw [if_neg e2]
   by_cases e3 : k1 = 3
   · subst e3; rw [if_pos rfl]
     go_enter Tryz.func156, Tryz.ntmps156
     go_wp2_with (go_at_call 181; refine (Ao a1 a2 l1 c1 l2 c2 z1 z2 _ (r1.out _ _) (r2.out _ _)).mono ?_; rintro e w' ⟨rfl, rfl⟩)
     go_ret;exact ⟨rfl, (((Below.refl _ _).alloc (Nat.le_refl _) _).alloc (by simp) _)⟩
   have q3 : (k1 == 3) = false := by simpa using e3
   rw [if_neg e3];clear e1 e2 e3
   go_enter Tryz.func156, Tryz.ntmps156
   go_wp2_with fail
   go_ret;exact ⟨rfl, (((Below.refl _ _).alloc (Nat.le_refl _) _).alloc (by simp) _)⟩
 · have R : cmpV k1 n1 s1 l1 z1 k2 n2 s2 l2 z2 = cmpI k1 k2 := by unfold cmpV; rw [if_neg hk]
   rw [R];have q : (k1 == k2) = false := by simpa using hk
   have q' : (k1 != k2) = true := by simpa using hk
   clear R hk
   go_enter Tryz.func156, Tryz.ntmps156
   go_wp2_with (go_at_call 178; refine (BI _ _ _).mono ?_; rintro e w' ⟨rfl, rfl⟩)
   go_ret;exact ⟨rfl, (((Below.refl _ _).alloc (Nat.le_refl _) _).alloc (by simp) _)⟩
set_option maxHeartbeats 2000000 in
theorem yV (k1 n1 : Int) (s1 : ByteArray) (a1 : Option Addr) (l1 c1 : Nat) (z1 : Nat -> Int) (k2 n2 : Int) (s2 : ByteArray) (a2 : Option Addr) (l2 c2 : Nat) (z2 : Nat -> Int) (w : World) (h1 : Reads w a1 l1 z1) (h2 : Reads w a2 l2 z2) :
 Calls Tryz.prog 121 #[val k1 n1 s1 (.slice a1 l1 c1), val k2 n2 s2 (.slice a2 l2 c2)] w fun e w' => e = .returned (.bool (decide (cmpV k1 n1 s1 l1 z1 k2 n2 s2 l2 z2 = 0))) /\ Below w.heap.size w w' := by
 have bl : ∀ o1 o2, Below w.heap.size w ((w.alloc o1).alloc o2) := fun o1 o2 => ((Below.refl _ _).alloc (Nat.le_refl _) _).alloc (by simp) _
 have C := fun o1 o2 => An k1 n1 s1 a1 l1 c1 z1 k2 n2 s2 a2 l2 c2 z2 _ (h1.kept (bl o1 o2)) (h2.kept (bl o1 o2))
 obtain ⟨x, hx⟩ : ∃ x, cmpV k1 n1 s1 l1 z1 k2 n2 s2 l2 z2 = x := ⟨_, rfl⟩;rw [hx] at C |-
 unfold val at C |-
 have C1 := aA C;have bl1 := aA bl;clear C bl hx h1 h2
 by_cases h : x = 0
 · subst h
   go_enter Tryz.func121, Tryz.ntmps121
   go_wp2_with (go_at_call 156; refine (C1.out _ _).mono ?_; rintro e w1 ⟨rfl, hb⟩; have hb1 := aA hb; clear hb)
   go_ret;exact ⟨rfl, (bl1.out _ _).trans (hb1.out.mono (by simp; omega))⟩
 · have q : (x == 0) = false := by simpa using h
   rw [show decide (x = 0) = false by simpa using h];clear h
   go_enter Tryz.func121, Tryz.ntmps121
   go_wp2_with (go_at_call 156; refine (C1.out _ _).mono ?_; rintro e w1 ⟨rfl, hb⟩; have hb1 := aA hb; clear hb)
   go_ret;exact ⟨by rw [<- q]; rfl, (bl1.out _ _).trans (hb1.out.mono (by simp; omega))⟩
end
section
open Go.RowKit
structure AD where
 m : ByteArray
 k : Int
 n : Int
 s : ByteArray
 len : Nat
 z : Nat -> Int
def gU (w : World) (b o : Nat) (x : AD) (y : Option Addr) (c : Nat) : Prop :=
 w.cell? ⟨b, o, none⟩ = some (.string x.m) /\ w.cell? ⟨b, o + 1, none⟩ = some (.int .i64 x.k) /\ w.cell? ⟨b, o + 2, none⟩ = some (.int .i64 x.n) /\ w.cell? ⟨b, o + 3, none⟩ = some (.string x.s) /\ w.cell? ⟨b, o + 4, none⟩ = some (.slice y x.len c)
theorem gU.lt {w : World} {b o : Nat} {x : AD} {y : Option Addr} {c : Nat} (h : gU w b o x y c) : b < w.heap.size := by have := World.block_lt_of_cell? w _ h.1; simpa using this
theorem gU.below {B : Nat} {w w' : World} {b o : Nat} {x : AD} {y : Option Addr} {c : Nat} (h : gU w b o x y c) (hb : Below B w w') (hB : b < B) : gU w' b o x y c :=
 ⟨(hb.cell (p := ⟨b, _, none⟩) hB).trans h.1, (hb.cell (p := ⟨b, _, none⟩) hB).trans h.2.1, (hb.cell (p := ⟨b, _, none⟩) hB).trans h.2.2.1, (hb.cell (p := ⟨b, _, none⟩) hB).trans h.2.2.2.1, (hb.cell (p := ⟨b, _, none⟩) hB).trans h.2.2.2.2⟩
theorem gU.kept {w w' : World} {b o : Nat} {x : AD} {y : Option Addr} {c : Nat} (h : gU w b o x y c) (hb : Below w.heap.size w w') : gU w' b o x y c := h.below hb h.lt
def ReadsA (w : World) (a : Option Addr) (len : Nat) (A : Nat -> AD) : Prop :=
 len <= maxLen /\ (len = 0 \/ ∃ b off, a = some ⟨b, off, none⟩ /\ ∀ j, j < len -> ∃ y c, gU w b (off + j * 5) (A j) y c /\ Reads w y (A j).len (A j).z)
theorem ReadsA.kept {w w' : World} {a : Option Addr} {len : Nat} {A : Nat -> AD} (h : ReadsA w a len A) (hb : Below w.heap.size w w') : ReadsA w' a len A := by
 refine ⟨h.1, h.2.imp id ?_⟩;rintro ⟨b, off, rfl, hc⟩;refine ⟨b, off, rfl, fun j hj => ?_⟩;obtain ⟨y, c, h5, hr⟩ := hc j hj;exact ⟨y, c, h5.kept hb, hr.kept hb⟩
def jM (p : ByteArray) (x : AD) : Int := if cB x.m.data.toList = false then 5 else if lsS p x.m = false then 6 else s9 x.k x.s x.len x.z
def eV : ByteArray -> List AD -> Int
 | _, [] => 0
 | p, x :: r => if jM p x = 0 then eV x.m r else jM p x
def fromA (A : Nat -> AD) (n k : Nat) : List AD := (List.range (n - k)).map fun j => A (k + j)
theorem lH (A : Nat -> AD) {n k : Nat} (h : k < n) : fromA A n k = A k :: fromA A n (k + 1) := by
 unfold fromA;rw [show n - k = (n - (k + 1)) + 1 by omega, List.range_succ_eq_map, List.map_cons, List.map_map];simp only [Nat.add_zero, List.cons.injEq, true_and]
 apply List.map_congr_left
 intro j _;simp only [Function.comp_def, Nat.succ_eq_add_one]
 congr 1; omega
theorem pW (A : Nat -> AD) {n k : Nat} (h : n <= k) : fromA A n k = [] := by
 unfold fromA; rw [Nat.sub_eq_zero_of_le h]; rfl
structure RD where
 key : ByteArray
 t : Int
 i : Int
 q : Int
 o : ByteArray
 len : Nat
 A : Nat -> AD
def Af (x : RD) : Int := if cB x.key.data.toList = false then 5 else if Ae x.t x.i x.q x.o = 0 then (if 32 < x.len then 4 else eV ⟨#[]⟩ (fromA x.A x.len 0)) else Ae x.t x.i x.q x.o
theorem uT {m : ByteArray} (h : cB m.data.toList = true) : lsS ⟨#[]⟩ m = true := by
 cases m with
 | mk d =>
   obtain ⟨l⟩ := d;cases l with
   | nil => simp [cB] at h
   | cons c r => unfold lsS; rw [Lib.toList_data, Lib.toList_data]; rfl
def FewA (x : AD) : Prop := x.m.size <= 100 /\ x.s.size <= 200 /\ x.len <= 40
def NumA (x : AD) : Prop := aW x.k /\ aW x.n /\ ∀ j, aW (x.z j)
end
section
open Go.RowKit
def qH (w : World) (len : Nat) (z : Nat -> Int) (e : Ending) (w' : World) : Prop :=
 (∃ a c, e = .returned (.slice a len c) /\ Reads w' a len z /\ ∀ b, a = some b -> w.heap.size <= b.block) /\ Below w.heap.size w w'
theorem E9 : (Tryz.prog.info? 2).map (fun i => (i.zero, i.size, i.bytes)) = some (some (.int .i64 0), 1, 8) := by kernel_rfl
theorem JF (z : Nat -> Int) (len : Nat) : ∀ u ∈ (List.range len).map (fun j => Value.int .i64 (z j)), u.oneCell' = true := by
 intro u hu;obtain ⟨j, _, rfl⟩ := List.mem_map.1 hu;rfl
theorem Dw {w : World} {base : Nat} {a : Option Addr} {len l c : Nat} {z : Nat -> Int} (h : w.ownsRow base 2 1 (.slice a l c) len ((List.range len).map (fun j => Value.int .i64 (z j)))) : l = len /\ Reads w a len z /\ ∀ b, a = some b -> base <= b.block := by
 rcases h.2 with ⟨h, h'⟩ | ⟨g, cap, cur, hv, hb, hg, hnc, hm, _, ht⟩
 · simp only [Value.slice.injEq] at h
   obtain ⟨rfl, rfl, rfl⟩ := h;subst h';exact ⟨rfl, ⟨Nat.zero_le _, .inl rfl⟩, fun b hb => by cases hb⟩
 · simp only [Value.slice.injEq] at hv
   obtain ⟨rfl, rfl, rfl⟩ := hv;refine ⟨rfl, ⟨Nat.le_trans hnc hm, .inr ⟨g, 0, rfl, fun j hj => ?_⟩⟩, fun b hb' => by cases hb'; exact hb⟩;have hjj : ((List.range l).map (fun j => Value.int .i64 (z j)))[j]? = some (.int .i64 (z j)) := by simp [hj]
   rw [Nat.zero_add, cell_of_row w g j cur _ (0, 0) hg];rw [Nat.mul_one] at ht;rw [<- ht, List.getElem?_take, if_pos hj] at hjj;simpa using hjj
set_option maxRecDepth 100000 in
set_option maxHeartbeats 2000000 in
theorem qA (a : Option Addr) (len cap : Nat) (z : Nat -> Int) (hl : len <= 1000000) (w : World) (hr : Reads w a len z) :
 Calls Tryz.prog 240 #[.slice a len cap] w (qH w len z) := by
 obtain ⟨i0, hi, hz0, hz1, hz2⟩ := info_parts E9;have und : Tryz.prog.underlying 51 = some (.slice 2) := Tryz.underlying51;cases a with
 | none =>
   have h0 : len = 0 := by
    rcases hr.2 with h | ⟨b, off, h, _⟩
    · exact h
    · cases h
   subst h0;have P := aA (show qH w 0 z (.returned (.slice none 0 0)) w from ⟨⟨none, 0, rfl, ⟨Nat.zero_le _, .inl rfl⟩, fun b h => by cases h⟩, Below.refl _ _⟩);clear hr
   go_enter Tryz.func240, Tryz.ntmps240
   go_wp2
   rw [Lib.run_eql_slice_nil w _ _ _ _ _ _ _ und];simp only [Result.andThen];rw [Oper.upon_value]
   go_wp2_with fail
   go_ret;exact P.out
 | some x =>
   have F := aA (p := ∀ w', Below w.heap.size w w' -> Hi w' (.slice (some x) len cap) len ((List.range len).map (fun j => Value.int .i64 (z j)))) (fun w' hb => by
    refine .inr ⟨x, cap, rfl, by simp, fun j u hj => ?_⟩
    rcases (hr.kept hb).2 with h0 | ⟨b, off, hx, hc⟩
    · subst h0; simp at hj
    · obtain rfl : x = ⟨b, off, none⟩ := by simpa using hx
      have hjl : j < len := by
       rcases Nat.lt_or_ge j len with h | h
       · exact h
       · rw [List.getElem?_eq_none (by simpa using h)] at hj; cases hj
      rw [Addr.add_lit, hc j hjl];simpa [hjl] using hj)
   clear hr
   go_enter Tryz.func240, Tryz.ntmps240
   have bA : Below w.heap.size w (w.alloc (.cells #[] 2)) := (Below.refl _ _).alloc (Nat.le_refl _) _;have BA := aA bA;have OA := aA (show (w.alloc (.cells #[] 2)).ownsRow w.heap.size 2 1 (.slice (some ⟨w.heap.size, 0, none⟩) 0 0) 0 [] from ⟨rfl, .inr ⟨w.heap.size, 0, #[], rfl, Nat.le_refl _, heap_alloc_new w _, Nat.le_refl _, Nat.zero_le _, rfl, rfl⟩⟩);clear bA
   go_wp2
   rw [Lib.run_eql_slice_nil w _ _ _ _ _ _ _ und];simp only [Result.andThen];rw [Oper.upon_value]
   go_wp2_with (at_builtin; refine nQ rfl _ _ 51 rfl und hi hz0 hz1 hz2 rfl _ _ 0 len [] _ rfl rfl OA.out (F.out _ BA.out) (JF z len) (by unfold maxLen; omega) (by omega) (by simp) ?_)
   intro v' w2 ho hg _
   obtain ⟨va, vl, vc, rfl⟩ : ∃ a l c, v' = .slice a l c := by
    rcases ho.2 with ⟨h, _⟩ | ⟨g, cap, _, h, _⟩
    · exact ⟨_, _, _, h⟩
    · exact ⟨_, _, _, h⟩
   obtain ⟨rfl, hrd, hbl⟩ := Dw ho;have P := aA (show qH w vl z (.returned (.slice va vl vc)) w2 from ⟨⟨va, vc, rfl, hrd, hbl⟩, BA.out.grown hg (by simp) (fun k hk => by simp [Value.ownBlock] at hk; omega)⟩);clear ho hg hrd hbl
   go_wp2
   go_ret;exact P.out
theorem vF (W : World) (B : Nat) (v0 v1 v2 v3 : Value) : aF (fun k => k = B) W ((((W.setCell ⟨B, 0, none⟩ v0).setCell ⟨B, 1, none⟩ v1).setCell ⟨B, 2, none⟩ v2).setCell ⟨B, 3, none⟩ v3) :=
 ((((aF.refl (fun k => k = B) W).setCell (S := fun k => k = B) (p := ⟨B, 0, none⟩) (.inl rfl) v0).setCell (S := fun k => k = B) (p := ⟨B, 1, none⟩) (.inl rfl) v1).setCell (S := fun k => k = B) (p := ⟨B, 2, none⟩) (.inl rfl) v2).setCell (S := fun k => k = B) (p := ⟨B, 3, none⟩) (.inl rfl) v3
theorem Reads.keptS {S : Nat -> Prop} {w w' : World} {a : Option Addr} {len : Nat} {z : Nat -> Int} (h : Reads w a len z) (hk : aF S w w') (hS : ∀ b, a = some b -> ¬ S b.block) : Reads w' a len z := by
 refine ⟨h.1, ?_⟩
 rcases h.2 with h0 | ⟨b, off, rfl, hc⟩
 · exact .inl h0
 · exact .inr ⟨b, off, rfl, fun j hj => hk.cell (hc j hj) (show ¬ S b from hS ⟨b, off, none⟩ rfl)⟩
def twN (k n : Int) : Int := if k = 1 then n else 0
def twS (k : Int) (s : ByteArray) : ByteArray := if k = 2 then s else ⟨#[]⟩
def twL (k : Int) (len : Nat) : Nat := if k = 3 then len else 0
def tS (w : World) (k n : Int) (s : ByteArray) (len : Nat) (z : Nat -> Int) (e : Ending) (w' : World) : Prop :=
 (∃ a c, e = .returned (.agg #[.int .i64 k, .int .i64 (twN k n), .string (twS k s), .slice a (twL k len) c]) /\ (∀ b, a = some b -> w.heap.size <= b.block) /\ ∀ w3, aF (fun b => b = w.heap.size + 1) w' w3 -> Reads w3 a (twL k len) z) /\ Below w.heap.size w w'
theorem pQ (w : World) (z : Nat -> Int) : Reads w none 0 z := ⟨Nat.zero_le _, .inl rfl⟩
theorem mG (w : World) (o1 o2 : Obj) : Below w.heap.size w ((w.alloc o1).alloc o2) /\ ((w.alloc o1).alloc o2).heap[w.heap.size]? = some o1 /\ ((w.alloc o1).alloc o2).heap[w.heap.size + 1]? = some o2 /\ ((w.alloc o1).alloc o2).heap.size = w.heap.size + 2 := by
 refine ⟨((Below.refl _ _).alloc (Nat.le_refl _) _).alloc (by simp) _, (Below.heap_alloc _ _ _ (by simp)).trans (heap_alloc_new w _), ?_, by simp⟩;have := heap_alloc_new (w.alloc o1) o2
 rwa [World.size_alloc] at this
set_option maxRecDepth 100000 in
set_option maxHeartbeats 4000000 in
theorem Ft (k n : Int) (s : ByteArray) (a : Option Addr) (len cap : Nat) (z : Nat -> Int) (hl : len <= 1000000) (w : World) (hr : Reads w a len z) :
 Calls Tryz.prog 235 #[.agg #[.int .i64 k, .int .i64 n, .string s, .slice a len cap]] w (tS w k n s len z) := by
 have HB := aA (mG w (.cells #[.int .i64 k, .int .i64 n, .string s, .slice a len cap] 53) (.cells #[.int .i64 0, .int .i64 0, .string ⟨#[]⟩, .slice none 0 0] 53));have R := aA hr;clear hr
 by_cases h1 : k = 1
 · subst h1
   have P := aA (p := ∀ W, Below w.heap.size w W -> tS w 1 n s len z (.returned (.agg #[.int .i64 1, .int .i64 n, .string ⟨#[]⟩, .slice none 0 0])) W) (fun W h => ⟨⟨none, 0, rfl, (fun b h => by cases h), fun w3 _ => pQ w3 z⟩, h⟩)
   go_enter Tryz.func235, Tryz.ntmps235
   go_wp2_with fail
   exact bodyPost_ret (v := .agg #[.int .i64 1, .int .i64 n, .string ⟨#[]⟩, .slice none 0 0]) (by simp [results, Tryz.results235, go_sem]) rfl (P.out _ (mG w _ _).1)
 have q1 : (k == 1) = false := by simpa using h1
 by_cases h2 : k = 2
 · subst h2
   have P := aA (p := ∀ W, Below w.heap.size w W -> tS w 2 n s len z (.returned (.agg #[.int .i64 2, .int .i64 0, .string s, .slice none 0 0])) W) (fun W h => ⟨⟨none, 0, rfl, (fun b h => by cases h), fun w3 _ => pQ w3 z⟩, h⟩);clear h1 q1
   go_enter Tryz.func235, Tryz.ntmps235
   go_wp2_with fail
   exact bodyPost_ret (v := .agg #[.int .i64 2, .int .i64 0, .string s, .slice none 0 0]) (by simp [results, Tryz.results235, go_sem]) rfl (P.out _ (mG w _ _).1)
 have q2 : (k == 2) = false := by simpa using h2
 by_cases h3 : k = 3
 · subst h3
   clear h1 q1 h2 q2
   go_enter Tryz.func235, Tryz.ntmps235
   go_wp2_with fail
   generalize hW : World.alloc (World.alloc w _) _ = W;rw [hW] at HB;have hdr : Below W.heap.size W W.drew := ⟨rfl, rfl, rfl, Nat.le_refl _, fun _ _ => rfl⟩;have C := aA (qA a len cap z hl W.drew (R.out.kept (HB.out.1.trans ⟨rfl, rfl, rfl, Nat.le_refl _, fun _ _ => rfl⟩)));have hs := HB.out.2.2.2;obtain ⟨⟨x0, x1, x2, x3⟩, -⟩ := aK HB.out.2.1;clear hW hdr
   go_region_with (first
    | (go_at_call 240
       with_reducible refine C.out.mono ?_
       rintro e w2 ⟨⟨a2, c2, rfl, hr2, hb2⟩, hb⟩;have hz2 := hb.size;have hres := (hb.block (w.heap.size + 1) (by show _ < W.heap.size; omega)).trans HB.out.2.2.1;clear x0 x1 x2 x3;obtain ⟨⟨x0, x1, x2, x3⟩, -⟩ := aK ((hb.block w.heap.size (by show _ < W.heap.size; omega)).trans HB.out.2.1);obtain ⟨⟨y0, y1, y2, y3⟩, ⟨z0, z1, z2, z3⟩⟩ := aK hres;have H2 := aA (And.intro hr2 (And.intro hb2 (HB.out.1.trans ((show Below w.heap.size W W.drew from ⟨rfl, rfl, rfl, Nat.le_refl _, fun _ _ => rfl⟩).trans (hb.mono (by show _ <= W.heap.size; omega))))));clear hr2 hb2 hb hres)
    | fail)
   all_goals
    have P := aA (p := tS w 3 n s len z (.returned (.agg #[.int .i64 3, .int .i64 0, .string ⟨#[]⟩, .slice a2 len c2])) ((((w2.setCell ⟨w.heap.size + 1, 0, none⟩ (.int .i64 3)).setCell ⟨w.heap.size + 1, 1, none⟩ (.int .i64 0)).setCell ⟨w.heap.size + 1, 2, none⟩ (.string ⟨#[]⟩)).setCell ⟨w.heap.size + 1, 3, none⟩ (.slice a2 len c2)))
     ⟨⟨a2, c2, rfl, (fun b hb => by have := H2.out.2.1 b hb; have hW' : W.drew.heap.size = w.heap.size + 2 := hs; omega), fun w3 k3 => H2.out.1.keptS ((vF w2 (w.heap.size + 1) _ _ _ _).trans k3 (fun _ h _ => h)) (fun b hb h => by have := H2.out.2.1 b hb; have h' : b.block = w.heap.size + 1 := h; have hW' : W.drew.heap.size = w.heap.size + 2 := hs; omega)⟩, l5 H2.out.2.2 (Nat.le_succ _) _ _ _ _⟩
    go_wp2
    exact bodyPost_ret (v := .agg #[.int .i64 3, .int .i64 0, .string ⟨#[]⟩, .slice a2 len c2]) (by simp [results, Tryz.results235, go_sem, *]) rfl P.out
 have q3 : (k == 3) = false := by simpa using h3
 have P := aA (p := ∀ W, Below w.heap.size w W -> tS w k n s len z (.returned (.agg #[.int .i64 k, .int .i64 0, .string ⟨#[]⟩, .slice none 0 0])) W) (fun W h => ⟨⟨none, 0, by unfold twN twS twL; rw [if_neg h1, if_neg h2, if_neg h3], (fun b h => by cases h), fun w3 _ => by unfold twL; rw [if_neg h3]; exact pQ w3 z⟩, h⟩);clear h1 h2 h3
 go_enter Tryz.func235, Tryz.ntmps235
 go_wp2_with fail
 exact bodyPost_ret (v := .agg #[.int .i64 k, .int .i64 0, .string ⟨#[]⟩, .slice none 0 0]) (by simp [results, Tryz.results235, go_sem]) rfl (P.out _ (mG w _ _).1)
end
section
open Go.RowKit
def twA (x : AD) : AD := ⟨x.m, x.k, twN x.k x.n, twS x.k x.s, twL x.k x.len, x.z⟩
end
section
open Go.RowKit
theorem Gb {p m : ByteArray} (h : lsS p m = false) : (Op.bytesLess m.toList p.toList || m.toList == p.toList) = true := by
 by_cases e : lsS m p = true
 · have e' : Op.bytesLess m.toList p.toList = true := e
   rw [e']; rfl
 · rw [eQ.total m p (by simpa using e) h]; simp
theorem Iz {p m : ByteArray} (h : lsS p m = true) : Op.bytesLess m.toList p.toList = false /\ (m.toList == p.toList) = false := by
 constructor
 · cases e : Op.bytesLess m.toList p.toList with
   | false => rfl
   | true => have := eQ.trans _ _ _ h e; rw [eQ.irrefl] at this; cases this
 · rw [beq_eq_false_iff_ne]
   intro e;rw [pH e, eQ.irrefl] at h; cases h
end
section
open Go.RowKit
def twsA (A : Nat -> AD) (k : Nat) : List AD := (List.range k).map fun j => twA (A j)
def RiseA (A : Nat -> AD) (n : Nat) : Prop := ∀ i j, i < j -> j < n -> lsS (A i).m (A j).m = true
end
section
open Go.RowKit
def sameAD (x y : AD) : Bool := (x.m.toList == y.m.toList) && decide (cmpV x.k x.n x.s x.len x.z y.k y.n y.s y.len y.z = 0)
def sameAs : List AD -> List AD -> Bool
 | x :: r, y :: s => sameAD x y && sameAs r s
 | _, _ => true
set_option maxHeartbeats 2000000 in
theorem wH (x y : AD) (p q : Option Addr) (c d : Nat) (w : World) (h1 : Reads w p x.len x.z) (h2 : Reads w q y.len y.z) :
 Calls Tryz.prog 77 #[.agg #[.string x.m, .int .i64 x.k, .int .i64 x.n, .string x.s, .slice p x.len c], .agg #[.string y.m, .int .i64 y.k, .int .i64 y.n, .string y.s, .slice q y.len d]] w fun e w' => e = .returned (.bool (sameAD x y)) /\ Below w.heap.size w w' := by
 obtain ⟨m1, k1, n1, s1, l1, z1⟩ := x;obtain ⟨m2, k2, n2, s2, l2, z2⟩ := y;simp only at h1 h2 |-
 have bl : ∀ o1 o2, Below w.heap.size w ((w.alloc o1).alloc o2) := fun o1 o2 => ((Below.refl _ _).alloc (Nat.le_refl _) _).alloc (by simp) _
 have C := fun o1 o2 => yV k1 n1 s1 p l1 c z1 k2 n2 s2 q l2 d z2 _ (h1.kept (bl o1 o2)) (h2.kept (bl o1 o2))
 obtain ⟨b, hb⟩ : ∃ b, decide (cmpV k1 n1 s1 l1 z1 k2 n2 s2 l2 z2 = 0) = b := ⟨_, rfl⟩;have E : sameAD ⟨m1, k1, n1, s1, l1, z1⟩ ⟨m2, k2, n2, s2, l2, z2⟩ = ((m1.toList == m2.toList) && b) := by unfold sameAD; rw [hb]
 rw [E];rw [hb] at C;unfold val at C;have C1 := aA C;have BL := aA bl;clear C bl hb h1 h2 E;cases he : (m1.toList == m2.toList) with
 | false =>
   go_enter Tryz.func77, Tryz.ntmps77
   go_wp2_with fail
   go_ret;exact ⟨rfl, BL.out _ _⟩
 | true =>
   go_enter Tryz.func77, Tryz.ntmps77
   go_wp2_with fail
   refine (C1.out _ _).mono ?_;rintro e w1 ⟨rfl, hb⟩;have B1 := aA hb;clear hb
   go_wp2_with fail
   go_ret;exact ⟨rfl, (BL.out _ _).trans (B1.out.mono (by simp; omega))⟩
set_option maxRecDepth 100000 in
set_option maxHeartbeats 4000000 in
theorem jN (a1 a2 : Option Addr) (n c1 c2 : Nat) (A1 A2 : Nat -> AD) (hn : n <= 1000000) (w : World) (h1 : ReadsA w a1 n A1) (h2 : ReadsA w a2 n A2) :
 Calls Tryz.prog 76 #[.slice a1 n c1, .slice a2 n c2, .func (.func 77) #[] #[]] w fun e w' => e = .returned (.bool (sameAs (fromA A1 n 0) (fromA A2 n 0))) /\ Below w.heap.size w w' := by
 have R1 := aA h1;have R2 := aA h2;clear h1 h2
 go_enter Tryz.func76, Tryz.ntmps76
 go_wp2_with fail
 go_loopw [17] (fun i wr => ∃ k : Nat, i = .int .i64 k /\ k <= n /\ Hid (sameAs (fromA A1 n 0) (fromA A2 n 0) = sameAs (fromA A1 n k) (fromA A2 n k)) /\ Hid (Below w.heap.size w wr) /\ Hid (ReadsA wr a1 n A1) /\ Hid (ReadsA wr a2 n A2)) (fun i _ => n - (intOf i).toNat)
 case atStart => exact ⟨0, rfl, Nat.zero_le _, aA rfl, aA (Below.refl _ _), R1, R2⟩
 case round =>
  obtain ⟨k, rfl, hk, hE, hB, hR1, hR2⟩ := hrel;clear R1 R2
  by_cases hlt : k < n
  · obtain ⟨b1, o1, rfl, hc1⟩ := hR1.out.2.resolve_left (by omega)
    obtain ⟨b2, o2, rfl, hc2⟩ := hR2.out.2.resolve_left (by omega);obtain ⟨y1, e1, g1, r1⟩ := hc1 k hlt;obtain ⟨y2, e2, g2, r2⟩ := hc2 k hlt;have hE2 := hE.out;rw [lH A1 hlt, lH A2 hlt] at hE2;obtain ⟨x1, hx1⟩ : ∃ x, A1 k = x := ⟨_, rfl⟩;obtain ⟨x2, hx2⟩ : ∃ x, A2 k = x := ⟨_, rfl⟩;rw [hx1] at g1 r1 hE2;rw [hx2] at g2 r2 hE2;have hE2' : sameAs (fromA A1 n 0) (fromA A2 n 0) = (sameAD x1 x2 && sameAs (fromA A1 n (k + 1)) (fromA A2 n (k + 1))) := hE2;obtain ⟨b, hb⟩ : ∃ b, sameAD x1 x2 = b := ⟨_, rfl⟩;rw [hb] at hE2';have HE := aA hE2';have bl : ∀ o1 o2, Below wr.heap.size wr ((wr.alloc o1).alloc o2) := fun o1 o2 => ((Below.refl _ _).alloc (Nat.le_refl _) _).alloc (by simp) _
    have C := aA (fun o1 o2 => wH x1 x2 y1 y2 e1 e2 ((wr.alloc o1).alloc o2) (r1.kept (bl o1 o2)) (r2.kept (bl o1 o2)));rw [hb] at C;have BL := aA bl;have hz := hB.out.size;have hl2 := g2.lt;obtain ⟨p0, p1, p2, p3, p4⟩ := g1;obtain ⟨q0, q1, q2, q3, q4⟩ := g2;clear hc1 hc2 r1 r2 hE2 hE2' hb bl hE;clear hx1 hx2
    go_wp2_with fail
    refine (C.out _ _).mono ?_;rintro e w2 ⟨rfl, hb⟩;have B2 := aA ((BL.out _ _).trans (hb.mono (by simp; omega)));clear hb p0 p1 p2 p3 p4 q0 q1 q2 q3 q4 C;cases b with
    | true =>
      go_wp2_with fail
      go_roundw
      case rel => exact ⟨k + 1, by go_num, by omega, aA (by rw [HE.out]; rfl), aA (hB.out.trans (B2.out.mono hz)), aA (hR1.out.kept B2.out), aA (hR2.out.kept B2.out)⟩
      case measure => simp [intOf]; omega
    | false =>
      go_wp2_with fail
      go_ret;exact ⟨cT (by rw [HE.out]; rfl), hB.out.trans (B2.out.mono hz)⟩
  · go_wp2_with fail
    go_ret;exact ⟨cT (by rw [hE.out, pW A1 (by omega)]; rfl), hB.out⟩
set_option maxHeartbeats 2000000 in
theorem uA (a1 a2 : Option Addr) (n1 n2 c1 c2 : Nat) (_h1 : n1 <= maxLen) (_h2 : n2 <= maxLen) (hn : ¬ n1 = n2) (w : World) :
 Calls Tryz.prog 76 #[.slice a1 n1 c1, .slice a2 n2 c2, .func (.func 77) #[] #[]] w fun e w' => e = .returned (.bool false) /\ w = w' := by
 unfold maxLen at _h1 _h2;have e1 : ((n1 : Int) == (n2 : Int)) = false := by rw [beq_eq_false_iff_ne]; omega
 have e2 : (n1 == n2) = false := by rw [beq_eq_false_iff_ne]; exact hn
 clear hn
 go_enter Tryz.func76, Tryz.ntmps76
 go_wp2_with fail
 go_ret;exact ⟨rfl, rfl⟩
def sameL (n1 n2 : Nat) (A1 A2 : Nat -> AD) : Bool := decide (n1 = n2) && sameAs (fromA A1 n1 0) (fromA A2 n2 0)
set_option maxHeartbeats 2000000 in
theorem sameAttrs_any (a1 a2 : Option Addr) (n1 n2 c1 c2 : Nat) (A1 A2 : Nat -> AD) (hn : n1 <= 1000000) (w : World) (h1 : ReadsA w a1 n1 A1) (h2 : ReadsA w a2 n2 A2) :
 Calls Tryz.prog 25 #[.slice a1 n1 c1, .slice a2 n2 c2] w fun e w' => e = .returned (.bool (sameL n1 n2 A1 A2)) /\ Below w.heap.size w w' := by
 unfold sameL
 by_cases he : n1 = n2
 · subst he
   rw [decide_eq_true rfl, Bool.true_and];have C := aA (jN a1 a2 n1 c1 c2 A1 A2 hn w h1 h2);obtain ⟨b, hb⟩ : ∃ b, sameAs (fromA A1 n1 0) (fromA A2 n1 0) = b := ⟨_, rfl⟩;rw [hb] at C |-
   clear hb h1 h2
   go_enter Tryz.func25, Tryz.ntmps25
   go_wp2_with fail
   refine C.out.mono ?_;rintro e w1 ⟨rfl, hb⟩;have B1 := aA hb;clear hb
   go_wp2_with fail
   go_ret;exact ⟨rfl, B1.out⟩
 · rw [decide_eq_false he, Bool.false_and]
   have C := aA (uA a1 a2 n1 n2 c1 c2 h1.1 h2.1 he w);clear h1 h2 he
   go_enter Tryz.func25, Tryz.ntmps25
   go_wp2_with fail
   refine C.out.mono ?_;rintro e w1 ⟨rfl, rfl⟩
   go_wp2_with fail
   go_ret;exact ⟨rfl, Below.refl _ _⟩
end
section
open Go.RowKit
def gP (w : World) : Prop :=
 jI w /\
 (∃ tp p t f, w.heap[2]? = some (.cells #[.iface tp p] t f)) /\ (∃ tp p t f, w.heap[3]? = some (.cells #[.iface tp p] t f))
end
section
open Go.RowKit
theorem six {w : World} {b : Nat} {v0 v1 v2 v3 v4 v5 : Value} {t : TypeId} (h : w.heap[b]? = some (.cells #[v0, v1, v2, v3, v4, v5] t (0, 0))) :
 w.cell? ⟨b, 0, none⟩ = some v0 /\ w.cell? ⟨b, 1, none⟩ = some v1 /\ w.cell? ⟨b, 2, none⟩ = some v2 /\ w.cell? ⟨b, 3, none⟩ = some v3 /\ w.cell? ⟨b, 4, none⟩ = some v4 /\ w.cell? ⟨b, 5, none⟩ = some v5 := by
 refine ⟨?_, ?_, ?_, ?_, ?_, ?_⟩ <;> simp [World.cell?, h]
end
end
end Go.Proofs.YtapcjnoaofmmiaaGreatDoor.Wr
