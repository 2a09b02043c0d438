/-
 No statement: what AggNoneCard needs, of the texts OW1.
-/
import Derived.Test.YtapcjnoaofmmiaaGreatDoorVN15
import Derived.Deep.LoopGhost
import Derived.Shelf.Spec.SlicesInsertGrow
import Derived.Lib.SlicesDelete
import Derived.WalkLawsBesides
import Derived.Lib.ItoaLen
import Derived.Laws.BytesString
import Derived.RangeFuncBox
import Derived.Maps.AppendAt
import Derived.Deep.Slices
import Derived.Deep.Fields
import Derived.ChangeSame
import Derived.RangeFuncNested
import Derived.RangeFuncBound
import Derived.RangeFuncCalls
import Derived.RangeFuncLeaves
import Derived.Shelf.Abstract
import Derived.Shelf.RegionOpen
import Derived.OwnWalkIn
import Derived.TacticsInMore
import Derived.LoopNIn
import Derived.LoopIn
import Derived.Lib.IndexLaws
import Derived.Maps.OwnIn
namespace Go.Proofs.YtapcjnoaofmmiaaGreatDoor.Wr
section
section
open Go.RowKit
end
section
open Go.RowKit
end
section
open Go.RowKit
def sK (c : UInt8) : Bool := decide ((c.toNat : Int) < 32) || decide (126 < (c.toNat : Int)) || decide ((c.toNat : Int) = 34)
def DC (l : List UInt8) : Int := if 64 < l.length then 4 else if l.any sK then 2 else 0
def kD : List Int -> Bool
 | a :: b :: r => decide (a < b) && kD (b :: r)
 | _ => true
def DD (l : List Int) : Int := if 16 < l.length then 4 else if kD l then 0 else 2
theorem zQ (l : List Int) : kD l = true ↔ ∀ j, j + 1 < l.length -> l.getD j 0 < l.getD (j + 1) 0 := by
 induction l with
 | nil => simp [kD]
 | cons a r ih =>
   cases r with
   | nil => simp [kD]
   | cons b r =>
     simp only [kD, Bool.and_eq_true, decide_eq_true_eq];rw [ih];constructor
     · rintro ⟨h, k⟩ j hj
       cases j with
       | zero => simpa using h
       | succ j => simpa using k j (by simpa using hj)
     · intro h
       exact ⟨by simpa using h 0 (by simp), fun j hj => by simpa using h (j + 1) (by simpa using hj)⟩
theorem Jo {s : ByteArray} (h : ∀ j (hj : j < s.size), sK s[j] = false) : s.data.toList.any sK = false := by
 rw [List.any_eq_false];intro c hc;obtain ⟨j, hj, rfl⟩ := List.mem_iff_getElem.1 hc;have := h j (by simpa using hj);intro e;have e' : sK s[j] = true := e;rw [this] at e'; cases e'
theorem sO {s : ByteArray} {j : Nat} (hj : j < s.size) (h : sK s[j] = true) : s.data.toList.any sK = true := by
 rw [List.any_eq_true];exact ⟨s[j], List.mem_iff_getElem.2 ⟨j, by simpa using hj, rfl⟩, h⟩
def gG (w : World) (a : Option Addr) (len : Nat) (z : Nat -> Int) : Prop :=
 len <= maxLen /\ (len = 0 \/ ∃ b off, a = some ⟨b, off, none⟩ /\ ∀ j, j < len -> w.cell? ⟨b, off + j, none⟩ = some (.int .i64 (z j)))
def qK (z : Nat -> Int) (n : Nat) : List Int := (List.range n).map z
theorem wR (z : Nat -> Int) (n : Nat) : (qK z n).length = n := by simp [qK]
theorem qA (z : Nat -> Int) {n j : Nat} (h : j < n) : (qK z n).getD j 0 = z j := by simp [qK, List.getD, h]
theorem gG.kept {w w' : World} {a : Option Addr} {len : Nat} {z : Nat -> Int} (h : gG w a len z) (hb : Below w.heap.size w w') : gG w' a len z := by
 refine ⟨h.1, ?_⟩
 rcases h.2 with h0 | ⟨b, off, rfl, hc⟩
 · exact .inl h0
 · exact .inr ⟨b, off, rfl, fun j hj => (hb.cell (p := ⟨b, off + j, none⟩) (World.block_lt_of_cell? w _ (hc j hj))).trans (hc j hj)⟩
theorem rA {z : Nat -> Int} {n : Nat} : kD (qK z n) = true ↔ ∀ j, j + 1 < n -> z j < z (j + 1) := by
 rw [zQ, wR];exact ⟨fun h j hj => by have := h j hj; rwa [qA z (by omega), qA z hj] at this, fun h j hj => by rw [qA z (by omega), qA z hj]; exact h j hj⟩
def val (k n : Int) (s : ByteArray) (l : Value) : Value := .agg #[.int .i64 k, .int .i64 n, .string s, l]
def yW (k : Int) (s : ByteArray) (len : Nat) (z : Nat -> Int) : Int := if k = 1 then 0 else if k = 2 then DC s.data.toList else if k = 3 then DD (qK z len) else 7
end
section
open Go.RowKit
theorem lP {b : Nat} {A W : World} {B : Nat} (h : Below b A W) (hB : b <= B) (v0 v1 v2 v3 : Value) :
 Below b A ((((W.setCell ⟨B, 0, none⟩ v0).setCell ⟨B, 1, none⟩ v1).setCell ⟨B, 2, none⟩ v2).setCell ⟨B, 3, none⟩ v3) :=
 (((h.setCell (p := ⟨B, 0, none⟩) hB v0).setCell (p := ⟨B, 1, none⟩) hB v1).setCell (p := ⟨B, 2, none⟩) hB v2).setCell (p := ⟨B, 3, none⟩) hB v3
end
section
open Go.RowKit
def kX (n : Int) : Bool := decide (0 <= n) && decide (n <= 1000000000)
def Fz (t i q : Int) (o : ByteArray) : Int := if kX t = true then if kX i = true then if kX q = true then if k8 o.data.toList = true then 0 else 5 else 1 else 1 else 1
abbrev stp (t i q : Int) (o : ByteArray) : Value := .agg #[.int .i64 t, .int .i64 i, .int .i64 q, .string o]
end
section
open Go.RowKit
set_option maxHeartbeats 1000000 in
theorem uZ (n : Int) (w : World) : Calls Tryz.prog 157 #[.int .i64 n] w fun e w' => e = .returned (.bool (kX n)) /\ w = w' := by
 by_cases h : 0 <= n
 · go_enter Tryz.func157, Tryz.ntmps157
   go_wp2
   go_ret;exact ⟨cU (a := decide (n <= 1000000000)) (by unfold kX; rw [decide_eq_true h]; rfl), rfl⟩
 · go_enter Tryz.func157, Tryz.ntmps157
   go_wp2
   go_ret;exact ⟨cU (a := false) (by unfold kX; rw [decide_eq_false (by omega)]; rfl), rfl⟩
theorem tS {s : ByteArray} (h : 1 <= s.size) : s.toList.isEmpty = false := by
 rw [Lib.toList_data];have hl : s.data.toList.length = s.size := by simp
 cases e : s.data.toList with
 | nil => rw [e] at hl; simp at hl; omega
 | cons a b => rfl
theorem GI {s : ByteArray} (h : 2 <= s.size) (c : UInt8) : (s.toList == [c]) = false := by
 rw [beq_eq_false_iff_ne, Lib.toList_data];intro e;have hl : s.data.toList.length = s.size := by simp
 rw [e] at hl; simp at hl; omega
end
section
open Go.RowKit
end
section
open Go.RowKit
structure AD where
 m : ByteArray
 k : Int
 n : Int
 s : ByteArray
 len : Nat
 z : Nat -> Int
def gN (w : World) (b o : Nat) (x : AD) (y : Option Addr) (c : Nat) : Prop :=
 w.cell? ⟨b, o, none⟩ = some (.string x.m) /\ w.cell? ⟨b, o + 1, none⟩ = some (.int .i64 x.k) /\ w.cell? ⟨b, o + 2, none⟩ = some (.int .i64 x.n) /\ w.cell? ⟨b, o + 3, none⟩ = some (.string x.s) /\ w.cell? ⟨b, o + 4, none⟩ = some (.slice y x.len c)
theorem gN.lt {w : World} {b o : Nat} {x : AD} {y : Option Addr} {c : Nat} (h : gN w b o x y c) : b < w.heap.size := by have := World.block_lt_of_cell? w _ h.1; simpa using this
theorem gN.below {B : Nat} {w w' : World} {b o : Nat} {x : AD} {y : Option Addr} {c : Nat} (h : gN w b o x y c) (hb : Below B w w') (hB : b < B) : gN w' b o x y c :=
 ⟨(hb.cell (p := ⟨b, _, none⟩) hB).trans h.1, (hb.cell (p := ⟨b, _, none⟩) hB).trans h.2.1, (hb.cell (p := ⟨b, _, none⟩) hB).trans h.2.2.1, (hb.cell (p := ⟨b, _, none⟩) hB).trans h.2.2.2.1, (hb.cell (p := ⟨b, _, none⟩) hB).trans h.2.2.2.2⟩
theorem gN.kept {w w' : World} {b o : Nat} {x : AD} {y : Option Addr} {c : Nat} (h : gN w b o x y c) (hb : Below w.heap.size w w') : gN w' b o x y c := h.below hb h.lt
def ReadsA (w : World) (a : Option Addr) (len : Nat) (A : Nat -> AD) : Prop :=
 len <= maxLen /\ (len = 0 \/ ∃ b off, a = some ⟨b, off, none⟩ /\ ∀ j, j < len -> ∃ y c, gN w b (off + j * 5) (A j) y c /\ gG w y (A j).len (A j).z)
theorem ReadsA.kept {w w' : World} {a : Option Addr} {len : Nat} {A : Nat -> AD} (h : ReadsA w a len A) (hb : Below w.heap.size w w') : ReadsA w' a len A := by
 refine ⟨h.1, h.2.imp id ?_⟩;rintro ⟨b, off, rfl, hc⟩;refine ⟨b, off, rfl, fun j hj => ?_⟩;obtain ⟨y, c, h5, hr⟩ := hc j hj;exact ⟨y, c, h5.kept hb, hr.kept hb⟩
def nE (p : ByteArray) (x : AD) : Int := if cK x.m.data.toList = false then 5 else if lsS p x.m = false then 6 else yW x.k x.s x.len x.z
def iN : ByteArray -> List AD -> Int
 | _, [] => 0
 | p, x :: r => if nE p x = 0 then iN x.m r else nE p x
def dF (A : Nat -> AD) (n k : Nat) : List AD := (List.range (n - k)).map fun j => A (k + j)
theorem rT (A : Nat -> AD) {n k : Nat} (h : k < n) : dF A n k = A k :: dF A n (k + 1) := by
 unfold dF;rw [show n - k = (n - (k + 1)) + 1 by omega, List.range_succ_eq_map, List.map_cons, List.map_map];simp only [Nat.add_zero, List.cons.injEq, true_and]
 apply List.map_congr_left
 intro j _;simp only [Function.comp_def, Nat.succ_eq_add_one]
 congr 1; omega
theorem uB (A : Nat -> AD) {n k : Nat} (h : n <= k) : dF A n k = [] := by
 unfold dF; rw [Nat.sub_eq_zero_of_le h]; rfl
structure RD where
 key : ByteArray
 t : Int
 i : Int
 q : Int
 o : ByteArray
 len : Nat
 A : Nat -> AD
def AC (x : RD) : Int := if cK x.key.data.toList = false then 5 else if Fz x.t x.i x.q x.o = 0 then (if 32 < x.len then 4 else iN ⟨#[]⟩ (dF x.A x.len 0)) else Fz x.t x.i x.q x.o
theorem Cr {m : ByteArray} (h : cK m.data.toList = true) : lsS ⟨#[]⟩ m = true := by
 cases m with
 | mk d =>
   obtain ⟨l⟩ := d;cases l with
   | nil => simp [cK] at h
   | cons c r => unfold lsS; rw [Lib.toList_data, Lib.toList_data]; rfl
def Je (x : AD) : Prop := x.m.size <= 100 /\ x.s.size <= 200 /\ x.len <= 40
end
section
open Go.RowKit
def pK (w : World) (len : Nat) (z : Nat -> Int) (e : Ending) (w' : World) : Prop :=
 (∃ a c, e = .returned (.slice a len c) /\ gG w' a len z /\ ∀ b, a = some b -> w.heap.size <= b.block) /\ Below w.heap.size w w'
theorem DM : (Tryz.prog.info? 2).map (fun i => (i.zero, i.size, i.bytes)) = some (some (.int .i64 0), 1, 8) := by kernel_rfl
theorem It (z : Nat -> Int) (len : Nat) : ∀ u ∈ (List.range len).map (fun j => Value.int .i64 (z j)), u.oneCell' = true := by
 intro u hu;obtain ⟨j, _, rfl⟩ := List.mem_map.1 hu;rfl
theorem B9 {w : World} {base : Nat} {a : Option Addr} {len l c : Nat} {z : Nat -> Int} (h : w.ownsRow base 2 1 (.slice a l c) len ((List.range len).map (fun j => Value.int .i64 (z j)))) : l = len /\ gG w a len z /\ ∀ b, a = some b -> base <= b.block := by
 rcases h.2 with ⟨h, h'⟩ | ⟨g, cap, cur, hv, hb, hg, hnc, hm, _, ht⟩
 · simp only [Value.slice.injEq] at h
   obtain ⟨rfl, rfl, rfl⟩ := h;subst h';exact ⟨rfl, ⟨Nat.zero_le _, .inl rfl⟩, fun b hb => by cases hb⟩
 · simp only [Value.slice.injEq] at hv
   obtain ⟨rfl, rfl, rfl⟩ := hv;refine ⟨rfl, ⟨Nat.le_trans hnc hm, .inr ⟨g, 0, rfl, fun j hj => ?_⟩⟩, fun b hb' => by cases hb'; exact hb⟩;have hjj : ((List.range l).map (fun j => Value.int .i64 (z j)))[j]? = some (.int .i64 (z j)) := by simp [hj]
   rw [Nat.zero_add, cell_of_row w g j cur _ (0, 0) hg];rw [Nat.mul_one] at ht;rw [<- ht, List.getElem?_take, if_pos hj] at hjj;simpa using hjj
set_option maxRecDepth 100000 in
set_option maxHeartbeats 2000000 in
theorem pF (a : Option Addr) (len cap : Nat) (z : Nat -> Int) (hl : len <= 1000000) (w : World) (hr : gG w a len z) :
 Calls Tryz.prog 240 #[.slice a len cap] w (pK w len z) := by
 obtain ⟨i0, hi, hz0, hz1, hz2⟩ := info_parts DM;have und : Tryz.prog.underlying 51 = some (.slice 2) := Tryz.underlying51;cases a with
 | none =>
   have h0 : len = 0 := by
    rcases hr.2 with h | ⟨b, off, h, _⟩
    · exact h
    · cases h
   subst h0;have P := aA (show pK w 0 z (.returned (.slice none 0 0)) w from ⟨⟨none, 0, rfl, ⟨Nat.zero_le _, .inl rfl⟩, fun b h => by cases h⟩, Below.refl _ _⟩);clear hr
   go_enter Tryz.func240, Tryz.ntmps240
   go_wp2
   rw [Lib.run_eql_slice_nil w _ _ _ _ _ _ _ und];simp only [Result.andThen];rw [Oper.upon_value]
   go_wp2_with fail
   go_ret;exact P.out
 | some x =>
   have F := aA (p := ∀ w', Below w.heap.size w w' -> IQ w' (.slice (some x) len cap) len ((List.range len).map (fun j => Value.int .i64 (z j)))) (fun w' hb => by
    refine .inr ⟨x, cap, rfl, by simp, fun j u hj => ?_⟩
    rcases (hr.kept hb).2 with h0 | ⟨b, off, hx, hc⟩
    · subst h0; simp at hj
    · obtain rfl : x = ⟨b, off, none⟩ := by simpa using hx
      have hjl : j < len := by
       rcases Nat.lt_or_ge j len with h | h
       · exact h
       · rw [List.getElem?_eq_none (by simpa using h)] at hj; cases hj
      rw [Addr.add_lit, hc j hjl];simpa [hjl] using hj)
   clear hr
   go_enter Tryz.func240, Tryz.ntmps240
   have bA : Below w.heap.size w (w.alloc (.cells #[] 2)) := (Below.refl _ _).alloc (Nat.le_refl _) _;have BA := aA bA;have OA := aA (show (w.alloc (.cells #[] 2)).ownsRow w.heap.size 2 1 (.slice (some ⟨w.heap.size, 0, none⟩) 0 0) 0 [] from ⟨rfl, .inr ⟨w.heap.size, 0, #[], rfl, Nat.le_refl _, heap_alloc_new w _, Nat.le_refl _, Nat.zero_le _, rfl, rfl⟩⟩);clear bA
   go_wp2
   rw [Lib.run_eql_slice_nil w _ _ _ _ _ _ _ und];simp only [Result.andThen];rw [Oper.upon_value]
   go_wp2_with (at_builtin; refine mV rfl _ _ 51 rfl und hi hz0 hz1 hz2 rfl _ _ 0 len [] _ rfl rfl OA.out (F.out _ BA.out) (It z len) (by unfold maxLen; omega) (by omega) (by simp) ?_)
   intro v' w2 ho hg _
   obtain ⟨va, vl, vc, rfl⟩ : ∃ a l c, v' = .slice a l c := by
    rcases ho.2 with ⟨h, _⟩ | ⟨g, cap, _, h, _⟩
    · exact ⟨_, _, _, h⟩
    · exact ⟨_, _, _, h⟩
   obtain ⟨rfl, hrd, hbl⟩ := B9 ho;have P := aA (show pK w vl z (.returned (.slice va vl vc)) w2 from ⟨⟨va, vc, rfl, hrd, hbl⟩, BA.out.grown hg (by simp) (fun k hk => by simp [Value.ownBlock] at hk; omega)⟩);clear ho hg hrd hbl
   go_wp2
   go_ret;exact P.out
theorem uC (W : World) (B : Nat) (v0 v1 v2 v3 : Value) : aG (fun k => k = B) W ((((W.setCell ⟨B, 0, none⟩ v0).setCell ⟨B, 1, none⟩ v1).setCell ⟨B, 2, none⟩ v2).setCell ⟨B, 3, none⟩ v3) :=
 ((((aG.refl (fun k => k = B) W).setCell (S := fun k => k = B) (p := ⟨B, 0, none⟩) (.inl rfl) v0).setCell (S := fun k => k = B) (p := ⟨B, 1, none⟩) (.inl rfl) v1).setCell (S := fun k => k = B) (p := ⟨B, 2, none⟩) (.inl rfl) v2).setCell (S := fun k => k = B) (p := ⟨B, 3, none⟩) (.inl rfl) v3
theorem gG.keptS {S : Nat -> Prop} {w w' : World} {a : Option Addr} {len : Nat} {z : Nat -> Int} (h : gG w a len z) (hk : aG S w w') (hS : ∀ b, a = some b -> ¬ S b.block) : gG w' a len z := by
 refine ⟨h.1, ?_⟩
 rcases h.2 with h0 | ⟨b, off, rfl, hc⟩
 · exact .inl h0
 · exact .inr ⟨b, off, rfl, fun j hj => hk.cell (hc j hj) (show ¬ S b from hS ⟨b, off, none⟩ rfl)⟩
def twN (k n : Int) : Int := if k = 1 then n else 0
def twS (k : Int) (s : ByteArray) : ByteArray := if k = 2 then s else ⟨#[]⟩
def twL (k : Int) (len : Nat) : Nat := if k = 3 then len else 0
def sR (w : World) (k n : Int) (s : ByteArray) (len : Nat) (z : Nat -> Int) (e : Ending) (w' : World) : Prop :=
 (∃ a c, e = .returned (.agg #[.int .i64 k, .int .i64 (twN k n), .string (twS k s), .slice a (twL k len) c]) /\ (∀ b, a = some b -> w.heap.size <= b.block) /\ ∀ w3, aG (fun b => b = w.heap.size + 1) w' w3 -> gG w3 a (twL k len) z) /\ Below w.heap.size w w'
theorem oV (w : World) (z : Nat -> Int) : gG w none 0 z := ⟨Nat.zero_le _, .inl rfl⟩
theorem lV (w : World) (o1 o2 : Obj) : Below w.heap.size w ((w.alloc o1).alloc o2) /\ ((w.alloc o1).alloc o2).heap[w.heap.size]? = some o1 /\ ((w.alloc o1).alloc o2).heap[w.heap.size + 1]? = some o2 /\ ((w.alloc o1).alloc o2).heap.size = w.heap.size + 2 := by
 refine ⟨((Below.refl _ _).alloc (Nat.le_refl _) _).alloc (by simp) _, (Below.heap_alloc _ _ _ (by simp)).trans (heap_alloc_new w _), ?_, by simp⟩;have := heap_alloc_new (w.alloc o1) o2
 rwa [World.size_alloc] at this
set_option maxRecDepth 100000 in
set_option maxHeartbeats 4000000 in
theorem Ed (k n : Int) (s : ByteArray) (a : Option Addr) (len cap : Nat) (z : Nat -> Int) (hl : len <= 1000000) (w : World) (hr : gG w a len z) :
 Calls Tryz.prog 235 #[.agg #[.int .i64 k, .int .i64 n, .string s, .slice a len cap]] w (sR w k n s len z) := by
 have HB := aA (lV w (.cells #[.int .i64 k, .int .i64 n, .string s, .slice a len cap] 53) (.cells #[.int .i64 0, .int .i64 0, .string ⟨#[]⟩, .slice none 0 0] 53));have R := aA hr;clear hr
 by_cases h1 : k = 1
 · subst h1
   have P := aA (p := ∀ W, Below w.heap.size w W -> sR w 1 n s len z (.returned (.agg #[.int .i64 1, .int .i64 n, .string ⟨#[]⟩, .slice none 0 0])) W) (fun W h => ⟨⟨none, 0, rfl, (fun b h => by cases h), fun w3 _ => oV w3 z⟩, h⟩)
   go_enter Tryz.func235, Tryz.ntmps235
   go_wp2_with fail
   exact bodyPost_ret (v := .agg #[.int .i64 1, .int .i64 n, .string ⟨#[]⟩, .slice none 0 0]) (by simp [results, Tryz.results235, go_sem]) rfl (P.out _ (lV w _ _).1)
 have q1 : (k == 1) = false := by simpa using h1
 by_cases h2 : k = 2
 · subst h2
   have P := aA (p := ∀ W, Below w.heap.size w W -> sR w 2 n s len z (.returned (.agg #[.int .i64 2, .int .i64 0, .string s, .slice none 0 0])) W) (fun W h => ⟨⟨none, 0, rfl, (fun b h => by cases h), fun w3 _ => oV w3 z⟩, h⟩);clear h1 q1
   go_enter Tryz.func235, Tryz.ntmps235
   go_wp2_with fail
   exact bodyPost_ret (v := .agg #[.int .i64 2, .int .i64 0, .string s, .slice none 0 0]) (by simp [results, Tryz.results235, go_sem]) rfl (P.out _ (lV w _ _).1)
 have q2 : (k == 2) = false := by simpa using h2
 by_cases h3 : k = 3
 · subst h3
   clear h1 q1 h2 q2
   go_enter Tryz.func235, Tryz.ntmps235
   go_wp2_with fail
   generalize hW : World.alloc (World.alloc w _) _ = W;rw [hW] at HB;have hdr : Below W.heap.size W W.drew := ⟨rfl, rfl, rfl, Nat.le_refl _, fun _ _ => rfl⟩;have C := aA (pF a len cap z hl W.drew (R.out.kept (HB.out.1.trans ⟨rfl, rfl, rfl, Nat.le_refl _, fun _ _ => rfl⟩)));have hs := HB.out.2.2.2;obtain ⟨⟨x0, x1, x2, x3⟩, -⟩ := aK HB.out.2.1;clear hW hdr
   go_region_with (first
    | (go_at_call 240
       with_reducible refine C.out.mono ?_
       rintro e w2 ⟨⟨a2, c2, rfl, hr2, hb2⟩, hb⟩;have hz2 := hb.size;have hres := (hb.block (w.heap.size + 1) (by show _ < W.heap.size; omega)).trans HB.out.2.2.1;clear x0 x1 x2 x3;obtain ⟨⟨x0, x1, x2, x3⟩, -⟩ := aK ((hb.block w.heap.size (by show _ < W.heap.size; omega)).trans HB.out.2.1);obtain ⟨⟨y0, y1, y2, y3⟩, ⟨z0, z1, z2, z3⟩⟩ := aK hres;have H2 := aA (And.intro hr2 (And.intro hb2 (HB.out.1.trans ((show Below w.heap.size W W.drew from ⟨rfl, rfl, rfl, Nat.le_refl _, fun _ _ => rfl⟩).trans (hb.mono (by show _ <= W.heap.size; omega))))));clear hr2 hb2 hb hres)
    | fail)
   all_goals
    have P := aA (p := sR w 3 n s len z (.returned (.agg #[.int .i64 3, .int .i64 0, .string ⟨#[]⟩, .slice a2 len c2])) ((((w2.setCell ⟨w.heap.size + 1, 0, none⟩ (.int .i64 3)).setCell ⟨w.heap.size + 1, 1, none⟩ (.int .i64 0)).setCell ⟨w.heap.size + 1, 2, none⟩ (.string ⟨#[]⟩)).setCell ⟨w.heap.size + 1, 3, none⟩ (.slice a2 len c2)))
     ⟨⟨a2, c2, rfl, (fun b hb => by have := H2.out.2.1 b hb; have hW' : W.drew.heap.size = w.heap.size + 2 := hs; omega), fun w3 k3 => H2.out.1.keptS ((uC w2 (w.heap.size + 1) _ _ _ _).trans k3 (fun _ h _ => h)) (fun b hb h => by have := H2.out.2.1 b hb; have h' : b.block = w.heap.size + 1 := h; have hW' : W.drew.heap.size = w.heap.size + 2 := hs; omega)⟩, lP H2.out.2.2 (Nat.le_succ _) _ _ _ _⟩
    go_wp2
    exact bodyPost_ret (v := .agg #[.int .i64 3, .int .i64 0, .string ⟨#[]⟩, .slice a2 len c2]) (by simp [results, Tryz.results235, go_sem, *]) rfl P.out
 have q3 : (k == 3) = false := by simpa using h3
 have P := aA (p := ∀ W, Below w.heap.size w W -> sR w k n s len z (.returned (.agg #[.int .i64 k, .int .i64 0, .string ⟨#[]⟩, .slice none 0 0])) W) (fun W h => ⟨⟨none, 0, by unfold twN twS twL; rw [if_neg h1, if_neg h2, if_neg h3], (fun b h => by cases h), fun w3 _ => by unfold twL; rw [if_neg h3]; exact oV w3 z⟩, h⟩);clear h1 h2 h3
 go_enter Tryz.func235, Tryz.ntmps235
 go_wp2_with fail
 exact bodyPost_ret (v := .agg #[.int .i64 k, .int .i64 0, .string ⟨#[]⟩, .slice none 0 0]) (by simp [results, Tryz.results235, go_sem]) rfl (P.out _ (lV w _ _).1)
end
section
open Go.RowKit
def twA (x : AD) : AD := ⟨x.m, x.k, twN x.k x.n, twS x.k x.s, twL x.k x.len, x.z⟩
end
section
open Go.RowKit
theorem EQ {p m : ByteArray} (h : lsS p m = false) : (Op.bytesLess m.toList p.toList || m.toList == p.toList) = true := by
 by_cases e : lsS m p = true
 · have e' : Op.bytesLess m.toList p.toList = true := e
   rw [e']; rfl
 · rw [gT.total m p (by simpa using e) h]; simp
theorem GQ {p m : ByteArray} (h : lsS p m = true) : Op.bytesLess m.toList p.toList = false /\ (m.toList == p.toList) = false := by
 constructor
 · cases e : Op.bytesLess m.toList p.toList with
   | false => rfl
   | true => have := gT.trans _ _ _ h e; rw [gT.irrefl] at this; cases this
 · rw [beq_eq_false_iff_ne]
   intro e;rw [sH e, gT.irrefl] at h; cases h
end
section
open Go.RowKit
def twsA (A : Nat -> AD) (k : Nat) : List AD := (List.range k).map fun j => twA (A j)
def RiseA (A : Nat -> AD) (n : Nat) : Prop := ∀ i j, i < j -> j < n -> lsS (A i).m (A j).m = true
end
section
open Go.RowKit
end
section
open Go.RowKit
def gI (w : World) : Prop :=
 i8 w /\
 (∃ tp p t f, w.heap[2]? = some (.cells #[.iface tp p] t f)) /\ (∃ tp p t f, w.heap[3]? = some (.cells #[.iface tp p] t f))
end
section
open Go.RowKit
theorem six {w : World} {b : Nat} {v0 v1 v2 v3 v4 v5 : Value} {t : TypeId} (h : w.heap[b]? = some (.cells #[v0, v1, v2, v3, v4, v5] t (0, 0))) :
 w.cell? ⟨b, 0, none⟩ = some v0 /\ w.cell? ⟨b, 1, none⟩ = some v1 /\ w.cell? ⟨b, 2, none⟩ = some v2 /\ w.cell? ⟨b, 3, none⟩ = some v3 /\ w.cell? ⟨b, 4, none⟩ = some v4 /\ w.cell? ⟨b, 5, none⟩ = some v5 := by
 refine ⟨?_, ?_, ?_, ?_, ?_, ?_⟩ <;> simp [World.cell?, h]
end
end
end Go.Proofs.YtapcjnoaofmmiaaGreatDoor.Wr
