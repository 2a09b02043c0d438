/-
 No statement: what AggTurnedCard needs, of the texts OE1.
-/
import Derived.Test.YtapcjnoaofmmiaaGreatDoorVU1
import Derived.WalkKit
import Derived.WalkSpells
import Derived.Deep.Draws
import Derived.Sort.Walk0
import Derived.Lib.ParseIntB
import Derived.Lib.AtoiErrMem
import Derived.Lib.AppendIntMem
import Derived.IntWalk
import Derived.LoopTactic
import Derived.StillTailTactics
import Derived.Deep.QuietTactic
import Derived.BigQuiet
import Derived.Lib.ParseIntBTie
import Derived.RangeFuncRecord
import Derived.ArgAppend
import Derived.OwnWalk
import Derived.Deep.RegionHeld3
import Derived.BigRegion
import Derived.Deep.Cut
import Derived.Deep.RegionLaw
import Derived.Shelf.Spec.SearchS
import Derived.Lib.AppendZerosOnto
import Derived.Lib.SliceRun
import Derived.Laws.IdiomStrings
import Derived.Lib.OwnBridge
import Derived.Lib.SlicesCompact
import Derived.Sort.OwnSorted
import Derived.Lib.Builder
import Derived.Lib.AppendStr
namespace Go.Proofs.YtapcjnoaofmmiaaGreatDoor
section
section
open Go.RowKit
structure aF (S : Nat -> Prop) (w w' : World) : Prop where
 os : w'.os = w.os
 tape : w'.tape = w.tape
 output : w'.output = w.output
 size : w.heap.size <= w'.heap.size
 block : ∀ k, k < w.heap.size -> ¬ S k -> w'.heap[k]? = w.heap[k]?
theorem aF.refl (S : Nat -> Prop) (w : World) : aF S w w := ⟨rfl, rfl, rfl, Nat.le_refl _, fun _ _ _ => rfl⟩
theorem aF.trans {S T : Nat -> Prop} {a b c : World} (h : aF S a b) (k : aF T b c) (hT : ∀ i, T i -> i < a.heap.size -> S i) : aF S a c :=
 ⟨k.os.trans h.os, k.tape.trans h.tape, k.output.trans h.output, Nat.le_trans h.size k.size, fun i hi hS =>
  (k.block i (Nat.lt_of_lt_of_le hi h.size) (fun ht => hS (hT i ht hi))).trans (h.block i hi hS)⟩
theorem aF.mono {S T : Nat -> Prop} {a b : World} (h : aF S a b) (hT : ∀ i, S i -> i < a.heap.size -> T i) : aF T a b :=
 ⟨h.os, h.tape, h.output, h.size, fun i hi hS => h.block i hi (fun hs => hS (hT i hs hi))⟩
theorem aF.alloc {S : Nat -> Prop} {a w : World} (h : aF S a w) (o : Obj) : aF S a (w.alloc o) :=
 h.trans (T := S) ⟨rfl, rfl, rfl, by simp, fun k hk _ => Below.heap_alloc _ _ _ hk⟩ (fun _ hs _ => hs)
theorem aF.drew {S : Nat -> Prop} {a w : World} (h : aF S a w) : aF S a w.drew := ⟨h.os, h.tape, h.output, h.size, h.block⟩
theorem aF.drewN {S : Nat -> Prop} {a w : World} (h : aF S a w) (n : Nat) : aF S a (w.drewN n) := ⟨h.os, h.tape, h.output, h.size, h.block⟩
theorem aF.setCell {S : Nat -> Prop} {a w : World} (h : aF S a w) {p : Addr} (hp : S p.block \/ a.heap.size <= p.block) (u : Value) : aF S a (w.setCell p u) :=
 h.trans (T := fun i => i = p.block) ⟨rfl, rfl, rfl, by simp [World.setCell], fun k _ hk => Below.heap_setCell _ _ _ _ hk⟩
  (fun i hi hl => by subst hi; rcases hp with hp | hp; exact hp; omega)
theorem aF.grown {S : Nat -> Prop} {a w w' : World} {row : Option Nat} (h : aF S a w) (hg : w.grownBy w' row) (hr : ∀ k, row = some k -> S k \/ a.heap.size <= k) : aF S a w' :=
 h.trans (T := fun i => row = some i) ⟨hg.os, hg.tape, hg.output, hg.size, fun k hk hne => hg.block k hk (fun e => hne e.symm)⟩
  (fun i hi hl => by rcases hr i hi with hp | hp; exact hp; omega)
theorem aF.below {S : Nat -> Prop} {B : Nat} {w w' : World} (h : aF S w w') (hS : ∀ k, S k -> B <= k) (hB : B <= w.heap.size) : Below B w w' :=
 ⟨h.os, h.tape, h.output, h.size, fun k hk => h.block k (by omega) (fun hs => by have := hS k hs; omega)⟩
theorem aF.heap {S : Nat -> Prop} {w w' : World} {k : Nat} {o : Obj} (h : aF S w w') (hk : w.heap[k]? = some o) (hS : ¬ S k) : w'.heap[k]? = some o :=
 (h.block k (lt_of_block hk) hS).trans hk
theorem aF.cell {S : Nat -> Prop} {w w' : World} {a : Addr} {v : Value} (h : aF S w w') (hk : w.cell? a = some v) (hS : ¬ S a.block) : w'.cell? a = some v :=
 (World.cell?_of_block (h.block a.block (World.block_lt_of_cell? w a hk) hS)).trans hk
theorem aF.owns {S : Nat -> Prop} {w w' : World} {base : Nat} {e : TypeId} {size : Nat} {v : Value} {n : Nat} {xs : List Value} (h : aF S w w') (ho : w.ownsRow base e size v n xs)
 (hS : ∀ b, v.ownBlock = some b -> ¬ S b) : w'.ownsRow base e size v n xs := by
 refine ⟨ho.1, ?_⟩
 rcases ho.2 with hn | ⟨g, cap, cur, rfl, hb, hgg, rest⟩
 · exact .inl hn
 · exact .inr ⟨g, cap, cur, rfl, hb, h.heap hgg (hS g (by simp [Value.ownBlock])), rest⟩
theorem eC {w : World} {e : TypeId} {g n : Nat} {cur : Array Value} {xs : List Value} (hg : w.heap[g]? = some (.cells cur e (0, 0))) (ht : cur.toList.take n = xs) {j : Nat} {v : Value} (hj : xs[j]? = some v) : w.cell? ⟨g, j, none⟩ = some v := by
 rw [cell_of_row w g j cur e (0, 0) hg];rw [<- ht, List.getElem?_take] at hj
 split at hj
 · simpa using hj
 · cases hj
theorem cN (b : Nat) (e : TypeId) : ∀ (vs : List Value) (o : Nat) (w : World) (cur : Array Value), w.heap[b]? = some (.cells cur e (0, 0)) -> o + vs.length <= cur.size ->
 ∃ cur', (w.setCells b o vs).heap[b]? = some (.cells cur' e (0, 0)) /\ cur'.toList = cur.toList.take o ++ vs ++ cur.toList.drop (o + vs.length)
 | [], o, w, cur, h, _ => ⟨cur, h, by simp⟩
 | v :: r, o, w, cur, h, hl => by
   have h1 := heap_setCell_same w b o cur e v h;have hs : (cur.setIfInBounds o v).size = cur.size := by simp
   obtain ⟨cur', hc, ht⟩ := cN b e r (o + 1) _ _ h1 (by simp at hl |-; omega);refine ⟨cur', hc, ?_⟩;rw [ht];simp only [List.length_cons] at hl |-
   have ho : o < cur.toList.length := by rw [Array.length_toList]; omega
   have hto : (cur.toList.take o).length = o := by rw [List.length_take]; omega
   have hset : (cur.toList.take o ++ [cur.toList[o]]).set o v = cur.toList.take o ++ [v] := by
    rw [List.set_append, if_neg (by omega), hto, Nat.sub_self]; rfl
   rw [Array.toList_setIfInBounds, List.take_set, List.drop_set_of_lt (by omega), List.take_succ_eq_append_getElem ho, hset];simp [Nat.add_assoc, Nat.add_comm 1]
theorem dF {S : Nat -> Prop} {w w' : World} {row : Option Nat} (h : aF S w w') (hS : ∀ k, S k -> row = some k) : w.grownBy w' row :=
 ⟨h.os, h.tape, h.output, h.size, fun k hk hne => h.block k hk (fun hs => hne (hS k hs).symm)⟩
theorem iA {x y : ByteArray} (h : x.data.toList = y.data.toList) : x = y := by
 cases x; cases y; simp only [ByteArray.mk.injEq]; exact Array.toList_inj.1 h
end
section
open Go.RowKit
def aW (a : Int) : Prop := -9223372036854775808 <= a /\ a <= 9223372036854775807
def Cn (l : List UInt8) : Option Int :=
 match Lib.parseIntB 64 l with
 | .ok v => if Lib.itoa v = l then some v else none
 | _ => none
theorem nX (M : Nat) (c : UInt8) (hc : 48 <= c.toNat /\ c.toNat <= 57) : ∀ (l : List UInt8) (acc v : Nat), Lib.parseUintM M acc l = .ok v -> v < 1844674407370955162 -> v * 10 + (c.toNat - 48) <= M -> Lib.parseUintM M acc (l ++ [c]) = .ok (v * 10 + (c.toNat - 48))
 | [], acc, v, h, hv, hM => by
   simp only [Lib.parseUintM, Lib.NumEnd.ok.injEq] at h;subst h;rw [List.nil_append, Lib.parseUintM, if_pos hc, if_neg (by omega), if_neg (by omega), Lib.parseUintM]
 | d :: r, acc, v, h, hv, hM => by
   rw [Lib.parseUintM] at h;rw [List.cons_append, Lib.parseUintM]
   by_cases h1 : 48 <= d.toNat /\ d.toNat <= 57
   · rw [if_pos h1] at h |-
     by_cases h2 : 1844674407370955162 <= acc
     · rw [if_pos h2] at h; cases h
     · rw [if_neg h2] at h |-
       by_cases h3 : M < acc * 10 + (d.toNat - 48)
       · rw [if_pos h3] at h; cases h
       · rw [if_neg h3] at h |-
         exact nX M c hc r _ v h hv hM
   · rw [if_neg h1] at h; cases h
theorem gM (m : Nat) (h : m < 10) : (UInt8.ofNat (48 + m)).toNat = 48 + m := by rw [UInt8.toNat_ofNat']; omega
theorem uP (u : Nat) (hu : u <= 9223372036854775808) : Lib.parseUintM (2 ^ 64 - 1) 0 (Lib.decDigits u) = .ok u := by
 induction u using Nat.strongRecOn with
 | _ u ih =>
   rw [Lib.decDigits]
   by_cases h : u < 10
   · rw [dif_pos h]
     have := nX (2 ^ 64 - 1) (UInt8.ofNat (48 + u)) (by rw [gM u h]; omega) [] 0 0 rfl (by omega) (by rw [gM u h]; omega);rw [gM u h] at this;simpa using this
   · rw [dif_neg h]
     have h2 : u % 10 < 10 := Nat.mod_lt _ (by omega);have := nX (2 ^ 64 - 1) (UInt8.ofNat (48 + u % 10)) (by rw [gM _ h2]; omega) _ 0 (u / 10) (ih (u / 10) (by omega) (by omega)) (by omega) (by rw [gM _ h2]; omega);rw [gM _ h2] at this;rw [this]
     congr 1
     omega
theorem Bw (u : Nat) : ∀ c ∈ Lib.decDigits u, 48 <= c.toNat /\ c.toNat <= 57 := by
 induction u using Nat.strongRecOn with
 | _ u ih =>
   rw [Lib.decDigits]
   by_cases h : u < 10
   · rw [dif_pos h]
     intro c hc;obtain rfl := List.mem_singleton.1 hc;rw [gM u h]; omega
   · rw [dif_neg h]
     have h2 : u % 10 < 10 := Nat.mod_lt _ (by omega);intro c hc
     rcases List.mem_append.1 hc with hc | hc
     · exact ih (u / 10) (by omega) c hc
     · obtain rfl := List.mem_singleton.1 hc
       rw [gM _ h2]; omega
theorem Ai (u : Nat) : ∃ c r, Lib.decDigits u = c :: r /\ 48 <= c.toNat /\ c.toNat <= 57 := by
 cases h : Lib.decDigits u with
 | nil =>
   rw [Lib.decDigits] at h
   split at h <;> simp at h
 | cons c r => exact ⟨c, r, rfl, Bw u c (by rw [h]; simp)⟩
theorem FX {n : Int} (hn : aW n) : Cn (Lib.itoa n) = some n := by
 obtain ⟨h1, h2⟩ := hn
 have hp : Lib.parseIntB 64 (Lib.itoa n) = .ok n := by
  unfold Lib.itoa
  by_cases h0 : n < 0
  · rw [if_pos h0]
    obtain ⟨c, r, hc, _⟩ := Ai n.natAbs;have e1 : Lib.parseUintB 64 (Lib.decDigits n.natAbs) = .ok n.natAbs := by rw [Lib.parseUintB, if_neg (by rw [hc]; simp), uP _ (by omega)]
    have e2 : ¬ 9223372036854775808 < n.natAbs := by omega
    have e3 : -(n.natAbs : Int) = n := by omega
    simp [Lib.parseIntB, e1, e2];omega
  · rw [if_neg h0]
    obtain ⟨c, r, hc, hd⟩ := Ai n.toNat;have e1 : Lib.parseUintB 64 (Lib.decDigits n.toNat) = .ok n.toNat := by rw [Lib.parseUintB, if_neg (by rw [hc]; simp), uP _ (by omega)]
    have e2 : ¬ 9223372036854775808 <= n.toNat := by omega
    have e4 : ¬ c.toNat = 43 := by omega
    have e5 : ¬ c.toNat = 45 := by omega
    rw [hc] at e1 |-
    simp [Lib.parseIntB, e1, e2, e4, e5];omega
 unfold Cn;rw [hp];simp
def isD (c : UInt8) : Prop := 48 <= c.toNat /\ c.toNat <= 57
def gZ (d : List UInt8) : Nat := d.foldl (fun u c => 10 * u + (c.toNat - 48)) 0
theorem Db (d : List UInt8) (c : UInt8) : gZ (d ++ [c]) = 10 * gZ d + (c.toNat - 48) := by unfold gZ; rw [List.foldl_append]; rfl
theorem xH : ∀ (k u : Nat), u < 10 ^ (k + 1) -> (Lib.decDigits u).length <= k + 1
 | 0, u, h => by rw [Lib.decDigits, dif_pos (by omega)]; simp
 | k + 1, u, h => by
   rw [Lib.decDigits]
   by_cases h10 : u < 10
   · rw [dif_pos h10]; simp
   · rw [dif_neg h10, List.length_append]
     have := xH k (u / 10) (by rw [Nat.div_lt_iff_lt_mul (by omega)]; rw [Nat.pow_succ] at h; exact h);simp; omega
theorem GV : Lib.decDigits 0 = [48] := by rw [Lib.decDigits, dif_pos (by omega)]; rfl
theorem B9 {c : UInt8} (h : isD c) : UInt8.ofNat (48 + (c.toNat - 48)) = c := by
 rw [show 48 + (c.toNat - 48) = c.toNat by have := h.1; omega];exact UInt8.ofNat_toNat
theorem B8 : ∀ (n : Nat) (d : List UInt8), d.length = n -> ¬ d = [] -> (∀ c ∈ d, isD c) -> (∀ r, d = 48 :: r -> r = []) -> Lib.decDigits (gZ d) = d := by
 intro n
 induction n with
 | zero => intro d hl hn _ _; exact absurd (List.length_eq_zero_iff.1 hl) hn
 | succ n ih =>
   intro d hl hn hd h0
   rcases List.eq_nil_or_concat d with e | ⟨e, c, rfl⟩
   · exact absurd e hn
   · rw [List.concat_eq_append] at *
     have hc : isD c := hd c (by simp);rw [Db]
     by_cases he : e = []
     · subst he
       rw [show gZ [] = 0 from rfl, Nat.mul_zero, Nat.zero_add, Lib.decDigits, dif_pos (by have := hc.2; omega), B9 hc];rfl
     · have ih2 := ih e (by simp at hl; exact hl) he (fun x hx => hd x (by simp [hx])) (fun r hr => by
        have := h0 (r ++ [c]) (by rw [hr]; rfl);simp at this)
       have hpos : 0 < gZ e := by
        rcases Nat.eq_zero_or_pos (gZ e) with h | h
        · rw [h, GV] at ih2
          have := h0 [c] (by rw [<- ih2]; rfl);cases this
        · exact h
       have hx : c.toNat - 48 < 10 := by have := hc.2; omega
       rw [Lib.decDigits, dif_neg (by omega), show (10 * gZ e + (c.toNat - 48)) / 10 = gZ e by omega, show (10 * gZ e + (c.toNat - 48)) % 10 = c.toNat - 48 by omega, ih2, B9 hc]
def okD (neg : Bool) (d : List UInt8) : Prop := ¬ d = [] /\ d.length <= 19 /\ (∀ c ∈ d, isD c) /\ (∀ r, d = 48 :: r -> r = [] /\ neg = false)
theorem Iu {d : List UInt8} (h : okD false d) (hv : gZ d <= 9223372036854775807) : Cn d = some (gZ d : Int) := by
 obtain ⟨h1, h2, h3, h4⟩ := h;have hd := B8 _ d rfl h1 h3 (fun r hr => (h4 r hr).1);have hn : aW (gZ d : Int) := by unfold aW; omega
 have := FX hn
 rwa [Lib.itoa, if_neg (by omega), show ((gZ d : Int)).toNat = gZ d by omega, hd] at this
theorem nM : ∀ (d : List UInt8) (acc v : Nat), Lib.parseUintM (2 ^ 64 - 1) acc d = .ok v -> (∀ c ∈ d, isD c) -> v = d.foldl (fun u c => 10 * u + (c.toNat - 48)) acc
 | [], acc, v, h, _ => by simp only [Lib.parseUintM, Lib.NumEnd.ok.injEq] at h; exact h.symm
 | c :: r, acc, v, h, hd => by
   have hc : 48 <= c.toNat /\ c.toNat <= 57 := hd c (by simp);rw [Lib.parseUintM, if_pos hc] at h
   by_cases h1 : 1844674407370955162 <= acc
   · rw [if_pos h1] at h; cases h
   · rw [if_neg h1] at h
     by_cases h2 : 2 ^ 64 - 1 < acc * 10 + (c.toNat - 48)
     · rw [if_pos h2] at h; cases h
     · rw [if_neg h2] at h
       have := nM r _ v h (fun x hx => hd x (by simp [hx]));rw [this, List.foldl_cons, Nat.mul_comm acc 10]
theorem oQ {d : List UInt8} (h1 : ¬ d = []) (hd : ∀ c ∈ d, isD c) (h0 : ∀ r, d = 48 :: r -> r = []) (hv : gZ d <= 9223372036854775807) : Lib.parseIntB 64 d = .ok (gZ d : Int) := by
 have hl : d.length <= 19 := by
  have := xH 18 (gZ d) (by omega)
  rwa [B8 _ d rfl h1 hd h0] at this
 have h := Iu (d := d) ⟨h1, hl, hd, fun r hr => ⟨h0 r hr, rfl⟩⟩ hv;unfold Cn at h
 split at h
 · rename_i v hv'
   split at h
   · cases h; exact hv'
   · cases h
 · cases h
theorem kW {d : List UInt8} (hd : ∀ c ∈ d, isD c) (hv : 9223372036854775807 < gZ d) (v : Int) : ¬ Lib.parseIntB 64 d = .ok v := by
 intro h;cases d with
 | nil => simp [Lib.parseIntB] at h
 | cons c r =>
   have hc := hd c (by simp);have n1 : ¬ (c.toNat = 43 \/ c.toNat = 45) := by have := hc.1; omega
   simp only [Lib.parseIntB, if_neg n1] at h;cases hp : Lib.parseUintB 64 (c :: r) with
   | ok u =>
     rw [hp] at h;rw [Lib.parseUintB, if_neg (by simp)] at hp;have hu : u = gZ (c :: r) := nM _ _ _ hp hd;have n2 : ¬ c.toNat = 45 := by omega
     simp only at h;rw [if_pos ⟨n2, by rw [hu]; omega⟩] at h;cases h
   | _ => rw [hp] at h; cases h
end
section
open Go.RowKit
def cO (c : UInt8) : Bool := decide (97 <= (c.toNat : Int)) && decide ((c.toNat : Int) <= 122)
def a8 (c : UInt8) : Bool := decide (48 <= (c.toNat : Int)) && decide ((c.toNat : Int) <= 57)
def bB (c : UInt8) : Bool := cO c || a8 c
def cB : List UInt8 -> Bool
 | [] => false
 | c :: r => cO c && decide (r.length <= 7) && r.all bB
def fJ : List UInt8 -> List (List UInt8)
 | [] => [[]]
 | c :: r => if c = 47 then [] :: fJ r else ((c :: (fJ r).head!) :: (fJ r).tail)
def zR (l : List UInt8) (p : Nat) : Bool :=
 match l with
 | [] => decide (0 < p)
 | c :: r => decide (c = 47) && (fJ r).all cB && decide ((fJ r).length + p <= 4)
def lM (l : List UInt8) : Bool := zR l 0
theorem mY (c : UInt8) (r : List UInt8) : cB (c :: r) = (cO c && decide (r.length <= 7) && r.all bB) := rfl
theorem uR (c : UInt8) (r : List UInt8) (p : Nat) : zR (c :: r) p = (decide (c = 47) && (fJ r).all cB && decide ((fJ r).length + p <= 4)) := rfl
theorem Ce (l : List UInt8) : fJ l ≠ [] := by
 cases l with
 | nil => simp [fJ]
 | cons c r => unfold fJ; split <;> simp
theorem Cf (l : List UInt8) : ∃ a q, fJ l = a :: q := by
 cases h : fJ l with
 | nil => exact absurd h (Ce l)
 | cons a q => exact ⟨a, q, rfl⟩
theorem gE (q : List UInt8) : fJ (47 :: q) = [] :: fJ q := by simp [fJ]
theorem eT {c : UInt8} (h : ¬ c = 47) (q : List UInt8) {a : List UInt8} {b : List (List UInt8)} (e : fJ q = a :: b) : fJ (c :: q) = (c :: a) :: b := by
 rw [fJ, if_neg h, e]; rfl
end
section
open Go.RowKit
def cI (p : UInt8 -> Bool) (l : List UInt8) : Nat := (l.takeWhile p).length
def jD (c : UInt8) : Bool := c == 40 || c == 41 || c == 44 || c == 61 || c == 60 || c == 62 || c == 43 || c == 45 || c == 42 || c == 47 || c == 37
def eO (c d : UInt8) : Bool := d == 61 && (c == 33 || c == 60 || c == 62)
def rT : List UInt8 -> Nat
 | [] => 0
 | [c] => if jD c then 1 else 0
 | c :: d :: _ => if eO c d then 2 else if jD c then 1 else 0
inductive Fst | bad (e : Int) | tok (k : Int) (n : Nat) (v : Int)
def nN (l : List UInt8) : Fst := if 8 < cI bB l then .bad 5 else .tok 1 (cI bB l) 0
def wP (l : List UInt8) : Fst :=
 if (1 < cI a8 l /\ l.head? = some 48) \/ (∃ d, (l.drop (cI a8 l)).head? = some d /\ cO d = true) then .bad 2
 else if 9223372036854775807 < gZ (l.take (cI a8 l)) then .bad 1 else .tok 2 (cI a8 l) (gZ (l.take (cI a8 l)))
def nI (l : List UInt8) : Fst := if rT l = 0 then .bad 2 else .tok 3 (rT l) 0
def dE : List UInt8 -> Fst
 | [] => .bad 2
 | c :: r => if cO c then nN (c :: r) else if a8 c then wP (c :: r) else nI (c :: r)
structure Tk where
 kind : Int
 text : List UInt8
 num : Int
 place : Nat
instance : Inhabited Tk := ⟨⟨0, [], 0, 0⟩⟩
inductive i6 | bad (p : Nat) (e : Int) | ok (ts : List Tk)
def i6.after (acc : List Tk) : i6 -> i6
 | .bad p e => .bad p e
 | .ok ts => .ok (acc ++ ts)
theorem Fi (E : i6) : E.after [] = E := by cases E <;> rfl
theorem At (a b : List Tk) (E : i6) : (E.after b).after a = E.after (a ++ b) := by cases E <;> simp [i6.after]
def dP : List UInt8 -> Nat -> i6
 | [], _ => .ok []
 | c :: r, p =>
   if c = 32 then dP r (p + 1)
   else match dE (c :: r) with
    | .bad e => .bad p e
    | .tok k n v => (dP (r.drop (n - 1)) (p + n)).after [⟨k, (c :: r).take n, v, p⟩]
termination_by l => l.length
decreasing_by
 all_goals simp
 omega
theorem iC (p : Nat) : dP [] p = .ok [] := by rw [dP]
theorem cV (r : List UInt8) (p : Nat) : dP (32 :: r) p = dP r (p + 1) := by rw [dP, if_pos rfl]
theorem oW {l : List UInt8} {p : Nat} {e : Int} (h0 : ¬ l = []) (h1 : ¬ l.head? = some 32) (h : dE l = .bad e) : dP l p = .bad p e := by
 cases l with
 | nil => exact absurd rfl h0
 | cons c r =>
   rw [dP, if_neg (by simpa using h1), h]
theorem mS {l : List UInt8} {p n : Nat} {k v : Int} (h1 : ¬ l.head? = some 32) (hn : 1 <= n) (h : dE l = .tok k n v) : dP l p = (dP (l.drop n) (p + n)).after [⟨k, l.take n, v, p⟩] := by
 cases l with
 | nil => cases h
 | cons c r =>
   rw [dP, if_neg (by simpa using h1), h];simp only;obtain ⟨m, rfl⟩ : ∃ m, n = m + 1 := ⟨n - 1, by omega⟩;rfl
theorem rY (q : UInt8 -> Bool) (l : List UInt8) : cI q l <= l.length := by
 unfold cI;have := congrArg List.length (List.takeWhile_append_dropWhile (p := q) (l := l));rw [List.length_append] at this;omega
theorem yM {a b l : List UInt8} (h : a ++ b = l) : l.take a.length = a /\ l.drop a.length = b := by
 subst h; simp
theorem yL (q : UInt8 -> Bool) (l : List UInt8) : l.take (cI q l) = l.takeWhile q := by
 exact (yM (List.takeWhile_append_dropWhile (p := q) (l := l))).1
theorem GU (q : UInt8 -> Bool) (l : List UInt8) : l.drop (cI q l) = l.dropWhile q := by
 exact (yM (List.takeWhile_append_dropWhile (p := q) (l := l))).2
theorem rZ {q : UInt8 -> Bool} : ∀ {l : List UInt8} {n : Nat}, n <= l.length -> (∀ j (h : j < l.length), j < n -> q l[j] = true) -> (∀ h : n < l.length, q l[n] = false) -> cI q l = n
 | [], n, h, _, _ => by simp at h; subst h; rfl
 | c :: r, 0, _, _, h2 => by
   have := h2 (by simp);unfold cI;rw [List.takeWhile_cons_of_neg (by simpa using this)]; rfl
 | c :: r, n + 1, h, h1, h2 => by
   have hc := h1 0 (by simp) (by omega);have ih := rZ (q := q) (l := r) (n := n) (by simpa using h) (fun j hj hn => by have := h1 (j + 1) (by simpa using hj) (by omega); simpa using this) (fun hn => by have := h2 (by simpa using hn); simpa using this);unfold cI at ih |-
   rw [List.takeWhile_cons_of_pos (by simpa using hc)];simp [ih]
theorem EQ (c : UInt8) : a8 c = true ↔ isD c := by
 unfold a8 isD;simp;omega
theorem q9 {q : UInt8 -> Bool} {c : UInt8} {r : List UInt8} (h : q c = true) : 1 <= cI q (c :: r) := by
 unfold cI;rw [List.takeWhile_cons_of_pos h]; simp
theorem Cd (l : List UInt8) : rT l <= l.length := by
 match l with
 | [] => simp [rT]
 | [c] =>
   show (if jD c then 1 else 0) <= 1
   split <;> omega
 | c :: d :: r =>
   show (if eO c d then 2 else if jD c then 1 else 0) <= r.length + 1 + 1
   split
   · omega
   · split <;> omega
theorem ED {l : List UInt8} {k v : Int} {n : Nat} (h : dE l = .tok k n v) : 1 <= n /\ n <= l.length := by
 cases l with
 | nil => cases h
 | cons c r =>
   simp only [dE] at h
   split at h
   · rename_i hs
     unfold nN at h
     split at h
     · cases h
     · cases h
       exact ⟨q9 (by unfold bB; simp [hs]), rY _ _⟩
   · split at h
     · rename_i hd
       unfold wP at h
       split at h
       · cases h
       · split at h
         · cases h
         · cases h
           exact ⟨q9 hd, rY _ _⟩
     · unfold nI at h
       split at h
       · cases h
       · cases h
         exact ⟨by omega, Cd _⟩
theorem vI {l : List UInt8} {k v : Int} {n : Nat} (h : dE l = .tok k n v) : (k = 1 \/ k = 2 \/ k = 3) /\ (¬ k = 2 -> v = 0) /\ 0 <= v /\ v <= 9223372036854775807 := by
 cases l with
 | nil => cases h
 | cons c r =>
   simp only [dE] at h
   split at h
   · unfold nN at h
     split at h
     · cases h
     · cases h; exact ⟨.inl rfl, fun _ => rfl, by omega, by omega⟩
   · split at h
     · unfold wP at h
       split at h
       · cases h
       · split at h
         · cases h
         · cases h; exact ⟨.inr (.inl rfl), fun h => absurd rfl h, by omega, by omega⟩
     · unfold nI at h
       split at h
       · cases h
       · cases h; exact ⟨.inr (.inr rfl), fun _ => rfl, by omega, by omega⟩
theorem F8 (l : List UInt8) (p : Nat) : dP l p = dP (l.drop (cI (· == 32) l)) (p + cI (· == 32) l) := by
 induction l generalizing p with
 | nil => rfl
 | cons c r ih =>
   by_cases h : c = 32
   · subst h
     rw [cV, ih (p + 1)];have : cI (· == 32) (32 :: r) = cI (· == 32) r + 1 := by unfold cI; rw [List.takeWhile_cons_of_pos (by decide)]; rfl
     rw [this, List.drop_succ_cons]
     congr 1
     omega
   · have : cI (· == 32) (c :: r) = 0 := by unfold cI; rw [List.takeWhile_cons_of_neg (by simpa using h)]; rfl
     rw [this]; rfl
theorem Dm (l : List UInt8) : ¬ (l.drop (cI (· == 32) l)).head? = some 32 := by
 rw [GU];intro h;have := List.head?_dropWhile_not (p := fun c : UInt8 => c == 32) (l := l);rw [h] at this;simp at this
theorem uX (l : List UInt8) (p : Nat) (h1 : ¬ l.head? = some 32) : (l = [] /\ dP l p = .ok []) \/ (∃ e, ¬ l = [] /\ dE l = .bad e /\ dP l p = .bad p e) \/
 ∃ k n v, ¬ l = [] /\ dE l = .tok k n v /\ 1 <= n /\ n <= l.length /\ dP l p = (dP (l.drop n) (p + n)).after [⟨k, l.take n, v, p⟩] := by
 by_cases h0 : l = []
 · subst h0; exact .inl ⟨rfl, iC p⟩
 · right
   cases h : dE l with
   | bad e => exact .inl ⟨e, h0, rfl, oW h0 h1 h⟩
   | tok k n v =>
     obtain ⟨a, b⟩ := ED h;exact .inr ⟨k, n, v, h0, rfl, a, b, mS h1 a h⟩
theorem lB {C : List UInt8 -> Nat -> Prop} (hnil : ∀ p, C [] p) (hblank : ∀ r p, C r (p + 1) -> C (32 :: r) p) (hbad : ∀ l p e, ¬ l.head? = some 32 -> ¬ l = [] -> dE l = .bad e -> C l p)
 (htok : ∀ l p k n v, ¬ l.head? = some 32 -> ¬ l = [] -> dE l = .tok k n v -> 1 <= n -> n <= l.length -> C (l.drop n) (p + n) -> C l p) : ∀ (m : Nat) (l : List UInt8) (p : Nat), l.length <= m -> C l p := by
 intro m
 induction m with
 | zero =>
   intro l p h;obtain rfl : l = [] := List.length_eq_zero_iff.1 (by omega);exact hnil p
 | succ m ih =>
   intro l p h
   by_cases h32 : l.head? = some 32
   · cases l with
     | nil => cases h32
     | cons c r =>
       obtain rfl : c = 32 := by simpa using h32
       exact hblank r p (ih r (p + 1) (by simpa using h))
   · rcases uX l p h32 with ⟨rfl, _⟩ | ⟨e, h0, hf, _⟩ | ⟨k, n, v, h0, hf, h1, h2, _⟩
     · exact hnil p
     · exact hbad l p e h32 h0 hf
     · exact htok l p k n v h32 h0 hf h1 h2 (ih _ _ (by simp; omega))
theorem tR {E : i6} {a ts : List Tk} (h : E.after a = .ok ts) : ∃ ts', E = .ok ts' /\ ts = a ++ ts' := by
 cases E with
 | bad p e => cases h
 | ok x => cases h; exact ⟨x, rfl, rfl⟩
theorem DQ (l : List UInt8) (p : Nat) : ∀ ts, dP l p = .ok ts -> (ts.map fun t => t.text.length).sum <= l.length /\ ts.length <= l.length /\ (∀ t ∈ ts, t.text.length <= l.length /\ t.place <= p + l.length /\ (t.kind = 1 \/ t.kind = 2 \/ t.kind = 3) /\ 0 <= t.num /\ t.num <= 9223372036854775807) := by
 refine lB (C := fun l p => ∀ ts, dP l p = .ok ts -> (ts.map fun t => t.text.length).sum <= l.length /\ ts.length <= l.length /\ (∀ t ∈ ts, t.text.length <= l.length /\ t.place <= p + l.length /\ (t.kind = 1 \/ t.kind = 2 \/ t.kind = 3) /\ 0 <= t.num /\ t.num <= 9223372036854775807)) ?_ ?_ ?_ ?_ l.length l p (Nat.le_refl _)
 · intro p ts h
   rw [iC] at h; cases h;exact ⟨by simp, by simp, fun t ht => by cases ht⟩
 · intro r p ih ts h
   rw [cV] at h;obtain ⟨a, b, c⟩ := ih ts h;exact ⟨by simp; omega, by simp; omega, fun t ht => by have := c t ht; simp; exact ⟨by omega, by omega, this.2.2⟩⟩
 · intro l p e h1 h0 hf ts h
   rw [oW h0 h1 hf] at h; cases h
 · intro l p k n v h1 h0 hf hn hl ih ts h
   rw [mS h1 hn hf] at h;obtain ⟨ts', h', rfl⟩ := tR h;obtain ⟨a, b, c⟩ := ih ts' h';have hf2 := vI hf;simp only [List.length_drop] at a b c;refine ⟨by simp; omega, by simp; omega, fun t ht => ?_⟩
   rcases List.mem_cons.1 ht with rfl | ht
   · exact ⟨by simp; omega, by simp, hf2.1, hf2.2.2⟩
   · have := c t ht
     exact ⟨by omega, by omega, this.2.2⟩
end
section
open Go.RowKit
inductive F where
 | nil : F
 | cons (op nm : ByteArray) (n : Int) (ks rest : F) : F
def F.len : F -> Nat
 | .nil => 0
 | .cons _ _ _ _ r => r.len + 1
structure TN where
 op : ByteArray
 nm : ByteArray
 n : Int
 ks : F
def TN.f (t : TN) : F := .cons t.op t.nm t.n t.ks .nil
def F.at : F -> Nat -> Option TN
 | .nil, _ => none
 | .cons o m n k _, 0 => some ⟨o, m, n, k⟩
 | .cons _ _ _ _ r, j + 1 => r.at j
def F.drop : F -> Nat -> F
 | f, 0 => f
 | .nil, _ + 1 => .nil
 | .cons _ _ _ _ r, j + 1 => r.drop j
theorem F.drop_zero (f : F) : f.drop 0 = f := by cases f <;> rfl
theorem F.drop_at : ∀ (f : F) (j : Nat), j < f.len -> ∃ t, f.at j = some t /\ f.drop j = .cons t.op t.nm t.n t.ks (f.drop (j + 1))
 | .nil, _, h => by simp [F.len] at h
 | .cons o m n k r, 0, _ => ⟨⟨o, m, n, k⟩, rfl, by rw [F.drop_zero, F.drop, F.drop_zero]⟩
 | .cons o m n k r, j + 1, h => by
   obtain ⟨t, h1, h2⟩ := F.drop_at r j (by simp [F.len] at h; omega);exact ⟨t, h1, h2⟩
theorem F.drop_len : ∀ (f : F) (j : Nat), f.len <= j -> f.drop j = .nil
 | .nil, 0, _ => rfl
 | .nil, _ + 1, _ => rfl
 | .cons o m n k r, 0, h => by simp [F.len] at h
 | .cons o m n k r, j + 1, h => F.drop_len r j (by simp [F.len] at h; omega)
def lJ : List UInt8 := [110, 117, 109]
def gW : List UInt8 := [110, 97, 109, 101]
def gN : List UInt8 := [110, 101, 103]
def bM (o : ByteArray) : Bool := o.data.toList == lJ
def bE (o : ByteArray) : Bool := o.data.toList == gW
def eZ (o : ByteArray) : Bool := o.data.toList == gN
def kD (o : ByteArray) : Bool := o.data.toList == [43] || o.data.toList == [45] || o.data.toList == [42] || o.data.toList == [47] || o.data.toList == [37]
def aV (o : ByteArray) : Int := if bM o || bE o then 0 else if eZ o then 1 else if kD o then 2 else -1
def f8 : F -> Int -> Int
 | .nil, l => l
 | .cons _ _ _ ks r, l => if l < 0 then l else f8 r (f8 ks (l - 1))
def nD (o m : ByteArray) (n : Int) (k : Nat) : Int :=
 if (aV o != (k : Int)) = true then 2 else if (bE o && !cB m.data.toList) = true then 5 else if (bM o && decide (n < 0)) = true then 1 else 0
def aU : F -> Int
 | .nil => 0
 | .cons o m n ks r => if nD o m n ks.len = 0 then (if aU ks = 0 then aU r else aU ks) else nD o m n ks.len
def aI (t : TN) : Int := if f8 t.ks 31 < 0 then 4 else aU t.f
theorem pF (t : TN) : aU t.f = if nD t.op t.nm t.n t.ks.len = 0 then aU t.ks else nD t.op t.nm t.n t.ks.len := by
 unfold TN.f;rw [aU]
 by_cases h : aU t.ks = 0
 · rw [if_pos h, h]; rfl
 · rw [if_neg h]
def xY (o m : ByteArray) (n : Int) (ts : List (List UInt8)) : List UInt8 :=
 if bM o = true then Lib.itoa n else if bE o = true then m.data.toList
 else if eZ o = true then 45 :: ts.headD [] else 40 :: (ts.headD [] ++ 32 :: (o.data.toList ++ 32 :: (ts.tail.headD [] ++ [41])))
def Fq : F -> List (List UInt8)
 | .nil => []
 | .cons o m n ks r => xY o m n (Fq ks) :: Fq r
def bI (t : TN) : List UInt8 := xY t.op t.nm t.n (Fq t.ks)
def eI : F -> F -> Bool
 | .nil, .nil => true
 | .cons o m n ks r, .cons o' m' n' ks' r' => (o.data.toList == o'.data.toList) && (ks.len == ks'.len) && !(bM o && n != n') && !(bE o && m.data.toList != m'.data.toList) && eI ks ks' && eI r r'
 | _, _ => false
def dH (a b : TN) : Bool := eI a.f b.f
end
section
open Go.RowKit
theorem cT {a b : Bool} (h : a = b) : Ending.returned (.bool a) = .returned (.bool b) := by rw [h]
theorem zC {a b : Nat} (h : a = b) : Ending.returned (.int .i64 (a : Int)) = .returned (.int .i64 (b : Int)) := by rw [h]
set_option maxHeartbeats 1000000 in
theorem dK (c : UInt8) (w : World) : Calls Tryz.prog 127 #[.int .u8 c.toNat] w fun e w' => e = .returned (.bool (cO c)) /\ w = w' := by
 obtain ⟨x, hx⟩ : ∃ x : Int, (c.toNat : Int) = x := ⟨_, rfl⟩;unfold cO;rw [hx]
 by_cases h : 97 <= x
 · go_enter Tryz.func127, Tryz.ntmps127
   go_wp2
   go_ret;exact ⟨cT (a := decide (x <= 122)) (by rw [decide_eq_true h]; rfl), rfl⟩
 · go_enter Tryz.func127, Tryz.ntmps127
   go_wp2
   go_ret;exact ⟨cT (a := false) (by rw [decide_eq_false (by omega)]; rfl), rfl⟩
set_option maxHeartbeats 1000000 in
theorem lC (c : UInt8) (w : World) : Calls Tryz.prog 129 #[.int .u8 c.toNat] w fun e w' => e = .returned (.bool (a8 c)) /\ w = w' := by
 obtain ⟨x, hx⟩ : ∃ x : Int, (c.toNat : Int) = x := ⟨_, rfl⟩;unfold a8;rw [hx]
 by_cases h : 48 <= x
 · go_enter Tryz.func129, Tryz.ntmps129
   go_wp2
   go_ret;exact ⟨cT (a := decide (x <= 57)) (by rw [decide_eq_true h]; rfl), rfl⟩
 · go_enter Tryz.func129, Tryz.ntmps129
   go_wp2
   go_ret;exact ⟨cT (a := false) (by rw [decide_eq_false (by omega)]; rfl), rfl⟩
set_option maxHeartbeats 1000000 in
theorem zV (c : UInt8) (w : World) : Calls Tryz.prog 161 #[.int .u8 c.toNat] w fun e w' => e = .returned (.bool (bB c)) /\ w = w' := by
 unfold bB;cases h : cO c with
 | true =>
   have C := aA (p := ∀ w, Calls Tryz.prog 127 #[.int .u8 c.toNat] w fun e w' => e = .returned (.bool true) /\ w = w') (fun w => by have := dK c w; rwa [h] at this);clear h
   go_enter Tryz.func161, Tryz.ntmps161
   go_wp2_with (go_at_call 127; refine (C.out _).mono ?_; rintro e w' ⟨rfl, rfl⟩)
   go_ret;exact ⟨cT (a := true) rfl, rfl⟩
 | false =>
   have C := aA (p := ∀ w, Calls Tryz.prog 127 #[.int .u8 c.toNat] w fun e w' => e = .returned (.bool false) /\ w = w') (fun w => by have := dK c w; rwa [h] at this);have D := aA (p := ∀ w, Calls Tryz.prog 129 #[.int .u8 c.toNat] w fun e w' => e = .returned (.bool (a8 c)) /\ w = w') (fun w => lC c w);clear h
   go_enter Tryz.func161, Tryz.ntmps161
   go_wp2_with (first | (go_at_call 127; refine (C.out _).mono ?_; rintro e w' ⟨rfl, rfl⟩) | (go_at_call 129; refine (D.out _).mono ?_; rintro e w' ⟨rfl, rfl⟩))
   go_ret;exact ⟨cT (a := a8 c) rfl, rfl⟩
theorem uV (s : ByteArray) (a b : Nat) : (s.extract a b).data.toList = (s.data.toList.drop a).take (b - a) := by
 rw [ByteArray.data_extract, Array.toList_extract]
theorem uU (s : ByteArray) (a : Nat) : (s.extract a s.size).data.toList = s.data.toList.drop a := by
 rw [uV]; exact List.take_of_length_le (by simp)
theorem iS (s : ByteArray) (b : Nat) : (s.extract 0 b).data.toList = s.data.toList.take b := by
 rw [uV]; rfl
theorem wJ (l : List UInt8) : Lib.hasPrefix l (⟨#[32]⟩ : ByteArray).data.toList = decide (l.head? = some 32) := by
 cases l with
 | nil => rfl
 | cons c r =>
   show [32].isPrefixOf (c :: r) = _;rw [List.isPrefixOf]
   by_cases h : c = 32
   · subst h; rfl
   · rw [beq_eq_false_iff_ne.2 (fun e : (32 : UInt8) = c => h e.symm)]
     rw [decide_eq_false (by simpa using h)];rfl
set_option maxHeartbeats 2000000 in
theorem DY (s : ByteArray) (p : Nat) (hp : p <= s.size) (hm : s.size <= 281474976710656) (w : World) : Calls Tryz.prog 80 #[.string s, .int .i64 p] w fun e w' => e = .returned (.int .i64 ((p + cI (· == 32) (s.data.toList.drop p) : Nat) : Int)) /\ w = w' := by
 have C := aA (p := ∀ (k : Nat) w, Calls Tryz.prog 126 #[.string (s.extract k s.size), .string ⟨#[32]⟩] w fun e w' => e = .returned (.bool (decide ((s.data.toList.drop k).head? = some 32))) /\ w = w') (fun k w => by
  have := Tryz.strings_HasPrefix (s.extract k s.size) ⟨#[32]⟩ w;rw [wJ, uU] at this;exact this.mono fun e w' ⟨h1, h2⟩ => ⟨h1, h2.symm⟩)
 obtain ⟨N, hN⟩ : ∃ N, p + cI (· == 32) (s.data.toList.drop p) = N := ⟨_, rfl⟩;rw [hN];have H := aA hN;clear hN
 go_enter Tryz.func80, Tryz.ntmps80
 go_wp2_with fail
 go_loop [1] (fun i => ∃ k : Nat, p <= k /\ k <= s.size /\ i = .int .i64 k /\ Hid (k + cI (· == 32) (s.data.toList.drop k) = N)) (fun i => s.size - (intOf i).toNat)
 case atStart => exact ⟨p, Nat.le_refl _, by omega, rfl, H⟩
 case round =>
  obtain ⟨k, hk1, hk, rfl, hok⟩ := hrel
  by_cases hc : (s.data.toList.drop k).head? = some 32
  · have D := aA (p := ∀ w, Calls Tryz.prog 126 #[.string (s.extract k s.size), .string ⟨#[32]⟩] w fun e w' => e = .returned (.bool true) /\ w = w') (fun w => by have := C.out k w; rwa [decide_eq_true hc] at this)
    have hlt : k < s.size := by
     have hl : s.data.toList.length = s.size := by simp
     rcases Nat.lt_or_ge k s.size with h | h
     · exact h
     · rw [List.drop_of_length_le (by omega)] at hc; cases hc
    have hok1 := aA (show k + 1 + cI (· == 32) (s.data.toList.drop (k + 1)) = N by
     rw [<- hok.out];have hd := List.drop_eq_getElem_cons (l := s.data.toList) (i := k) (by simpa using hlt);rw [hd] at hc |-
     have h32 : s.data.toList[k]'(by simpa using hlt) = 32 := by simpa using hc
     have : cI (· == 32) (s.data.toList[k]'(by simpa using hlt) :: s.data.toList.drop (k + 1)) = cI (· == 32) (s.data.toList.drop (k + 1)) + 1 := by
      unfold cI; rw [List.takeWhile_cons_of_pos (by rw [h32]; decide)]; rfl
     rw [this]; omega)
    clear hc
    go_wp2_with (go_at_call 126; refine (D.out _).mono ?_; rintro e w' ⟨rfl, rfl⟩)
    go_round
    case rel => exact ⟨k + 1, by omega, by omega, by go_num, hok1⟩
    case measure => simp [intOf]; omega
  · have D := aA (p := ∀ w, Calls Tryz.prog 126 #[.string (s.extract k s.size), .string ⟨#[32]⟩] w fun e w' => e = .returned (.bool false) /\ w = w') (fun w => by have := C.out k w; rwa [decide_eq_false hc] at this)
    have hkN : Hid (k = N) := aA (by
     rw [<- hok.out]
     have : cI (· == 32) (s.data.toList.drop k) = 0 := by
      cases e : s.data.toList.drop k with
      | nil => rfl
      | cons c r =>
        rw [e] at hc;unfold cI;rw [List.takeWhile_cons_of_neg (by simpa using hc)]; rfl
     omega)
    clear hc
    go_wp2_with (go_at_call 126; refine (D.out _).mono ?_; rintro e w' ⟨rfl, rfl⟩)
    go_ret;exact ⟨zC hkN.out, rfl⟩
set_option maxHeartbeats 4000000 in
theorem dQ (s : ByteArray) (hm : s.size <= 281474976710656) (w : World) :
 Calls Tryz.prog 160 #[.string s, .func (.func 129) #[] #[]] w fun e w' => e = .returned (.int .i64 (cI a8 s.data.toList : Int)) /\ w = w' := by
 have hF := aA lC
 go_enter Tryz.func160, Tryz.ntmps160
 go_wp2_with fail
 go_loop [5] (fun i => ∃ k : Nat, k <= s.size /\ i = .int .i64 k /\ Hid (∀ j (h : j < s.data.toList.length), j < k -> a8 s.data.toList[j] = true)) (fun i => s.size - (intOf i).toNat)
 case atStart => exact ⟨0, by omega, rfl, aA (fun j _ h => by omega)⟩
 case round =>
  obtain ⟨k, hk, rfl, hok⟩ := hrel;have hl : s.data.toList.length = s.size := by simp
  by_cases hlt : k < s.size
  · cases hc : a8 s[k] with
    | true =>
      have D := aA (p := ∀ w, Calls Tryz.prog 129 #[.int .u8 s[k].toNat] w fun e w' => e = .returned (.bool true) /\ w = w') (fun w => by have := hF.out s[k] w; rwa [hc] at this)
      have hok1 := aA (show ∀ j (h : j < s.data.toList.length), j < k + 1 -> a8 s.data.toList[j] = true from fun j hj hjk => by
       by_cases e : j = k
       · subst e; exact hc
       · exact hok.out j hj (by omega))
      clear hc hl
      go_wp2_with (go_at_call 129; refine (D.out _).mono ?_; rintro e w' ⟨rfl, rfl⟩)
      go_round
      case rel => exact ⟨k + 1, by omega, by go_num, hok1⟩
      case measure => simp [intOf]; omega
    | false =>
      have D := aA (p := ∀ w, Calls Tryz.prog 129 #[.int .u8 s[k].toNat] w fun e w' => e = .returned (.bool false) /\ w = w') (fun w => by have := hF.out s[k] w; rwa [hc] at this);have R := aA (rZ (q := a8) (l := s.data.toList) (n := k) (by omega) hok.out (fun _ => hc));clear hc hl
      go_wp2_with (go_at_call 129; refine (D.out _).mono ?_; rintro e w' ⟨rfl, rfl⟩)
      go_ret;exact ⟨zC R.out.symm, rfl⟩
  · obtain rfl : k = s.size := by omega
    have R := aA (rZ (q := a8) (l := s.data.toList) (n := s.size) (by omega) hok.out (fun h => by omega));clear hl
    go_wp2_with fail
    go_ret;exact ⟨zC R.out.symm, rfl⟩
set_option maxHeartbeats 4000000 in
theorem Ea (s : ByteArray) (hm : s.size <= 281474976710656) (w : World) :
 Calls Tryz.prog 160 #[.string s, .func (.func 161) #[] #[]] w fun e w' => e = .returned (.int .i64 (cI bB s.data.toList : Int)) /\ w = w' := by
 have hF := aA zV
 go_enter Tryz.func160, Tryz.ntmps160
 go_wp2_with fail
 go_loop [5] (fun i => ∃ k : Nat, k <= s.size /\ i = .int .i64 k /\ Hid (∀ j (h : j < s.data.toList.length), j < k -> bB s.data.toList[j] = true)) (fun i => s.size - (intOf i).toNat)
 case atStart => exact ⟨0, by omega, rfl, aA (fun j _ h => by omega)⟩
 case round =>
  obtain ⟨k, hk, rfl, hok⟩ := hrel;have hl : s.data.toList.length = s.size := by simp
  by_cases hlt : k < s.size
  · cases hc : bB s[k] with
    | true =>
      have D := aA (p := ∀ w, Calls Tryz.prog 161 #[.int .u8 s[k].toNat] w fun e w' => e = .returned (.bool true) /\ w = w') (fun w => by have := hF.out s[k] w; rwa [hc] at this)
      have hok1 := aA (show ∀ j (h : j < s.data.toList.length), j < k + 1 -> bB s.data.toList[j] = true from fun j hj hjk => by
       by_cases e : j = k
       · subst e; exact hc
       · exact hok.out j hj (by omega))
      clear hc hl
      go_wp2_with (go_at_call 161; refine (D.out _).mono ?_; rintro e w' ⟨rfl, rfl⟩)
      go_round
      case rel => exact ⟨k + 1, by omega, by go_num, hok1⟩
      case measure => simp [intOf]; omega
    | false =>
      have D := aA (p := ∀ w, Calls Tryz.prog 161 #[.int .u8 s[k].toNat] w fun e w' => e = .returned (.bool false) /\ w = w') (fun w => by have := hF.out s[k] w; rwa [hc] at this);have R := aA (rZ (q := bB) (l := s.data.toList) (n := k) (by omega) hok.out (fun _ => hc));clear hc hl
      go_wp2_with (go_at_call 161; refine (D.out _).mono ?_; rintro e w' ⟨rfl, rfl⟩)
      go_ret;exact ⟨zC R.out.symm, rfl⟩
  · obtain rfl : k = s.size := by omega
    have R := aA (rZ (q := bB) (l := s.data.toList) (n := s.size) (by omega) hok.out (fun h => by omega));clear hl
    go_wp2_with fail
    go_ret;exact ⟨zC R.out.symm, rfl⟩
end
section
open Go.RowKit
theorem vV {s : ByteArray} (h : s.size = 1) : s.data.toList = [s[0]'(by omega)] := by
 have hl : s.data.toList.length = s.size := by simp
 cases e : s.data.toList with
 | nil => rw [e] at hl; simp at hl; omega
 | cons c r =>
   have h00 : s.data.toList[0]? = some (s[0]'(by omega)) := List.getElem?_eq_getElem (by omega);rw [e] at h00 hl;have hc : c = s[0] := by simpa using h00
   have : r = [] := List.length_eq_zero_iff.1 (by simp at hl; omega);rw [this, hc]
theorem Fa {s : ByteArray} (h : 2 <= s.size) : ∃ r, s.data.toList = s[0] :: s[1] :: r := by
 have d0 := List.drop_eq_getElem_cons (l := s.data.toList) (i := 0) (by simp; omega);have d1 := List.drop_eq_getElem_cons (l := s.data.toList) (i := 1) (by simp; omega);rw [List.drop_zero] at d0;rw [d0, Nat.zero_add, d1];exact ⟨_, rfl⟩
theorem I6 (c : UInt8) (k : Nat) (hk : k < 256) : ((c.toNat : Int) == (k : Int)) = (c == UInt8.ofNat k) := by
 by_cases h : c = UInt8.ofNat k
 · subst h
   rw [UInt8.toNat_ofNat'];rw [show k % 2 ^ 8 = k by omega];simp
 · rw [beq_eq_false_iff_ne.2 h, beq_eq_false_iff_ne.2]
   intro e
   apply h
   apply UInt8.toNat_inj.1
   rw [UInt8.toNat_ofNat'];omega
theorem sK (c : UInt8) : jD c = ((c.toNat : Int) == 40 || (c.toNat : Int) == 41 || (c.toNat : Int) == 44 || (c.toNat : Int) == 61 || (c.toNat : Int) == 60 || (c.toNat : Int) == 62 || (c.toNat : Int) == 43 || (c.toNat : Int) == 45 || (c.toNat : Int) == 42 || (c.toNat : Int) == 47 || (c.toNat : Int) == 37) := by
 unfold jD;have q : ∀ k : Nat, k < 256 -> (c == UInt8.ofNat k) = ((c.toNat : Int) == (k : Int)) := fun k hk => (I6 c k hk).symm
 exact congr (congrArg or (congr (congrArg or (congr (congrArg or (congr (congrArg or (congr (congrArg or (congr (congrArg or (congr (congrArg or (congr (congrArg or (congr (congrArg or (congr (congrArg or (q 40 (by decide))) (q 41 (by decide)))) (q 44 (by decide)))) (q 61 (by decide)))) (q 60 (by decide)))) (q 62 (by decide)))) (q 43 (by decide)))) (q 45 (by decide)))) (q 42 (by decide)))) (q 47 (by decide)))) (q 37 (by decide))
set_option maxHeartbeats 8000000 in
theorem wR (s : ByteArray) (h1 : 1 <= s.size) (t1 : ((s.extract 0 (min 2 (s.size : Int)).toNat).toList == [33, 61]) = false) (t2 : ((s.extract 0 (min 2 (s.size : Int)).toNat).toList == [60, 61]) = false) (t3 : ((s.extract 0 (min 2 (s.size : Int)).toNat).toList == [62, 61]) = false) {n : Nat} (R : n = if (((s[0]'(by omega)).toNat : Int) == 40 || ((s[0]'(by omega)).toNat : Int) == 41 || ((s[0]'(by omega)).toNat : Int) == 44 || ((s[0]'(by omega)).toNat : Int) == 61 || ((s[0]'(by omega)).toNat : Int) == 60 || ((s[0]'(by omega)).toNat : Int) == 62 || ((s[0]'(by omega)).toNat : Int) == 43 || ((s[0]'(by omega)).toNat : Int) == 45 || ((s[0]'(by omega)).toNat : Int) == 42 || ((s[0]'(by omega)).toNat : Int) == 47 || ((s[0]'(by omega)).toNat : Int) == 37) = true then 1 else 0) (w : World) : Calls Tryz.prog 164 #[.string s] w fun e w' => e = .returned (.int .i64 (n : Int)) /\ w = w' := by
 have R := aA R
 go_enter Tryz.func164, Tryz.ntmps164
 go_wp2_with fail
 all_goals
  go_ret;refine ⟨?_, rfl⟩;rw [R.out];simp only [*, Bool.true_or, Bool.or_true, if_true, Bool.or_false, Bool.false_eq_true, if_false];rfl
set_option maxHeartbeats 2000000 in
theorem D9 (s : ByteArray) (h1 : 1 <= s.size) (t1 : ((s.extract 0 (min 2 (s.size : Int)).toNat).toList == [33, 61]) = true) (w : World) : Calls Tryz.prog 164 #[.string s] w fun e w' => e = .returned (.int .i64 ((2 : Nat) : Int)) /\ w = w' := by
 go_enter Tryz.func164, Tryz.ntmps164
 go_wp2_with fail
 go_ret;exact ⟨rfl, rfl⟩
set_option maxHeartbeats 2000000 in
theorem D7 (s : ByteArray) (h1 : 1 <= s.size) (t1 : ((s.extract 0 (min 2 (s.size : Int)).toNat).toList == [33, 61]) = false) (t2 : ((s.extract 0 (min 2 (s.size : Int)).toNat).toList == [60, 61]) = true) (w : World) : Calls Tryz.prog 164 #[.string s] w fun e w' => e = .returned (.int .i64 ((2 : Nat) : Int)) /\ w = w' := by
 go_enter Tryz.func164, Tryz.ntmps164
 go_wp2_with fail
 go_ret;exact ⟨rfl, rfl⟩
set_option maxHeartbeats 2000000 in
theorem D6 (s : ByteArray) (h1 : 1 <= s.size) (t1 : ((s.extract 0 (min 2 (s.size : Int)).toNat).toList == [33, 61]) = false) (t2 : ((s.extract 0 (min 2 (s.size : Int)).toNat).toList == [60, 61]) = false) (t3 : ((s.extract 0 (min 2 (s.size : Int)).toNat).toList == [62, 61]) = true) (w : World) : Calls Tryz.prog 164 #[.string s] w fun e w' => e = .returned (.int .i64 ((2 : Nat) : Int)) /\ w = w' := by
 go_enter Tryz.func164, Tryz.ntmps164
 go_wp2_with fail
 go_ret;exact ⟨rfl, rfl⟩
theorem DZ (s : ByteArray) (h1 : 1 <= s.size) (w : World) : Calls Tryz.prog 164 #[.string s] w fun e w' => e = .returned (.int .i64 (rT s.data.toList : Int)) /\ w = w' := by
 by_cases h2 : s.size = 1
 · have T : (s.extract 0 (min 2 (s.size : Int)).toNat).toList = [s[0]'(by omega)] := by rw [Lib.toList_data, iS, vV h2, show (min 2 (s.size : Int)).toNat = 1 by omega]; rfl
   refine wR s h1 (by rw [T]; simp) (by rw [T]; simp) (by rw [T]; simp) ?_ w;rw [vV h2];show (if jD _ = true then 1 else 0) = _;rw [sK]
 · obtain ⟨r, hr⟩ := Fa (s := s) (by omega)
   have T : (s.extract 0 (min 2 (s.size : Int)).toNat).toList = [s[0]'(by omega), s[1]'(by omega)] := by
    rw [Lib.toList_data, iS, show (min 2 (s.size : Int)).toNat = 2 by omega, hr]; rfl
   have E : rT s.data.toList = if eO (s[0]'(by omega)) (s[1]'(by omega)) then 2 else if jD (s[0]'(by omega)) then 1 else 0 := by rw [hr]; rfl
   have q : ∀ k : UInt8, ([s[0]'(by omega), s[1]'(by omega)] == [k, 61]) = ((s[0]'(by omega)) == k && (s[1]'(by omega)) == 61) := fun k => by
    show ((s[0]'(by omega)) == k && ((s[1]'(by omega)) == 61 && true)) = _;rw [Bool.and_true]
   by_cases hd : s[1]'(by omega) = 61
   · by_cases a1 : s[0]'(by omega) = 33
     · rw [E, show eO (s[0]'(by omega)) (s[1]'(by omega)) = true by unfold eO; rw [hd, a1]; decide]
       exact D9 s h1 (by rw [T, q, hd, a1]; decide) w
     by_cases a2 : s[0]'(by omega) = 60
     · rw [E, show eO (s[0]'(by omega)) (s[1]'(by omega)) = true by unfold eO; rw [hd, a2]; decide]
       exact D7 s h1 (by rw [T, q, hd, a2]; decide) (by rw [T, q, hd, a2]; decide) w
     by_cases a3 : s[0]'(by omega) = 62
     · rw [E, show eO (s[0]'(by omega)) (s[1]'(by omega)) = true by unfold eO; rw [hd, a3]; decide]
       exact D6 s h1 (by rw [T, q, hd, a3]; decide) (by rw [T, q, hd, a3]; decide) (by rw [T, q, hd, a3]; decide) w
     refine wR s h1 (by rw [T, q, beq_eq_false_iff_ne.2 a1]; rfl) (by rw [T, q, beq_eq_false_iff_ne.2 a2]; rfl) (by rw [T, q, beq_eq_false_iff_ne.2 a3]; rfl) ?_ w;rw [E, <- sK, show eO (s[0]'(by omega)) (s[1]'(by omega)) = false by unfold eO; rw [beq_eq_false_iff_ne.2 a1, beq_eq_false_iff_ne.2 a2, beq_eq_false_iff_ne.2 a3]; simp];rfl
   · have z : (s[1]'(by omega) == 61) = false := beq_eq_false_iff_ne.2 hd
     refine wR s h1 (by rw [T, q, z, Bool.and_false]) (by rw [T, q, z, Bool.and_false]) (by rw [T, q, z, Bool.and_false]) ?_ w;rw [E, <- sK, show eO (s[0]'(by omega)) (s[1]'(by omega)) = false by unfold eO; rw [z]; rfl];rfl
end
section
open Go.RowKit
theorem aK {W : World} {B : Nat} {x0 x1 x2 x3 : Value} {t : TypeId} (h : W.heap[B]? = some (.cells #[x0, x1, x2, x3] t (0, 0))) :
 (W.cell? ⟨B, 0, none⟩ = some x0 /\ W.cell? ⟨B, 1, none⟩ = some x1 /\ W.cell? ⟨B, 2, none⟩ = some x2 /\ W.cell? ⟨B, 3, none⟩ = some x3) /\
 (W.frozen? ⟨B, 0, none⟩ = false /\ W.frozen? ⟨B, 1, none⟩ = false /\ W.frozen? ⟨B, 2, none⟩ = false /\ W.frozen? ⟨B, 3, none⟩ = false) := by
 refine ⟨⟨?_, ?_, ?_, ?_⟩, ?_, ?_, ?_, ?_⟩ <;> simp [World.cell?, World.frozen?, h]
theorem mJ (W : World) (B o : Nat) (cur : Array Value) (t : TypeId) (v : Value) (h : W.heap[B]? = some (.cells cur t (0, 0))) : (W.setCell ⟨B, o, none⟩ v).heap[B]? = some (.cells (cur.setIfInBounds o v) t (0, 0)) :=
 heap_setCell_same W B o cur t v h
theorem aS {W : World} {B : Nat} {x0 x1 x2 x3 : Value} {t : TypeId} (h : W.heap[B]? = some (.cells #[x0, x1, x2, x3] t (0, 0))) (v0 v1 v2 v3 : Value) :
 ((((W.setCell ⟨B, 0, none⟩ v0).setCell ⟨B, 1, none⟩ v1).setCell ⟨B, 2, none⟩ v2).setCell ⟨B, 3, none⟩ v3).heap[B]? = some (.cells #[v0, v1, v2, v3] t (0, 0)) := by
 have := mJ _ B 3 _ t v3 (mJ _ B 2 _ t v2 (mJ _ B 1 _ t v1 (mJ W B 0 _ t v0 h)));simpa using this
theorem bO {b : Nat} {A W : World} {B : Nat} (h : Below b A W) (hB : b <= B) (v0 v1 v2 v3 : Value) :
 Below b A ((((W.setCell ⟨B, 0, none⟩ v0).setCell ⟨B, 1, none⟩ v1).setCell ⟨B, 2, none⟩ v2).setCell ⟨B, 3, none⟩ v3) :=
 (((h.setCell (p := ⟨B, 0, none⟩) hB v0).setCell (p := ⟨B, 1, none⟩) hB v1).setCell (p := ⟨B, 2, none⟩) hB v2).setCell (p := ⟨B, 3, none⟩) hB v3
theorem oZ {W : World} {B : Nat} {x0 x1 x2 x3 : Value} {t : TypeId} (h : W.heap[B]? = some (.cells #[x0, x1, x2, x3] t (0, 0))) (v0 v1 v2 v3 : Value) (o : Obj) :
 (((((W.setCell ⟨B, 0, none⟩ v0).setCell ⟨B, 1, none⟩ v1).setCell ⟨B, 2, none⟩ v2).setCell ⟨B, 3, none⟩ v3).alloc o).heap[B]? = some (.cells #[v0, v1, v2, v3] t (0, 0)) :=
 (Below.heap_alloc _ _ _ (lt_of_block (aS h v0 v1 v2 v3))).trans (aS h v0 v1 v2 v3)
theorem qA (s : ByteArray) (hm : s.size <= 281474976710656) (w : World) : Calls Tryz.prog 183 #[.string s] w fun e w' => e = .returned (.string s) /\ Below w.heap.size w w' := by
 go_enter Tryz.func183, Tryz.ntmps183
 go_wp2_with (go_at_call 204; refine (Tryz.stringslite_Clone s _ hm).mono ?_; rintro e w' ⟨rfl, hb⟩; have hb1 := aA hb; clear hb)
 go_ret;exact ⟨rfl, hb1.out⟩
abbrev tkV (k : Int) (s : ByteArray) (n p : Int) : Value := .agg #[.int .i64 k, .string s, .int .i64 n, .int .i64 p]
abbrev tkO (k : Int) (s : ByteArray) (n p : Int) : Obj := .cells #[.int .i64 k, .string s, .int .i64 n, .int .i64 p] 158
theorem aC {w : World} {k : Nat} {o : Obj} (h : w.heap[k]? = some o) : k < w.heap.size := (Array.getElem?_eq_some_iff.1 h).1
set_option maxHeartbeats 2000000 in
theorem fY (k : Int) (s : ByteArray) (hm : s.size <= 281474976710656) (w : World) : Calls Tryz.prog 162 #[.int .i64 k, .string s] w fun e w' => e = .returned (tkV k s 0 0) /\ Below w.heap.size w w' := by
 go_enter Tryz.func162, Tryz.ntmps162
 go_wp2_with fail
 refine (qA s hm _).mono ?_;rintro e w1 ⟨rfl, hb⟩;have hB := (hb.block w.heap.size (by simp)).trans (heap_alloc_new w _);have B1 := aA (show Below w.heap.size w w1 from ((Below.refl _ w).alloc (Nat.le_refl _) _).trans (hb.mono (by simp)));obtain ⟨⟨k0, k1, k2, k3⟩, g0, g1, g2, g3⟩ := aK hB;have c0 := aA hB;clear hb hB
 go_wp2_with fail
 obtain ⟨⟨d0, d1, d2, d3⟩, -⟩ := aK (aS c0.out (.int .i64 k) (.string s) (.int .i64 0) (.int .i64 0));exact bodyPost_ret (v := tkV k s 0 0) (by simp [results, Tryz.results162, go_sem, d0, d1, d2, d3]) rfl ⟨rfl, bO B1.out (Nat.le_refl _) _ _ _ _⟩
end
section
open Go.RowKit
def sC (l : List UInt8) : Fst -> Value
 | .bad e => .tuple #[tkV 0 ⟨#[]⟩ 0 0, .int .i64 e]
 | .tok k n v => .tuple #[tkV k ⟨(l.take n).toArray⟩ v 0, .int .i64 0]
theorem sT (s : ByteArray) (n : Nat) : s.extract 0 n = ⟨(s.data.toList.take n).toArray⟩ := iA (by rw [iS])
def gP (w : World) : Prop :=
 (∃ tp p t f, w.heap[2]? = some (.cells #[.iface tp p] t f)) /\ (∃ tp p t f, w.heap[3]? = some (.cells #[.iface tp p] t f))
theorem gP.step {w w' : World} (h : gP w) (hb : Below w.heap.size w w') : gP w' := by
 obtain ⟨⟨tp, p, t1, f1, h1⟩, ⟨tq, q, t2, f2, h2⟩⟩ := h;exact ⟨⟨tp, p, t1, f1, (hb.block _ (aC h1)).trans h1⟩, ⟨tq, q, t2, f2, (hb.block _ (aC h2)).trans h2⟩⟩
theorem AA {w : World} {n : String} {g : Nat} {cs : Array Value} {t : TypeId} {f : Nat × Nat} (hg : Tryz.prog.globalNamed n = some g) (h : w.heap[g]? = some (.cells cs t f)) : w.var? Tryz.prog n = some cs := by
 unfold World.var?;rw [hg];simp [h]
theorem oP (s : ByteArray) (v : Int) (hs : s.size <= 281474976710656) (h : Lib.parseIntB 64 s.data.toList = .ok v) (w : World) :
 Calls Tryz.prog 163 #[.string s, .int .i64 10, .int .i64 64] w fun e w' => e = .returned (.tuple #[.int .i64 v, .nilIface]) /\ Below w.heap.size w w' := by
 refine (Tryz.strconv_ParseInt_10_at64_ok s (by omega) v h w).mono ?_;rintro e w' ⟨rfl, rfl | ⟨t, rfl⟩⟩
 · exact ⟨rfl, Below.refl _ _⟩
 · exact ⟨rfl, Lib.bytesWorld_below _ _ _⟩
def KJ (w : World) (e : Ending) (w' : World) : Prop := (∃ n t p, e = .returned (.tuple #[.int .i64 n, .iface t p])) /\ Below w.heap.size w w'
theorem kX (s : ByteArray) (hs : s.size <= 281474976710656) (w : World) (hw : gP w) (h : ∀ v, ¬ Lib.parseIntB 64 s.data.toList = .ok v) :
 Calls Tryz.prog 163 #[.string s, .int .i64 10, .int .i64 64] w (KJ w) := by
 obtain ⟨⟨tp, p, t1, f1, h1⟩, ⟨tq, q, t2, f2, h2⟩⟩ := hw
 rcases hp : Lib.parseIntB 64 s.data.toList with v | _ | _
 · exact absurd hp (h v)
 · refine (Any.strconv_ParseInt_10_at64_syntax_var Tryz.laysC174 s hs hp tp p w (AA (by kernel_rfl) h1)).mono ?_
   rintro e w' ⟨N, rfl, _, _, hb⟩;exact ⟨⟨_, _, _, rfl⟩, hb⟩
 · refine (Any.strconv_ParseInt_10_at64_range_var Tryz.laysC174 s hs hp tq q w (AA (by kernel_rfl) h2)).mono ?_
   rintro e w' ⟨N, rfl, _, _, hb⟩;exact ⟨⟨_, _, _, rfl⟩, hb⟩
set_option maxHeartbeats 4000000 in
theorem Eb (s : ByteArray) (hm : s.size <= 281474976710656) (w : World) : Calls Tryz.prog 128 #[.string s] w fun e w' => e = .returned (sC s.data.toList (nN s.data.toList)) /\ Below w.heap.size w w' := by
 obtain ⟨n, hn⟩ : ∃ n, cI bB s.data.toList = n := ⟨_, rfl⟩;have hle : n <= s.size := by rw [<- hn]; have := rY bB s.data.toList; simpa using this
 have C := aA (p := ∀ w, Calls Tryz.prog 160 #[.string s, .func (.func 161) #[] #[]] w fun e w' => e = .returned (.int .i64 (n : Int)) /\ w = w') (fun w => by have := Ea s hm w; rwa [hn] at this);unfold nN;rw [hn];clear hn
 by_cases h8 : 8 < n
 · rw [if_pos h8]
   unfold sC
   go_enter Tryz.func128, Tryz.ntmps128
   go_wp2_with (go_at_call 160; refine (C.out _).mono ?_; rintro e w' ⟨rfl, rfl⟩)
   refine bodyPost_ret (v := .tuple #[tkV 0 ⟨#[]⟩ 0 0, .int .i64 5]) (by simp [results, Tryz.results128, go_sem]) rfl ⟨rfl, ?_⟩;exact (Below.refl _ _).alloc (Nat.le_refl _) _
 · rw [if_neg h8]
   have T := aA (fun w => fY 1 (s.extract 0 n) (by rw [ByteArray.size_extract]; omega) w);have F := aA (sT s n);unfold sC
   go_enter Tryz.func128, Tryz.ntmps128
   go_wp2_with (go_at_call 160; refine (C.out _).mono ?_; rintro e w' ⟨rfl, rfl⟩)
   refine (T.out _).mono ?_;rintro e w1 ⟨rfl, hb⟩;have hB := (hb.block w.heap.size (by simp)).trans (heap_alloc_new w _);have B1 := aA (show Below w.heap.size w w1 from ((Below.refl _ w).alloc (Nat.le_refl _) _).trans (hb.mono (by simp)));obtain ⟨⟨k0, k1, k2, k3⟩, g0, g1, g2, g3⟩ := aK hB;have c0 := aA hB;clear hb hB
   go_wp2_with fail
   obtain ⟨⟨d0, d1, d2, d3⟩, -⟩ := aK (aS c0.out (.int .i64 1) (.string (s.extract 0 n)) (.int .i64 0) (.int .i64 0));refine bodyPost_ret (v := .tuple #[tkV 1 (s.extract 0 n) 0 0, .int .i64 0]) (by simp [results, Tryz.results128, go_sem, d0, d1, d2, d3]) rfl ⟨?_, bO B1.out (Nat.le_refl _) _ _ _ _⟩;rw [F.out]
set_option maxHeartbeats 4000000 in
theorem A9 (s : ByteArray) (h1 : 1 <= s.size) (hm : s.size <= 281474976710656) (w : World) : Calls Tryz.prog 131 #[.string s] w fun e w' => e = .returned (sC s.data.toList (nI s.data.toList)) /\ Below w.heap.size w w' := by
 obtain ⟨n, hn⟩ : ∃ n, rT s.data.toList = n := ⟨_, rfl⟩;have hle : n <= s.size := by rw [<- hn]; have := Cd s.data.toList; simpa using this
 have C := aA (p := ∀ w, Calls Tryz.prog 164 #[.string s] w fun e w' => e = .returned (.int .i64 (n : Int)) /\ w = w') (fun w => by have := DZ s h1 w; rwa [hn] at this);unfold nI;rw [hn];clear hn
 by_cases h8 : n = 0
 · rw [if_pos h8]
   unfold sC;have q : ((n : Int) == 0) = true := by rw [h8]; rfl
   clear h8
   go_enter Tryz.func131, Tryz.ntmps131
   go_wp2_with (go_at_call 164; refine (C.out _).mono ?_; rintro e w' ⟨rfl, rfl⟩)
   refine bodyPost_ret (v := .tuple #[tkV 0 ⟨#[]⟩ 0 0, .int .i64 2]) (by simp [results, Tryz.results131, go_sem]) rfl ⟨rfl, ?_⟩;exact (Below.refl _ _).alloc (Nat.le_refl _) _
 · rw [if_neg h8]
   have q : ((n : Int) == 0) = false := by rw [beq_eq_false_iff_ne]; omega
   clear h8;have T := aA (fun w => fY 3 (s.extract 0 n) (by rw [ByteArray.size_extract]; omega) w);have F := aA (sT s n);unfold sC
   go_enter Tryz.func131, Tryz.ntmps131
   go_wp2_with (go_at_call 164; refine (C.out _).mono ?_; rintro e w' ⟨rfl, rfl⟩)
   refine (T.out _).mono ?_;rintro e w1 ⟨rfl, hb⟩;have hB := (hb.block w.heap.size (by simp)).trans (heap_alloc_new w _);have B1 := aA (show Below w.heap.size w w1 from ((Below.refl _ w).alloc (Nat.le_refl _) _).trans (hb.mono (by simp)));obtain ⟨⟨k0, k1, k2, k3⟩, g0, g1, g2, g3⟩ := aK hB;have c0 := aA hB;clear hb hB
   go_wp2_with fail
   obtain ⟨⟨d0, d1, d2, d3⟩, -⟩ := aK (aS c0.out (.int .i64 3) (.string (s.extract 0 n)) (.int .i64 0) (.int .i64 0));refine bodyPost_ret (v := .tuple #[tkV 3 (s.extract 0 n) 0 0, .int .i64 0]) (by simp [results, Tryz.results131, go_sem, d0, d1, d2, d3]) rfl ⟨?_, bO B1.out (Nat.le_refl _) _ _ _ _⟩;rw [F.out]
end
end
end Go.Proofs.YtapcjnoaofmmiaaGreatDoor
