/-
  No statement: what these walks need, of earlier texts: Base, LNum, SParts, LMath, EMath, LSmall, LTok, App, AppM, JAppM, EParse, LMem, EMem, EGood, LRef, ERead, ERun, GSmall, GRead, GRow, GPush, GJoin, EName, GName, EBack, EFac, LRTokA, EOf, GOf.
-/
import Derived.WalkKit
import Derived.WalkSpells
import Derived.Lib.Hide
import Derived.Deep.Draws
import Derived.Sort.Walk0
import Derived.Lib.ParseIntB
import Derived.Lib.AtoiErrMem
import Derived.Lib.AppendIntMem
import Derived.Test.YtcmcnmmhkpolcaaShelf
import Derived.Test.YtcmcnmmhkpolcaaProg
import Derived.IntWalk
import Derived.LoopTactic
import Derived.StillTailTactics
import Derived.Deep.QuietTactic
import Derived.BigQuiet
import Derived.RangeFuncRecord
import Derived.ArgAppend
import Derived.OwnWalk
import Derived.BigRegion
import Derived.Deep.Cut
import Derived.Deep.RegionLaw
import Derived.Deep.RegionHeld3
import Derived.Shelf.Spec.SearchS
import Derived.Lib.AppendZerosOnto
import Derived.Lib.SliceRun
import Derived.Laws.IdiomStrings
import Derived.Lib.OwnBridge
import Derived.Lib.SlicesCompact
import Derived.Sort.OwnSorted
namespace Go.Proofs.Ytcmcnmmhkpolcaa
section
open Go.RowKit

/-- w' is w but for new blocks and the blocks in S. -/
structure Kept (S : Nat → Prop) (w w' : World) : Prop where
  os : w'.os = w.os
  tape : w'.tape = w.tape
  output : w'.output = w.output
  size : w.heap.size ≤ w'.heap.size
  block : ∀ k, k < w.heap.size → ¬ S k → w'.heap[k]? = w.heap[k]?

theorem Kept.refl (S : Nat → Prop) (w : World) : Kept S w w := ⟨rfl, rfl, rfl, Nat.le_refl _, fun _ _ _ => rfl⟩

theorem Kept.trans {S T : Nat → Prop} {a b c : World} (h : Kept S a b) (k : Kept T b c) (hT : ∀ i, T i → i < a.heap.size → S i) : Kept S a c :=
  ⟨k.os.trans h.os, k.tape.trans h.tape, k.output.trans h.output, Nat.le_trans h.size k.size, fun i hi hS =>
    (k.block i (Nat.lt_of_lt_of_le hi h.size) (fun ht => hS (hT i ht hi))).trans (h.block i hi hS)⟩

theorem Kept.mono {S T : Nat → Prop} {a b : World} (h : Kept S a b) (hT : ∀ i, S i → i < a.heap.size → T i) : Kept T a b :=
  ⟨h.os, h.tape, h.output, h.size, fun i hi hS => h.block i hi (fun hs => hS (hT i hs hi))⟩

theorem Kept.alloc {S : Nat → Prop} {a w : World} (h : Kept S a w) (o : Obj) : Kept S a (w.alloc o) :=
  h.trans (T := S) ⟨rfl, rfl, rfl, by simp, fun k hk _ => Below.heap_alloc _ _ _ hk⟩ (fun _ hs _ => hs)

theorem Kept.drew {S : Nat → Prop} {a w : World} (h : Kept S a w) : Kept S a w.drew := ⟨h.os, h.tape, h.output, h.size, h.block⟩

theorem Kept.drewN {S : Nat → Prop} {a w : World} (h : Kept S a w) (n : Nat) : Kept S a (w.drewN n) := ⟨h.os, h.tape, h.output, h.size, h.block⟩

theorem Kept.setCell {S : Nat → Prop} {a w : World} (h : Kept S a w) {p : Addr} (hp : S p.block ∨ a.heap.size ≤ p.block) (u : Value) : Kept S a (w.setCell p u) :=
  h.trans (T := fun i => i = p.block) ⟨rfl, rfl, rfl, by simp [World.setCell], fun k _ hk => Below.heap_setCell _ _ _ _ hk⟩
    (fun i hi hl => by subst hi; rcases hp with hp | hp; exact hp; omega)

theorem Kept.grown {S : Nat → Prop} {a w w' : World} {row : Option Nat} (h : Kept S a w) (hg : w.grownBy w' row) (hr : ∀ k, row = some k → S k ∨ a.heap.size ≤ k) : Kept S a w' :=
  h.trans (T := fun i => row = some i) ⟨hg.os, hg.tape, hg.output, hg.size, fun k hk hne => hg.block k hk (fun e => hne e.symm)⟩
    (fun i hi hl => by rcases hr i hi with hp | hp; exact hp; omega)

theorem Kept.below {S : Nat → Prop} {B : Nat} {w w' : World} (h : Kept S w w') (hS : ∀ k, S k → B ≤ k) (hB : B ≤ w.heap.size) : Below B w w' :=
  ⟨h.os, h.tape, h.output, h.size, fun k hk => h.block k (by omega) (fun hs => by have := hS k hs; omega)⟩

theorem Kept.heap {S : Nat → Prop} {w w' : World} {k : Nat} {o : Obj} (h : Kept S w w') (hk : w.heap[k]? = some o) (hS : ¬ S k) : w'.heap[k]? = some o :=
  (h.block k (lt_of_block hk) hS).trans hk

theorem Kept.cell {S : Nat → Prop} {w w' : World} {a : Addr} {v : Value} (h : Kept S w w') (hk : w.cell? a = some v) (hS : ¬ S a.block) : w'.cell? a = some v :=
  (World.cell?_of_block (h.block a.block (World.block_lt_of_cell? w a hk) hS)).trans hk

theorem Kept.owns {S : Nat → Prop} {w w' : World} {base : Nat} {e : TypeId} {size : Nat} {v : Value} {n : Nat} {xs : List Value} (h : Kept S w w') (ho : w.ownsRow base e size v n xs)
    (hS : ∀ b, v.ownBlock = some b → ¬ S b) : w'.ownsRow base e size v n xs := by
  refine ⟨ho.1, ?_⟩
  rcases ho.2 with hn | ⟨g, cap, cur, rfl, hb, hgg, rest⟩
  · exact .inl hn
  · exact .inr ⟨g, cap, cur, rfl, hb, h.heap hgg (hS g (by simp [Value.ownBlock])), rest⟩

theorem owns_len {w : World} {e : TypeId} {v : Value} {n : Nat} {xs : List Value} (h : w.ownsRow 0 e 1 v n xs) : xs.length = n := by rw [h.1, Nat.mul_one]

theorem owns_cell {w : World} {e : TypeId} {g n : Nat} {cur : Array Value} {xs : List Value} (hg : w.heap[g]? = some (.cells cur e (0, 0))) (ht : cur.toList.take n = xs) {j : Nat} {v : Value} (hj : xs[j]? = some v) : w.cell? ⟨g, j, none⟩ = some v := by
  rw [cell_of_row w g j cur e (0, 0) hg]
  rw [← ht, List.getElem?_take] at hj
  split at hj
  · simpa using hj
  · cases hj

theorem grownBy_of_kept {S : Nat → Prop} {w w' : World} {row : Option Nat} (h : Kept S w w') (hS : ∀ k, S k → row = some k) : w.grownBy w' row :=
  ⟨h.os, h.tape, h.output, h.size, fun k hk hne => h.block k hk (fun hs => hne (hS k hs).symm)⟩

theorem text_eq {x y : ByteArray} (h : x.data.toList = y.data.toList) : x = y := by
  cases x; cases y; simp only [ByteArray.mk.injEq]; exact Array.toList_inj.1 h

end

section
open Go.RowKit

/-- Within 64 bits. -/
def In64 (a : Int) : Prop := -9223372036854775808 ≤ a ∧ a ≤ 9223372036854775807

end

section
open Go.RowKit

def smallB (c : UInt8) : Bool := decide (97 ≤ (c.toNat : Int)) && decide ((c.toNat : Int) ≤ 122)

def digitB (c : UInt8) : Bool := decide (48 ≤ (c.toNat : Int)) && decide ((c.toNat : Int) ≤ 57)

def alnumB (c : UInt8) : Bool := smallB c || digitB c

/-- A name: small letters and digits, the first a letter, eight at most. -/
def goodB : List UInt8 → Bool
  | [] => false
  | c :: r => smallB c && decide (r.length ≤ 7) && r.all alnumB

/-- The parts of a text, a stroke between two. -/
def segs : List UInt8 → List (List UInt8)
  | [] => [[]]
  | c :: r => if c = 47 then [] :: segs r else ((c :: (segs r).head!) :: (segs r).tail)

/-- Is what is left a path's, p parts being told? -/
def nodeFrom (l : List UInt8) (p : Nat) : Bool :=
  match l with
  | [] => decide (0 < p)
  | c :: r => decide (c = 47) && (segs r).all goodB && decide ((segs r).length + p ≤ 4)

/-- A path, and not the root. -/
def nodeB (l : List UInt8) : Bool := nodeFrom l 0

theorem good_cons (c : UInt8) (r : List UInt8) : goodB (c :: r) = (smallB c && decide (r.length ≤ 7) && r.all alnumB) := rfl

theorem node_cons (c : UInt8) (r : List UInt8) (p : Nat) : nodeFrom (c :: r) p = (decide (c = 47) && (segs r).all goodB && decide ((segs r).length + p ≤ 4)) := rfl

theorem segs_ne (l : List UInt8) : segs l ≠ [] := by
  cases l with
  | nil => simp [segs]
  | cons c r => unfold segs; split <;> simp

theorem segs_eq (l : List UInt8) : ∃ a q, segs l = a :: q := by
  cases h : segs l with
  | nil => exact absurd h (segs_ne l)
  | cons a q => exact ⟨a, q, rfl⟩

theorem segs_stroke (q : List UInt8) : segs (47 :: q) = [] :: segs q := by simp [segs]

theorem segs_sign {c : UInt8} (h : ¬ c = 47) (q : List UInt8) {a : List UInt8} {b : List (List UInt8)} (e : segs q = a :: b) : segs (c :: q) = (c :: a) :: b := by
  rw [segs, if_neg h, e]; rfl

theorem toList_extract (s : ByteArray) (n : Nat) : (s.extract n s.size).data.toList = s.data.toList.drop n := by
  simp only [ByteArray.data_extract, Array.toList_extract, List.extract]
  exact List.take_of_length_le (by simp)

end

section
open Go.RowKit

/-- A token as plain data. -/
structure Tk where
  kind : Int
  text : List UInt8
  num : Int
  place : Nat

instance : Inhabited Tk := ⟨⟨0, [], 0, 0⟩⟩

end

section
open Go.RowKit

/-- A row of trees: the first one's Op, Name, N and kids, and the rest. -/
inductive F where
  | nil : F
  | cons (op nm : ByteArray) (n : Int) (ks rest : F) : F

def F.len : F → Nat
  | .nil => 0
  | .cons _ _ _ _ r => r.len + 1

/-- A tree. -/
structure TN where
  op : ByteArray
  nm : ByteArray
  n : Int
  ks : F

def TN.f (t : TN) : F := .cons t.op t.nm t.n t.ks .nil

/-- The tree at a place of a row. -/
def F.at : F → Nat → Option TN
  | .nil, _ => none
  | .cons o m n k _, 0 => some ⟨o, m, n, k⟩
  | .cons _ _ _ _ r, j + 1 => r.at j

/-- The row from a place on. -/
def F.drop : F → Nat → F
  | f, 0 => f
  | .nil, _ + 1 => .nil
  | .cons _ _ _ _ r, j + 1 => r.drop j

theorem F.drop_zero (f : F) : f.drop 0 = f := by cases f <;> rfl

theorem F.drop_at : ∀ (f : F) (j : Nat), j < f.len → ∃ t, f.at j = some t ∧ f.drop j = .cons t.op t.nm t.n t.ks (f.drop (j + 1))
  | .nil, _, h => by simp [F.len] at h
  | .cons o m n k r, 0, _ => ⟨⟨o, m, n, k⟩, rfl, by rw [F.drop_zero, F.drop, F.drop_zero]⟩
  | .cons o m n k r, j + 1, h => by
    obtain ⟨t, h1, h2⟩ := F.drop_at r j (by simp [F.len] at h; omega)
    exact ⟨t, h1, h2⟩

theorem F.drop_len : ∀ (f : F) (j : Nat), f.len ≤ j → f.drop j = .nil
  | .nil, 0, _ => rfl
  | .nil, _ + 1, _ => rfl
  | .cons o m n k r, 0, h => by simp [F.len] at h
  | .cons o m n k r, j + 1, h => F.drop_len r j (by simp [F.len] at h; omega)

def bNum : List UInt8 := [110, 117, 109]

def bName : List UInt8 := [110, 97, 109, 101]

def bNeg : List UInt8 := [110, 101, 103]

def isNum (o : ByteArray) : Bool := o.data.toList == bNum

def isName (o : ByteArray) : Bool := o.data.toList == bName

def isNeg (o : ByteArray) : Bool := o.data.toList == bNeg

def isTwo (o : ByteArray) : Bool := o.data.toList == [43] || o.data.toList == [45] || o.data.toList == [42] || o.data.toList == [47] || o.data.toList == [37]

/-- How many kids an Op has. -/
def arity (o : ByteArray) : Int := if isNum o || isName o then 0 else if isNeg o then 1 else if isTwo o then 2 else -1

/-- The count of nodes that are left over behind a row. -/
def cntF : F → Int → Int
  | .nil, l => l
  | .cons _ _ _ ks r, l => if l < 0 then l else cntF r (cntF ks (l - 1))

/-- What is wrong with a node itself. -/
def errN (o m : ByteArray) (n : Int) (k : Nat) : Int :=
  if (arity o != (k : Int)) = true then 2 else if (isName o && !goodB m.data.toList) = true then 5 else if (isNum o && decide (n < 0)) = true then 1 else 0

def chkF : F → Int
  | .nil => 0
  | .cons o m n ks r => if errN o m n ks.len = 0 then (if chkF ks = 0 then chkF r else chkF ks) else errN o m n ks.len

/-- What is wrong with a tree; 0: nothing. -/
def checkT (t : TN) : Int := if cntF t.ks 31 < 0 then 4 else chkF t.f

theorem chk_tree (t : TN) : chkF t.f = if errN t.op t.nm t.n t.ks.len = 0 then chkF t.ks else errN t.op t.nm t.n t.ks.len := by
  unfold TN.f
  rw [chkF]
  by_cases h : chkF t.ks = 0
  · rw [if_pos h, h]; rfl
  · rw [if_neg h]

end

section
open Go.RowKit

theorem ret_b {a b : Bool} (h : a = b) : Ending.returned (.bool a) = .returned (.bool b) := by rw [h]

end

section
open Go.RowKit

theorem four {W : World} {B : Nat} {x0 x1 x2 x3 : Value} {t : TypeId} (h : W.heap[B]? = some (.cells #[x0, x1, x2, x3] t (0, 0))) :
    (W.cell? ⟨B, 0, none⟩ = some x0 ∧ W.cell? ⟨B, 1, none⟩ = some x1 ∧ W.cell? ⟨B, 2, none⟩ = some x2 ∧ W.cell? ⟨B, 3, none⟩ = some x3) ∧
    (W.frozen? ⟨B, 0, none⟩ = false ∧ W.frozen? ⟨B, 1, none⟩ = false ∧ W.frozen? ⟨B, 2, none⟩ = false ∧ W.frozen? ⟨B, 3, none⟩ = false) := by
  refine ⟨⟨?_, ?_, ?_, ?_⟩, ?_, ?_, ?_, ?_⟩ <;> simp [World.cell?, World.frozen?, h]

theorem set_block (W : World) (B o : Nat) (cur : Array Value) (t : TypeId) (v : Value) (h : W.heap[B]? = some (.cells cur t (0, 0))) : (W.setCell ⟨B, o, none⟩ v).heap[B]? = some (.cells (cur.setIfInBounds o v) t (0, 0)) :=
  heap_setCell_same W B o cur t v h

theorem four_set {W : World} {B : Nat} {x0 x1 x2 x3 : Value} {t : TypeId} (h : W.heap[B]? = some (.cells #[x0, x1, x2, x3] t (0, 0))) (v0 v1 v2 v3 : Value) :
    ((((W.setCell ⟨B, 0, none⟩ v0).setCell ⟨B, 1, none⟩ v1).setCell ⟨B, 2, none⟩ v2).setCell ⟨B, 3, none⟩ v3).heap[B]? = some (.cells #[v0, v1, v2, v3] t (0, 0)) := by
  have := set_block _ B 3 _ t v3 (set_block _ B 2 _ t v2 (set_block _ B 1 _ t v1 (set_block W B 0 _ t v0 h)))
  simpa using this

theorem lt_block {w : World} {k : Nat} {o : Obj} (h : w.heap[k]? = some o) : k < w.heap.size := (Array.getElem?_eq_some_iff.1 h).1

end

section
open Go.RowKit

/-- What append takes its new elements from: nothing, or cells that lie one behind the other. -/
def From (w : World) (u : Value) (m : Nat) (news : List Value) : Prop :=
  (u = .slice none 0 0 ∧ m = 0 ∧ news = []) ∨ ∃ a c, u = .slice (some a) m c ∧ news.length = m ∧ ∀ j x, news[j]? = some x → w.cell? (a.add j) = some x

theorem From.kept {w w' : World} {u : Value} {m : Nat} {news : List Value} {S : Nat → Prop} (h : From w u m news) (hk : Kept S w w') (hS : ∀ a n c, u = .slice (some a) n c → ¬ S a.block) : From w' u m news := by
  rcases h with h | ⟨a, c, e, hl, hn⟩
  · exact Or.inl h
  · refine Or.inr ⟨a, c, e, hl, fun j x hj => hk.cell (hn j x hj) ?_⟩
    have : (a.add j).block = a.block := by unfold Addr.add; split <;> rfl
    rw [this]
    exact hS a m c e

variable {P : Program}

/-- The append itself: it owns what both held, in blocks from base on. -/
theorem run_append_from {w : World} {base : Nat} {t ty e : TypeId} {i : TypeInfo} {z : Value} {bytes : Nat} (ht : P.underlying t = some (.slice e)) (hi : P.info? e = some i) (hz : i.zero = some z) (hsize : i.size = 1) (hby : i.bytes = bytes) (hzs : z.cells.size = 1)
    {v u : Value} {n m : Nat} {xs news : List Value} (hown : w.ownsRow base e 1 v n xs) (hfrom : From w u m news) (h1 : ∀ x ∈ news, x.oneCell' = true) (h63 : n + m ≤ maxLen) (hbytes : (n + m) * bytes ≤ 140737488355328) (hbase : base ≤ w.heap.size) :
    ∃ v' w', (Builtin.append_ #[t, t] ty #[v, u]).run P w = .ok v' w' ∧ w'.ownsRow base e 1 v' (n + m) (xs ++ news) ∧ w.grownBy w' v.ownBlock ∧ (v ≠ .slice none 0 0 → v' ≠ .slice none 0 0) := by
  rcases hfrom with ⟨rfl, rfl, rfl⟩ | ⟨a, c, rfl, hl, hn⟩
  · have hr := run_append_owned_none (P := P) w base t ty e i 1 ht hi v n xs hown
    exact ⟨v, w, hr, by simpa using hown, World.grownBy.refl w _, fun h => h⟩
  · obtain ⟨v', w', hr, ho, hg, hiff⟩ := run_append_own (P := P) w base t ty e i z 1 bytes ht hi hz hsize hby hzs (by omega) v n xs hown a m c news (by rw [Nat.mul_one]; exact hl) hn h1 h63 hbytes hbase
    exact ⟨v', w', hr, ho, hg, fun h h' => h (hiff.1 h').1⟩

theorem wpList_append_from {ops : Array Oper} {rest : List Oper} {o : Oper} {a : Act} {w : World} {Q : Exit → Act → World → Prop}
    (hgd : o.guard = none) (s x : Operand) (t : TypeId) (hop : o.op = Op.call { callee := Callee.builtin Builtin.append, args := #[s, x], argTypes := #[t, t] })
    {base : Nat} {e : TypeId} {i : TypeInfo} {z : Value} {bytes : Nat} (ht : P.underlying t = some (.slice e)) (hi : P.info? e = some i) (hz : i.zero = some z) (hsize : i.size = 1) (hby : i.bytes = bytes) (hzs : z.cells.size = 1)
    (v u : Value) (n m : Nat) (xs news : List Value) (hs : a.eval s = v) (hx : a.eval x = u) (hown : w.ownsRow base e 1 v n xs) (hfrom : From w u m news) (h1 : ∀ x ∈ news, x.oneCell' = true) (h63 : n + m ≤ maxLen) (hbytes : (n + m) * bytes ≤ 140737488355328) (hbase : base ≤ w.heap.size)
    (hK : ∀ v' w', w'.ownsRow base e 1 v' (n + m) (xs ++ news) → w.grownBy w' v.ownBlock → (v ≠ .slice none 0 0 → v' ≠ .slice none 0 0) → wpList P ops Q rest (a.put o.dst v') w') :
    wpList P ops Q (o :: rest) a w := by
  refine wpList_plain hgd fun K hK' => ?_
  obtain ⟨v', w', hr, ho, hgr, hnn⟩ := run_append_from (P := P) (ty := o.type) ht hi hz hsize hby hzs hown hfrom h1 h63 hbytes hbase
  unfold Oper.wp
  simp [execOp, hop, resolve, invoke, builtin, hs, hx, hr, Result.andThen]
  exact hK' _ _ (hK _ _ ho hgr hnn)

theorem ownsDrew {w : World} {base : Nat} {e : TypeId} {size : Nat} {v : Value} {n : Nat} {xs : List Value} (h : w.ownsRow base e size v n xs) : w.drew.ownsRow base e size v n xs := h

end

section
open Go.RowKit

section

variable {P : Program}

theorem step_append_one {ops : Array Oper} {o : Oper} {a : Act} {w : World} {K : Act → World → Prop} {Q : Exit → Act → World → Prop} {E : Prop}
    (hg : o.guard = none) (s x : Operand) (t : TypeId) (hop : o.op = Op.call { callee := Callee.builtin Builtin.append, args := #[s, x], argTypes := #[t, t] })
    {base size : Nat} {e : TypeId} {i : TypeInfo} {z : Value} {bytes : Nat} (ht : P.underlying t = some (.slice e)) (hi : P.info? e = some i) (hz : i.zero = some z) (hsize : i.size = size) (hby : i.bytes = bytes) (hzs : z.cells.size = size) (hpos : 0 < size)
    (v : Value) (n : Nat) (xs news : List Value) (b : Addr) (c : Nat) (hs : a.eval s = v) (hx : a.eval x = .slice (some b) 1 c) (hown : w.ownsRow base e size v n xs) (hl : news.length = size) (hn : ∀ j u, news[j]? = some u → w.cell? (b.add j) = some u) (h1 : ∀ u ∈ news, u.oneCell' = true)
    (h63 : n + 1 ≤ maxLen) (hbytes : (n + 1) * bytes ≤ 140737488355328) (hbase : base ≤ w.heap.size)
    (hK : ∀ v' w', w'.ownsRow base e size v' (n + 1) (xs ++ news) → w.grownBy w' v.ownBlock → K (a.put o.dst v') w') :
    if Region.wanted o (yielded ops a.tmps) = true then Oper.wp P o a w K Q else E := by
  have hw : Region.wanted o (yielded ops a.tmps) = true := by simp [Region.wanted, hg]
  rw [if_pos hw]
  obtain ⟨v', w', hr, ho, hgr, _⟩ := run_append_own (P := P) w base t o.type e i z size bytes ht hi hz hsize hby hzs hpos v n xs hown b 1 c news (by rw [Nat.one_mul]; exact hl) hn h1 h63 hbytes hbase
  unfold Oper.wp
  simp [execOp, hop, resolve, invoke, builtin, hs, hx, hr, Result.andThen]
  exact hK _ _ ho hgr

end

/-- An owned slice is as it was behind a call that makes memory. -/
theorem owns_below {w w' : World} {base : Nat} {e : TypeId} {size : Nat} {v : Value} {n : Nat} {xs : List Value} (h : w.ownsRow base e size v n xs) (hb : Below w.heap.size w w') : w'.ownsRow base e size v n xs :=
  World.ownsRow.kept (row := none) h ⟨hb.os, hb.tape, hb.output, hb.size, fun k hk _ => hb.block k hk⟩ (by cases v.ownBlock <;> simp)

/-- A cell of an owned slice. -/
theorem owns_at {w : World} {base : Nat} {e : TypeId} {size : Nat} {a : Addr} {n c j : Nat} {xs : List Value} {u : Value} (h : w.ownsRow base e size (.slice (some a) n c) n xs) (hj : xs[j]? = some u) : ∃ g, a = ⟨g, 0, none⟩ ∧ w.cell? ⟨g, j, none⟩ = some u := by
  rcases h.2 with ⟨h, _⟩ | ⟨g, cap, cur, hv, _, hg, _, _, _, ht⟩
  · cases h
  · simp only [Value.slice.injEq, Option.some.injEq] at hv
    obtain ⟨rfl, _, _⟩ := hv
    refine ⟨g, rfl, ?_⟩
    rw [cell_of_row w g j cur e (0, 0) hg]
    rw [← ht, List.getElem?_take] at hj
    split at hj
    · simpa using hj
    · cases hj

end

section
open Go.RowKit

theorem owns_mono {w : World} {B C : Nat} {e : TypeId} {size : Nat} {v : Value} {n : Nat} {xs : List Value} (h : w.ownsRow B e size v n xs) (hc : C ≤ B) : w.ownsRow C e size v n xs := by
  refine ⟨h.1, ?_⟩
  rcases h.2 with h1 | ⟨g, cap, cur, h1, hb, rest⟩
  · exact .inl h1
  · exact .inr ⟨g, cap, cur, h1, by omega, rest⟩

theorem own_rowG {w : World} {B m size : Nat} {e : TypeId} {v : Value} {xs : List Value} (h : w.ownsRow B e size v m xs) : ∃ a c, v = .slice a m c := by
  rcases h.2 with ⟨rfl, h0⟩ | ⟨g, cap, _, rfl, _⟩
  · rw [h0]; exact ⟨_, _, rfl⟩
  · exact ⟨_, _, rfl⟩

theorem grown_any {w w' : World} {row : Option Nat} (h : w.grownBy w' none) : w.grownBy w' row := ⟨h.os, h.tape, h.output, h.size, fun k hk _ => h.block k hk (by simp)⟩

variable {P : Program}

theorem run_append_new {w : World} {base size : Nat} {t ty e : TypeId} {i : TypeInfo} {z : Value} {bytes : Nat} (ht : P.underlying t = some (.slice e)) (hi : P.info? e = some i) (hz : i.zero = some z) (hsize : i.size = size) (hby : i.bytes = bytes) (hzs : z.cells.size = size) (hpos : 0 < size)
    {v : Value} {n m c : Nat} {a : Addr} {xs news : List Value} (hown : w.ownsRow base e size v n xs) (hl : news.length = m * size) (hn : ∀ j u, news[j]? = some u → w.cell? (a.add j) = some u) (h1 : ∀ x ∈ news, x.oneCell' = true) (h63 : n + m ≤ maxLen) (hbytes : (n + m) * bytes ≤ 140737488355328) (hbase : base ≤ w.heap.size) :
    ∃ v' w', (Builtin.append_ #[t, t] ty #[v, .slice (some a) m c]).run P w = .ok v' w' ∧ w'.ownsRow base e size v' (n + m) (xs ++ news) ∧ w.grownBy w' v.ownBlock ∧ ∀ q, v'.ownBlock = some q → v.ownBlock = some q ∨ w.heap.size ≤ q := by
  rcases hown.2 with ⟨rfl, rfl⟩ | ⟨g, cap, cur, rfl, hbg, hg, hnc, hcm, hcs, htake⟩
  · have hx : xs = [] := List.eq_nil_of_length_eq_zero (by simpa using hown.1)
    subst hx
    obtain ⟨v', w', hr, r1, r2, _⟩ := run_append_own (P := P) w w.heap.size t ty e i z size bytes ht hi hz hsize hby hzs hpos (.slice none 0 0) 0 [] (World.ownsRow_nil w _ e size) a m c news hl hn h1 h63 hbytes (Nat.le_refl _)
    exact ⟨v', w', hr, owns_mono r1 hbase, r2, fun q hq => .inr (r1.lt q hq).1⟩
  · by_cases hroom : n + m ≤ cap
    · obtain ⟨w', hr, r1, r2⟩ := run_append_fits (P := P) w base t ty e i size ht hi hsize g n cap xs hown a m c news hl hn h1 hroom
      exact ⟨_, w', hr, r1, r2, fun q hq => .inl hq⟩
    · have ho : ∀ j u, xs[j]? = some u → w.cell? ((⟨g, 0, none⟩ : Addr).add j) = some u := fun j u hj => by
        rw [Addr.add_lit, Nat.zero_add]
        obtain ⟨g', h1, h2⟩ := owns_at hown hj
        simp only [Addr.mk.injEq, and_true] at h1
        subst h1
        exact h2
      obtain ⟨v', w', hr, r1, r2⟩ := run_append_arg_grows (P := P) w t ty e i z size bytes ht hi hz hsize hby hzs hpos ⟨g, 0, none⟩ n cap xs hown.1 ho a m c news hl hn (by omega) h63 hbytes
      exact ⟨v', w', hr, owns_mono r1 hbase, grown_any r2, fun q hq => .inr (r1.lt q hq).1⟩

theorem wpList_append_new {ops : Array Oper} {rest : List Oper} {o : Oper} {a : Act} {w : World} {Q : Exit → Act → World → Prop}
    (hgd : o.guard = none) (s x : Operand) (t : TypeId) (hop : o.op = Op.call { callee := Callee.builtin Builtin.append, args := #[s, x], argTypes := #[t, t] })
    {base size : Nat} {e : TypeId} {i : TypeInfo} {z : Value} {bytes : Nat} (ht : P.underlying t = some (.slice e)) (hi : P.info? e = some i) (hz : i.zero = some z) (hsize : i.size = size) (hby : i.bytes = bytes) (hzs : z.cells.size = size) (hpos : 0 < size)
    (v : Value) (n m c : Nat) (ad : Addr) (xs news : List Value) (hs : a.eval s = v) (hx : a.eval x = .slice (some ad) m c) (hown : w.ownsRow base e size v n xs) (hl : news.length = m * size) (hn : ∀ j u, news[j]? = some u → w.cell? (ad.add j) = some u) (h1 : ∀ x ∈ news, x.oneCell' = true) (h63 : n + m ≤ maxLen) (hbytes : (n + m) * bytes ≤ 140737488355328) (hbase : base ≤ w.heap.size)
    (hK : ∀ v' w', w'.ownsRow base e size v' (n + m) (xs ++ news) → w.grownBy w' v.ownBlock → (∀ q, v'.ownBlock = some q → v.ownBlock = some q ∨ w.heap.size ≤ q) → wpList P ops Q rest (a.put o.dst v') w') :
    wpList P ops Q (o :: rest) a w := by
  refine wpList_plain hgd fun K hK' => ?_
  obtain ⟨v', w', hr, ho, hgr, hq⟩ := run_append_new (P := P) (ty := o.type) (c := c) ht hi hz hsize hby hzs hpos hown hl hn h1 h63 hbytes hbase
  unfold Oper.wp
  simp [execOp, hop, resolve, invoke, builtin, hs, hx, hr, Result.andThen]
  exact hK' _ _ (hK _ _ ho hgr hq)

end

section
open Go.RowKit

/-- A reader: where it stands, how many nodes were made, the first error, its place. -/
structure RS where
  pos : Nat
  cnt : Nat
  bad : Int
  whr : Nat

/-- Is that sign at that place? -/
def isS (L : List Tk) (x : List UInt8) (p : Nat) : Bool := match L[p]? with
  | some t => t.kind == 3 && t.text == x
  | none => false

def isM (L : List Tk) (p : Nat) : Bool := isS L [42] p || isS L [47] p || isS L [37] p

def isA (L : List Tk) (p : Nat) : Bool := isS L [43] p || isS L [45] p

def opAt (L : List Tk) (p : Nat) : List UInt8 := match L[p]? with
  | some t => t.text
  | none => []

def numT (v : Int) : TN := ⟨⟨#[110, 117, 109]⟩, ⟨#[]⟩, v, .nil⟩

def nameT (x : List UInt8) : TN := ⟨⟨#[110, 97, 109, 101]⟩, ⟨x.toArray⟩, 0, .nil⟩

def negT (k : TN) : TN := ⟨⟨#[110, 101, 103]⟩, ⟨#[]⟩, 0, k.f⟩

def twoT (o : List UInt8) (a b : TN) : TN := ⟨⟨o.toArray⟩, ⟨#[]⟩, 0, .cons a.op a.nm a.n a.ks b.f⟩

/-- What is read: a factor; a product, a sum, and each from behind its first part on. -/
inductive Md | fac | prod | sum | prodL (n : TN) | sumL (n : TN)

/-- What Of answers: a tree and the place behind, or an error and its place. -/
inductive OfEnd | bad (p : Nat) (e : Int) | ok (t : TN) (p : Nat)

end

section
open Go.RowKit

/-- Tokens lie one behind the other. -/
def ReadsT (w : World) (a : Option Addr) (ts : List Tk) : Prop :=
  ts = [] ∨ ∃ b off, a = some ⟨b, off, none⟩ ∧ b < w.heap.size ∧ ∀ j (h : j < ts.length), w.cell? ⟨b, off + j * 4, none⟩ = some (.int .i64 ts[j].kind) ∧ w.cell? ⟨b, off + j * 4 + 1, none⟩ = some (.string ⟨ts[j].text.toArray⟩) ∧
    w.cell? ⟨b, off + j * 4 + 2, none⟩ = some (.int .i64 ts[j].num) ∧ w.cell? ⟨b, off + j * 4 + 3, none⟩ = some (.int .i64 ts[j].place)

theorem ReadsT.kept {w w' : World} {a : Option Addr} {ts : List Tk} (h : ReadsT w a ts) (hb : Below w.heap.size w w') : ReadsT w' a ts := by
  rcases h with h | ⟨b, off, rfl, hlt, hc⟩
  · exact .inl h
  · refine .inr ⟨b, off, rfl, Nat.lt_of_lt_of_le hlt hb.size, fun j hj => ?_⟩
    obtain ⟨c0, c1, c2, c3⟩ := hc j hj
    exact ⟨(hb.cell (p := ⟨b, _, none⟩) hlt).trans c0, (hb.cell (p := ⟨b, _, none⟩) hlt).trans c1, (hb.cell (p := ⟨b, _, none⟩) hlt).trans c2, (hb.cell (p := ⟨b, _, none⟩) hlt).trans c3⟩

end

section
open Go.RowKit

/-- Rows of trees in memory, one node behind the other in four cells, in blocks that G allows. -/
def ReadsF (G : Nat → Prop) (w : World) : F → Nat → Nat → Prop
  | .nil, _, _ => True
  | .cons o m n ks r, b, off => G b ∧ b < w.heap.size ∧ (∃ (a : Option Addr) (c : Nat), (w.cell? ⟨b, off, none⟩ = some (.string o) ∧ w.cell? ⟨b, off + 1, none⟩ = some (.string m) ∧ w.cell? ⟨b, off + 2, none⟩ = some (.int .i64 n) ∧ w.cell? ⟨b, off + 3, none⟩ = some (.slice a ks.len c)) ∧
      (ks = .nil ∨ ∃ b' off', a = some ⟨b', off', none⟩ ∧ ReadsF G w ks b' off')) ∧ ReadsF G w r b (off + 4)

/-- A row of trees that a slice holds. -/
def ReadsN (G : Nat → Prop) (w : World) (a : Option Addr) (ks : F) : Prop := ks = .nil ∨ ∃ b off, a = some ⟨b, off, none⟩ ∧ ReadsF G w ks b off

/-- The same, in blocks from lo on. -/
abbrev ReadsK (lo : Nat) (w : World) (a : Option Addr) (ks : F) : Prop := ReadsN (fun b => lo ≤ b) w a ks

/-- A tree's node as a value. -/
abbrev nodeV (o m : ByteArray) (n : Int) (a : Option Addr) (l c : Nat) : Value := .agg #[.string o, .string m, .int .i64 n, .slice a l c]

theorem ReadsF.imp {G H : Nat → Prop} {w : World} (hG : ∀ b, b < w.heap.size → G b → H b) : ∀ {f : F} {b off : Nat}, ReadsF G w f b off → ReadsF H w f b off
  | .nil, _, _, _ => trivial
  | .cons _ _ _ _ _, _, _, ⟨h1, h2, ⟨a, c, hc, hk⟩, hr⟩ => ⟨hG _ h2 h1, h2, ⟨a, c, hc, hk.imp id fun ⟨b', off', e, h⟩ => ⟨b', off', e, h.imp hG⟩⟩, hr.imp hG⟩

theorem ReadsF.keptS {S G : Nat → Prop} {w w' : World} (hk : Kept S w w') (hS : ∀ k, S k → ¬ G k) : ∀ {f : F} {b off : Nat}, ReadsF G w f b off → ReadsF G w' f b off
  | .nil, _, _, _ => trivial
  | .cons _ _ _ _ _, b, _, ⟨h1, h2, ⟨a, c, ⟨c0, c1, c2, c3⟩, hks⟩, hr⟩ => by
    have hb : ¬ S b := fun hs => hS b hs h1
    exact ⟨h1, Nat.lt_of_lt_of_le h2 hk.size, ⟨a, c, ⟨hk.cell c0 hb, hk.cell c1 hb, hk.cell c2 hb, hk.cell c3 hb⟩, hks.imp id fun ⟨b', off', e, h⟩ => ⟨b', off', e, h.keptS hk hS⟩⟩, hr.keptS hk hS⟩

theorem kept_below {w w' : World} (hb : Below w.heap.size w w') (S : Nat → Prop) : Kept S w w' := ⟨hb.os, hb.tape, hb.output, hb.size, fun k hk _ => hb.block k hk⟩

theorem ReadsF.kept {G : Nat → Prop} {w w' : World} (hb : Below w.heap.size w w') {f : F} {b off : Nat} (h : ReadsF G w f b off) : ReadsF G w' f b off :=
  h.keptS (S := fun _ => False) (kept_below hb _) (fun _ h => h.elim)

theorem ReadsN.imp {G H : Nat → Prop} {w : World} {a : Option Addr} {ks : F} (h : ReadsN G w a ks) (hG : ∀ b, b < w.heap.size → G b → H b) : ReadsN H w a ks :=
  Or.imp id (fun ⟨b, off, e, h⟩ => ⟨b, off, e, h.imp hG⟩) h

theorem ReadsN.keptS {S G : Nat → Prop} {w w' : World} {a : Option Addr} {ks : F} (h : ReadsN G w a ks) (hk : Kept S w w') (hS : ∀ k, S k → ¬ G k) : ReadsN G w' a ks :=
  Or.imp id (fun ⟨b, off, e, h⟩ => ⟨b, off, e, h.keptS hk hS⟩) h

theorem ReadsN.kept {G : Nat → Prop} {w w' : World} {a : Option Addr} {ks : F} (h : ReadsN G w a ks) (hb : Below w.heap.size w w') : ReadsN G w' a ks :=
  Or.imp id (fun ⟨b, off, e, h⟩ => ⟨b, off, e, h.kept hb⟩) h

theorem ReadsK.keptS {S : Nat → Prop} {lo : Nat} {w w' : World} {a : Option Addr} {ks : F} (h : ReadsK lo w a ks) (hk : Kept S w w') (hS : ∀ k, S k → k < lo) : ReadsK lo w' a ks :=
  ReadsN.keptS h hk (fun k hk h => by have := hS k hk; omega)

theorem ReadsK.kept {lo : Nat} {w w' : World} {a : Option Addr} {ks : F} (h : ReadsK lo w a ks) (hb : Below w.heap.size w w') : ReadsK lo w' a ks := ReadsN.kept h hb

theorem ReadsK.mono {lo lo' : Nat} {w : World} {a : Option Addr} {ks : F} (h : ReadsK lo w a ks) (hlo : lo' ≤ lo) : ReadsK lo' w a ks := ReadsN.imp h (fun _ _ h => Nat.le_trans hlo h)

/-- From a place of a row on. -/
theorem ReadsF.drop {G : Nat → Prop} {w : World} : ∀ {f : F} {b off : Nat} (j : Nat), ReadsF G w f b off → ReadsF G w (f.drop j) b (off + j * 4)
  | f, _, off, 0, h => by rw [F.drop_zero, Nat.zero_mul, Nat.add_zero]; exact h
  | .nil, _, _, _ + 1, _ => trivial
  | .cons _ _ _ _ _, _, off, j + 1, ⟨_, _, _, hr⟩ => by
    have := hr.drop j
    rw [show off + 4 + j * 4 = off + (j + 1) * 4 by omega] at this
    exact this

/-- One node in a block of its own. -/
theorem readsF_one {G : Nat → Prop} {w : World} {b : Nat} {o m : ByteArray} {n : Int} {a : Option Addr} {ks : F} {c : Nat} {t : TypeId} {f : Nat × Nat} (hG : G b) (h : w.heap[b]? = some (.cells #[.string o, .string m, .int .i64 n, .slice a ks.len c] t f)) (hk : ReadsN G w a ks) : ReadsF G w (.cons o m n ks .nil) b 0 :=
  ⟨hG, (Array.getElem?_eq_some_iff.1 h).1, ⟨a, c, ⟨by simp [World.cell?, h], by simp [World.cell?, h], by simp [World.cell?, h], by simp [World.cell?, h]⟩, hk⟩, trivial⟩

/-- Two nodes in a block of their own. -/
theorem readsF_two {G : Nat → Prop} {w : World} {b : Nat} {o m o2 m2 : ByteArray} {n n2 : Int} {a a2 : Option Addr} {ks ks2 : F} {c c2 : Nat} {t : TypeId} {f : Nat × Nat} (hG : G b)
    (h : w.heap[b]? = some (.cells #[.string o, .string m, .int .i64 n, .slice a ks.len c, .string o2, .string m2, .int .i64 n2, .slice a2 ks2.len c2] t f)) (hk : ReadsN G w a ks) (hk2 : ReadsN G w a2 ks2) : ReadsF G w (.cons o m n ks (.cons o2 m2 n2 ks2 .nil)) b 0 := by
  have hlt := (Array.getElem?_eq_some_iff.1 h).1
  exact ⟨hG, hlt, ⟨a, c, ⟨by simp [World.cell?, h], by simp [World.cell?, h], by simp [World.cell?, h], by simp [World.cell?, h]⟩, hk⟩,
    hG, hlt, ⟨a2, c2, ⟨by simp [World.cell?, h], by simp [World.cell?, h], by simp [World.cell?, h], by simp [World.cell?, h]⟩, hk2⟩, trivial⟩

end

section
open Go.RowKit

/-- How many nodes a row has. -/
def sizeF : F → Nat
  | .nil => 0
  | .cons _ _ _ ks r => 1 + sizeF ks + sizeF r

def sizeT (t : TN) : Nat := 1 + sizeF t.ks

theorem sizeF_tree (t : TN) : sizeF t.f = sizeT t := by unfold TN.f sizeT; rw [sizeF, sizeF, Nat.add_zero]

theorem cnt_le : ∀ (f : F) (l : Int), cntF f l ≤ l
  | .nil, l => Int.le_refl _
  | .cons _ _ _ ks r, l => by
    rw [cntF]
    split
    · exact Int.le_refl _
    · have := cnt_le ks (l - 1)
      have := cnt_le r (cntF ks (l - 1))
      omega

theorem cnt_size : ∀ (f : F) (l : Int), (sizeF f : Int) ≤ l → cntF f l = l - sizeF f
  | .nil, l, _ => by rw [cntF, sizeF]; omega
  | .cons _ _ _ ks r, l, h => by
    rw [sizeF] at h
    rw [cntF, if_neg (by omega), cnt_size ks (l - 1) (by omega), cnt_size r _ (by omega), sizeF]
    omega

theorem cnt_over : ∀ (f : F) (l : Int), 0 ≤ l → l < sizeF f → cntF f l < 0
  | .nil, l, h0, h => by rw [sizeF] at h; omega
  | .cons _ _ _ ks r, l, h0, h => by
    rw [sizeF] at h
    rw [cntF, if_neg (by omega)]
    by_cases h1 : (sizeF ks : Int) ≤ l - 1
    · rw [cnt_size ks _ h1]
      exact cnt_over r _ (by omega) (by omega)
    · by_cases h2 : 0 ≤ l - 1
      · have := cnt_over ks (l - 1) h2 (by omega)
        have := cnt_le r (cntF ks (l - 1))
        omega
      · have := cnt_le ks (l - 1)
        have := cnt_le r (cntF ks (l - 1))
        omega

theorem cnt_iff (t : TN) : cntF t.ks 31 < 0 ↔ 32 < sizeT t := by
  unfold sizeT
  by_cases h : (sizeF t.ks : Int) ≤ 31
  · rw [cnt_size _ _ h]; omega
  · have := cnt_over t.ks 31 (by omega) (by omega)
    omega

/-- A tree that may be, but for its count. -/
def OkT (t : TN) : Prop := chkF t.f = 0

/-- The five signs. -/
def signO (o : List UInt8) : Prop := o = [43] ∨ o = [45] ∨ o = [42] ∨ o = [47] ∨ o = [37]

/-- How far a reader comes. -/
def TopR (n p : Nat) (q : RS) : Prop := q.pos + p ≤ 2 * n + 1 ∧ q.cnt ≤ 33 ∧ (q.bad = 0 → q.pos ≤ n ∧ q.cnt ≤ 32)

theorem TopR.mono {n p p' : Nat} {q : RS} (h : TopR n p q) (hp : p' ≤ p) : TopR n p' q := ⟨by have := h.1; omega, h.2⟩

end

section
open Go.RowKit

theorem below_drewN {B : Nat} {a w : World} (h : Below B a w) (n : Nat) : Below B a (w.drewN n) := ⟨h.os, h.tape, h.output, h.size, h.block⟩

end

section
open Go.RowKit

/-- Tokens that lie below a block. -/
def TokB (lim : Nat) (w : World) (a : Option Addr) (ts : List Tk) : Prop :=
  ts = [] ∨ ∃ b off, a = some ⟨b, off, none⟩ ∧ b < lim ∧ ∀ j (h : j < ts.length), w.cell? ⟨b, off + j * 4, none⟩ = some (.int .i64 ts[j].kind) ∧ w.cell? ⟨b, off + j * 4 + 1, none⟩ = some (.string ⟨ts[j].text.toArray⟩) ∧
    w.cell? ⟨b, off + j * 4 + 2, none⟩ = some (.int .i64 ts[j].num) ∧ w.cell? ⟨b, off + j * 4 + 3, none⟩ = some (.int .i64 ts[j].place)

theorem TokB.kept {lim : Nat} {S : Nat → Prop} {w w' : World} {a : Option Addr} {ts : List Tk} (h : TokB lim w a ts) (hk : Kept S w w') (hS : ∀ k, S k → lim ≤ k) : TokB lim w' a ts := by
  rcases h with h | ⟨b, off, rfl, hlt, hc⟩
  · exact .inl h
  · have hb : ¬ S b := fun hs => by have := hS b hs; omega
    refine .inr ⟨b, off, rfl, hlt, fun j hj => ?_⟩
    obtain ⟨c0, c1, c2, c3⟩ := hc j hj
    exact ⟨hk.cell c0 hb, hk.cell c1 hb, hk.cell c2 hb, hk.cell c3 hb⟩

theorem five {w : World} {b : Nat} {v0 v1 v2 v3 v4 : Value} {t : TypeId} (h : w.heap[b]? = some (.cells #[v0, v1, v2, v3, v4] t (0, 0))) (o : Nat) (v : Value) :
    (w.setCell ⟨b, o, none⟩ v).heap[b]? = some (.cells ((#[v0, v1, v2, v3, v4] : Array Value).setIfInBounds o v) t (0, 0)) := heap_setCell_same w b o _ t v h

end

section
open Go.RowKit

/-- A reader: the place, what is open, the count, the signs that wait (the last first), what they take (the last first). -/
structure SR where
  pos : Nat
  opn : Nat
  cnt : Nat
  sg : List (List UInt8 × Nat)
  dn : List TN

inductive RunEnd | bad (p : Nat) (e : Int) | ok (s : SR)

/-- What one sign makes of what is there. -/
def joinOne (o : List UInt8) (dn : List TN) : List TN :=
  if o = bNeg then (match dn with
    | a :: r => negT a :: r
    | [] => [])
  else match dn with
    | b :: a :: r => twoT o a b :: r
    | _ => []

/-- All signs joined that hold at least so fast. -/
def joinS (h : Nat) : List (List UInt8 × Nat) → List TN → List (List UInt8 × Nat) × List TN
  | [], dn => ([], dn)
  | (o, k) :: sg, dn => if h ≤ k then joinS h sg (joinOne o dn) else ((o, k) :: sg, dn)

/-- How fast the sign at a place holds; 0: there is none. -/
def holdsAt (L : List Tk) (p : Nat) : Nat := if isA L p = true then 1 else if isM L p = true then 2 else 0

/-- The run: true: a factor is to be read; false: one has been. -/
def run (L : List Tk) : Nat → Bool → SR → RunEnd
  | 0, _, s => .bad s.pos 2
  | f + 1, true, s =>
    if isS L [40] s.pos = true then run L f true ⟨s.pos + 1, s.opn + 1, s.cnt, s.sg, s.dn⟩
    else if isS L [45] s.pos = true then (if s.cnt = 32 then .bad s.pos 4 else run L f true ⟨s.pos + 1, s.opn, s.cnt + 1, (bNeg, 3 + s.opn * 3) :: s.sg, s.dn⟩)
    else match L[s.pos]? with
      | none => .bad s.pos 2
      | some t =>
        if t.kind = 2 ∧ 0 ≤ t.num then (if s.cnt = 32 then .bad s.pos 4 else run L f false ⟨s.pos + 1, s.opn, s.cnt + 1, s.sg, numT t.num :: s.dn⟩)
        else if t.kind = 1 ∧ goodB t.text = true then (if s.cnt = 32 then .bad s.pos 4 else run L f false ⟨s.pos + 1, s.opn, s.cnt + 1, s.sg, nameT t.text :: s.dn⟩)
        else .bad s.pos 2
  | f + 1, false, s =>
    if 0 < s.opn ∧ isS L [41] s.pos = true then run L f false ⟨s.pos + 1, s.opn - 1, s.cnt, s.sg, s.dn⟩
    else if holdsAt L s.pos = 0 then (if 0 < s.opn then .bad s.pos 2 else .ok s)
    else if s.cnt = 32 then .bad s.pos 4
    else run L f true ⟨s.pos + 1, s.opn, s.cnt + 1, (opAt L s.pos, holdsAt L s.pos + s.opn * 3) :: (joinS (holdsAt L s.pos + s.opn * 3) s.sg s.dn).1, (joinS (holdsAt L s.pos + s.opn * 3) s.sg s.dn).2⟩

end

section
open Go.RowKit

set_option maxHeartbeats 4000000 in
theorem kidsOf_any (o : ByteArray) (w : World) : Calls Try.prog 47 #[.string o] w fun e w' => e = .returned (.int .i64 (arity o)) ∧ w = w' := by
  have E : arity o = if (o.toList == [110, 117, 109] || o.toList == [110, 97, 109, 101]) = true then 0 else if (o.toList == [110, 101, 103]) = true then 1 else if (o.toList == [43] || o.toList == [45] || o.toList == [42] || o.toList == [47] || o.toList == [37]) = true then 2 else -1 := by
    unfold arity isNum isName isNeg isTwo bNum bName bNeg
    rw [Lib.toList_data]
  cases h0 : (o.toList == [110, 117, 109]) with
  | true =>
    have R := Lib.hid (show arity o = 0 by rw [E]; simp [h0])
    clear E
    go_enter Try.func47, Try.ntmps47
    go_wp2_with fail
    go_ret
    rw [R.out]
    exact ⟨rfl, rfl⟩
  | false =>
    cases h1 : (o.toList == [110, 97, 109, 101]) with
    | true =>
      have R := Lib.hid (show arity o = 0 by rw [E]; simp [h0, h1])
      clear E
      go_enter Try.func47, Try.ntmps47
      go_wp2_with fail
      go_ret
      rw [R.out]
      exact ⟨rfl, rfl⟩
    | false =>
      cases h2 : (o.toList == [110, 101, 103]) with
      | true =>
        have R := Lib.hid (show arity o = 1 by rw [E]; simp [h0, h1, h2])
        clear E
        go_enter Try.func47, Try.ntmps47
        go_wp2_with fail
        go_ret
        rw [R.out]
        exact ⟨rfl, rfl⟩
      | false =>
        cases h3 : (o.toList == [43]) with
        | true =>
          have R := Lib.hid (show arity o = 2 by rw [E]; simp [h0, h1, h2, h3])
          clear E
          go_enter Try.func47, Try.ntmps47
          go_wp2_with fail
          go_ret
          rw [R.out]
          exact ⟨rfl, rfl⟩
        | false =>
          cases h4 : (o.toList == [45]) with
          | true =>
            have R := Lib.hid (show arity o = 2 by rw [E]; simp [h0, h1, h2, h3, h4])
            clear E
            go_enter Try.func47, Try.ntmps47
            go_wp2_with fail
            go_ret
            rw [R.out]
            exact ⟨rfl, rfl⟩
          | false =>
            cases h5 : (o.toList == [42]) with
            | true =>
              have R := Lib.hid (show arity o = 2 by rw [E]; simp [h0, h1, h2, h3, h4, h5])
              clear E
              go_enter Try.func47, Try.ntmps47
              go_wp2_with fail
              go_ret
              rw [R.out]
              exact ⟨rfl, rfl⟩
            | false =>
              cases h6 : (o.toList == [47]) with
              | true =>
                have R := Lib.hid (show arity o = 2 by rw [E]; simp [h0, h1, h2, h3, h4, h5, h6])
                clear E
                go_enter Try.func47, Try.ntmps47
                go_wp2_with fail
                go_ret
                rw [R.out]
                exact ⟨rfl, rfl⟩
              | false =>
                cases h7 : (o.toList == [37]) with
                | true =>
                  have R := Lib.hid (show arity o = 2 by rw [E]; simp [h0, h1, h2, h3, h4, h5, h6, h7])
                  clear E
                  go_enter Try.func47, Try.ntmps47
                  go_wp2_with fail
                  go_ret
                  rw [R.out]
                  exact ⟨rfl, rfl⟩
                | false =>
                  have R := Lib.hid (show arity o = -1 by rw [E]; simp [h0, h1, h2, h3, h4, h5, h6, h7])
                  clear E
                  go_enter Try.func47, Try.ntmps47
                  go_wp2_with fail
                  go_ret
                  rw [R.out]
                  exact ⟨rfl, rfl⟩

end

section
open Go.RowKit

theorem six {w : World} {b : Nat} {v0 v1 v2 v3 v4 v5 : Value} {t : TypeId} (h : w.heap[b]? = some (.cells #[v0, v1, v2, v3, v4, v5] t (0, 0))) (o : Nat) (v : Value) :
    (w.setCell ⟨b, o, none⟩ v).heap[b]? = some (.cells ((#[v0, v1, v2, v3, v4, v5] : Array Value).setIfInBounds o v) t (0, 0)) := heap_setCell_same w b o _ t v h

end

section
open Go.RowKit

/-- A tree's node, in its four cells. -/
def ndL (t : TN) (q : Option Addr × Nat) : List Value := [.string t.op, .string t.nm, .int .i64 t.n, .slice q.1 t.ks.len q.2]

/-- The kids of trees in memory. -/
def DnK (G : Nat → Prop) (w : World) : List TN → List (Option Addr × Nat) → Prop
  | [], [] => True
  | t :: r, q :: s => ReadsN G w q.1 t.ks ∧ DnK G w r s
  | _, _ => False

theorem ndL_one (t : TN) (q : Option Addr × Nat) : ∀ u ∈ ndL t q, u.oneCell' = true := by
  intro u hu; simp [ndL] at hu; rcases hu with rfl | rfl | rfl | rfl <;> rfl

theorem DnK.imp {G H : Nat → Prop} {w : World} (hG : ∀ b, b < w.heap.size → G b → H b) : ∀ {dn : List TN} {q : List (Option Addr × Nat)}, DnK G w dn q → DnK H w dn q
  | [], [], _ => trivial
  | _ :: _, _ :: _, h => ⟨h.1.imp hG, h.2.imp hG⟩
  | [], _ :: _, h => h.elim
  | _ :: _, [], h => h.elim

theorem DnK.keptS {S G : Nat → Prop} {w w' : World} (hk : Kept S w w') (hS : ∀ k, S k → ¬ G k) : ∀ {dn : List TN} {q : List (Option Addr × Nat)}, DnK G w dn q → DnK G w' dn q
  | [], [], _ => trivial
  | _ :: _, _ :: _, h => ⟨h.1.keptS hk hS, h.2.keptS hk hS⟩
  | [], _ :: _, h => h.elim
  | _ :: _, [], h => h.elim

section

variable {x : Nat} {ts : List Tk} {rb : Nat} {a : Option Addr} {c p o n : Nat} {sg : List (List UInt8 × Nat)} {dn : List TN} {sv dv : Value} {q : List (Option Addr × Nat)} {w w' : World}

/-- Numbers of the reader set. -/
theorem owns_set {B : Nat} {e : TypeId} {size : Nat} {v : Value} {m : Nat} {xs : List Value} (h : w.ownsRow B e size v m xs) (hlt : rb < B) (y : Nat) (u : Value) : (w.setCell ⟨rb, y, none⟩ u).ownsRow B e size v m xs := by
  refine World.ownsRow.kept (row := some rb) h (grownBy_of_kept ((Kept.refl (· = rb) w).setCell (p := ⟨rb, y, none⟩) (.inl rfl) u) (fun k hk => by rw [hk])) (.inr ?_)
  intro hh
  have := h.lt rb hh
  omega

end

/-- What a method of the reader leaves as it was. -/
abbrev KeptR (rb : Nat) (w w' : World) : Prop := Kept (fun b => rb ≤ b) w w'

theorem KeptR.refl (rb : Nat) (w : World) : KeptR rb w w := Kept.refl _ w

theorem KeptR.of {rb : Nat} {w w' : World} (h : Kept (· = rb) w w') : KeptR rb w w' := h.mono (fun i hi _ => by omega)

theorem KeptR.trans {rb : Nat} {a b c : World} (h : KeptR rb a b) (k : KeptR rb b c) : KeptR rb a c := Kept.trans h k (fun _ hi _ => hi)

theorem KeptR.below {rb : Nat} {a b : World} (h : Below a.heap.size a b) : KeptR rb a b := kept_below h _

theorem KeptR.set {rb : Nat} {a b : World} (h : KeptR rb a b) (o : Nat) (v : Value) : KeptR rb a (b.setCell ⟨rb, o, none⟩ v) := h.setCell (p := ⟨rb, o, none⟩) (.inl (Nat.le_refl _)) v

end

section
open Go.RowKit

section

variable {P : Program}

theorem step_append_new {ops : Array Oper} {o : Oper} {a : Act} {w : World} {K : Act → World → Prop} {Q : Exit → Act → World → Prop} {E : Prop}
    (hg : o.guard = none) (s x : Operand) (t : TypeId) (hop : o.op = Op.call { callee := Callee.builtin Builtin.append, args := #[s, x], argTypes := #[t, t] })
    {base size : Nat} {e : TypeId} {i : TypeInfo} {z : Value} {bytes : Nat} (ht : P.underlying t = some (.slice e)) (hi : P.info? e = some i) (hz : i.zero = some z) (hsize : i.size = size) (hby : i.bytes = bytes) (hzs : z.cells.size = size) (hpos : 0 < size)
    (v : Value) (n m : Nat) (xs news : List Value) (b : Addr) (c : Nat) (hs : a.eval s = v) (hx : a.eval x = .slice (some b) m c) (hown : w.ownsRow base e size v n xs) (hl : news.length = m * size) (hn : ∀ j u, news[j]? = some u → w.cell? (b.add j) = some u) (h1 : ∀ u ∈ news, u.oneCell' = true)
    (h63 : n + m ≤ maxLen) (hbytes : (n + m) * bytes ≤ 140737488355328) (hbase : base ≤ w.heap.size)
    (hK : ∀ v' w', w'.ownsRow base e size v' (n + m) (xs ++ news) → w.grownBy w' v.ownBlock → (∀ q, v'.ownBlock = some q → v.ownBlock = some q ∨ w.heap.size ≤ q) → K (a.put o.dst v') w') :
    if Region.wanted o (yielded ops a.tmps) = true then Oper.wp P o a w K Q else E := by
  have hw : Region.wanted o (yielded ops a.tmps) = true := by simp [Region.wanted, hg]
  rw [if_pos hw]
  obtain ⟨v', w', hr, ho, hgr, hq⟩ := run_append_new (P := P) (ty := o.type) (c := c) ht hi hz hsize hby hzs hpos hown hl hn h1 h63 hbytes hbase
  unfold Oper.wp
  simp [execOp, hop, resolve, invoke, builtin, hs, hx, hr, Result.andThen]
  exact hK _ _ ho hgr hq

end

theorem owns_kept {w w' : World} {B : Nat} {e : TypeId} {size : Nat} {v : Value} {n : Nat} {xs : List Value} {row : Option Nat} (h : w.ownsRow B e size v n xs) (hk : Kept (fun b => row = some b) w w') (hne : ∀ b, v.ownBlock = some b → row = some b → False) : w'.ownsRow B e size v n xs := by
  refine World.ownsRow.kept (row := row) h (grownBy_of_kept hk (fun k hk => hk)) ?_
  cases e : v.ownBlock with
  | none => exact .inl rfl
  | some b => exact .inr (fun h => hne b e h.symm)

section

variable {x : Nat} {ts : List Tk} {rb : Nat} {a : Option Addr} {c p o n : Nat} {sg : List (List UInt8 × Nat)} {dn : List TN} {sv dv : Value} {q : List (Option Addr × Nat)} {w w' : World}

end

theorem ndInfo : (Try.prog.info? 24).map (fun i => (i.zero, i.size, i.bytes)) = some (some (.agg #[.string ⟨#[]⟩, .string ⟨#[]⟩, .int .i64 0, .slice none 0 0]), 4, 64) := by kernel_rfl

end

section
open Go.RowKit

theorem own_full {w : World} {B m size : Nat} {e : TypeId} {v : Value} {xs : List Value} (h : w.ownsRow B e size v m xs) (hm : m ≠ 0) : ∃ g c, v = .slice (some ⟨g, 0, none⟩) m c ∧ m ≤ c ∧ c ≤ maxLen ∧ ∀ j u, xs[j]? = some u → w.cell? ⟨g, j, none⟩ = some u := by
  rcases h.2 with ⟨rfl, h0⟩ | ⟨g, cap, _, rfl, _, _, h1, h2, _⟩
  · exact absurd h0 hm
  · refine ⟨g, cap, rfl, h1, h2, fun j u hj => ?_⟩
    obtain ⟨g', h1, h2⟩ := owns_at h hj
    simp only [Addr.mk.injEq, and_true] at h1
    subst h1
    exact h2

theorem reads_one {G : Nat → Prop} {w : World} {g : Nat} {t : TN} {q : Option Addr × Nat} {r : F} {off : Nat} (hG : G g) (hlt : g < w.heap.size) (hc : ∀ j u, (ndL t q)[j]? = some u → w.cell? ⟨g, off + j, none⟩ = some u) (hk : ReadsN G w q.1 t.ks) (hr : ReadsF G w r g (off + 4)) : ReadsF G w (.cons t.op t.nm t.n t.ks r) g off :=
  ⟨hG, hlt, ⟨q.1, q.2, ⟨hc 0 _ rfl, hc 1 _ rfl, hc 2 _ rfl, hc 3 _ rfl⟩, hk⟩, hr⟩

section

variable {x : Nat} {ts : List Tk} {rb : Nat} {a : Option Addr} {c p o n : Nat} {sg : List (List UInt8 × Nat)} {dn : List TN} {sv dv : Value} {q : List (Option Addr × Nat)} {w w' : World}

end

/-- The blocks that are no rows stay as they were. -/
structure Fr (rb : Nat) (sv dv : Value) (w : World) (sv1 dv1 : Value) (w1 : World) : Prop where
  b : ∀ b, b < w.heap.size → b ≠ rb → sv.ownBlock ≠ some b → dv.ownBlock ≠ some b → w1.heap[b]? = w.heap[b]?
  s : ∀ b, sv1.ownBlock = some b → sv.ownBlock = some b ∨ w.heap.size ≤ b
  d : ∀ b, dv1.ownBlock = some b → dv.ownBlock = some b ∨ w.heap.size ≤ b
  z : w.heap.size ≤ w1.heap.size

theorem Fr.step {rb : Nat} {sv dv sv1 dv1 sv2 dv2 : Value} {w wr w1 w3 : World} (h : Fr rb sv dv w sv1 dv1 wr) (hb : Below wr.heap.size wr w1) (hk : Kept (fun b => dv1.ownBlock = some b) w1 w3) (hs : sv2.ownBlock = sv1.ownBlock) (hd : ∀ b, dv2.ownBlock = some b → dv1.ownBlock = some b ∨ w1.heap.size + 1 ≤ b) (x y : Nat) (u v : Value) :
    Fr rb sv dv w sv2 dv2 ((w3.setCell ⟨rb, x, none⟩ u).setCell ⟨rb, y, none⟩ v) := by
  have hz := h.z
  have hz1 := hb.size
  have hz3 := hk.size
  have ks := (((Kept.refl (· = rb) w3).setCell (p := ⟨rb, x, none⟩) (.inl rfl) u).setCell (p := ⟨rb, y, none⟩) (.inl rfl) v)
  have hz4 := ks.size
  refine ⟨fun b h1 h2 h3 h4 => ?_, fun b hb2 => h.s b (by rw [← hs]; exact hb2), fun b hb2 => ?_, by omega⟩
  · rw [ks.block b (by omega) h2, hk.block b (by omega) (fun e => (h.d b e).elim h4 (fun hle => by omega)), hb.block b (by omega)]
    exact h.b b h1 h2 h3 h4
  · rcases hd b hb2 with h1 | h1
    · exact h.d b h1
    · exact .inr (by omega)

end

section
open Go.RowKit

theorem good_no {s : ByteArray} (h : s.size < 1 ∨ 8 < s.size) : goodB s.data.toList = false := by
  have hl : s.data.toList.length = s.size := by simp
  cases e : s.data.toList with
  | nil => rfl
  | cons c r =>
    rw [e] at hl
    rw [good_cons, decide_eq_false (by simp at hl; omega), Bool.and_false, Bool.false_and]

theorem good_at {s : ByteArray} (h : 1 ≤ s.size) (h8 : s.size ≤ 8) : goodB s.data.toList = (smallB s[0] && s.data.toList.all alnumB) := by
  have hl : s.data.toList.length = s.size := by simp
  have h0 : s.data.toList[0]? = some s[0] := List.getElem?_eq_getElem (by omega)
  cases e : s.data.toList with
  | nil => rw [e] at hl; simp at hl; omega
  | cons c r =>
    rw [e] at hl h0
    have : c = s[0] := by simpa using h0
    subst this
    rw [good_cons, decide_eq_true (by simp at hl; omega), Bool.and_true, List.all_cons]
    unfold alnumB
    cases smallB s[0] <;> simp

theorem all_no {s : ByteArray} {j : Nat} (hj : j < s.size) (h : alnumB s[j] = false) : s.data.toList.all alnumB = false := by
  rw [List.all_eq_false]
  exact ⟨s[j], List.mem_iff_getElem.2 ⟨j, by simpa using hj, rfl⟩, by rw [h]; simp⟩

theorem all_yes {s : ByteArray} (h : ∀ j (hj : j < s.size), alnumB s[j] = true) : s.data.toList.all alnumB = true := by
  rw [List.all_eq_true]
  intro c hc
  obtain ⟨j, hj, rfl⟩ := List.mem_iff_getElem.1 hc
  exact h j (by simpa using hj)

set_option maxHeartbeats 2000000 in
theorem rName_any (s : ByteArray) (hm : s.size ≤ 281474976710656) (w : World) : Calls Try.prog 37 #[.string s] w fun e w' => e = .returned (.bool (goodB s.data.toList)) ∧ w = w' := by
  by_cases h1 : s.size < 1 ∨ 8 < s.size
  · have R := Lib.hid (good_no h1)
    rcases h1 with h1 | h1
    · go_enter Try.func37, Try.ntmps37
      go_wp2_with fail
      go_ret
      exact ⟨ret_b (a := false) R.out.symm, rfl⟩
    · have h2 : 1 ≤ s.size := by omega
      go_enter Try.func37, Try.ntmps37
      go_wp2_with fail
      go_ret
      exact ⟨ret_b (a := false) R.out.symm, rfl⟩
  · have h2 : 1 ≤ s.size := by omega
    have h3 : s.size ≤ 8 := by omega
    have R := Lib.hid (good_at h2 h3)
    obtain ⟨c, hc⟩ : ∃ c : Int, (s[0].toNat : Int) = c := ⟨_, rfl⟩
    have hs : smallB s[0] = (decide (97 ≤ c) && decide (c ≤ 122)) := by unfold smallB; rw [hc]
    by_cases k : 97 ≤ c ∧ c ≤ 122
    · obtain ⟨k1, k2⟩ := k
      have R2 := Lib.hid (R.out.trans (by rw [hs, decide_eq_true k1, decide_eq_true k2]; rfl : _ = s.data.toList.all alnumB))
      clear R hs h1
      go_enter Try.func37, Try.ntmps37
      go_wp2_with fail
      go_loop [3] (fun i => ∃ k : Nat, k ≤ s.size ∧ i = .int .i64 k ∧ Hid (∀ j (hj : j < s.size), j < k → alnumB s[j] = true)) (fun i => s.size - (intOf i).toNat)
      case atStart => exact ⟨0, Nat.zero_le _, rfl, Lib.hid (fun j _ h => by omega)⟩
      case round =>
        obtain ⟨k, hk, rfl, hok⟩ := hrel
        by_cases hlt : k < s.size
        · obtain ⟨d, hd⟩ : ∃ c : Int, (s[k].toNat : Int) = c := ⟨_, rfl⟩
          have hb : alnumB s[k] = (decide (97 ≤ d) && decide (d ≤ 122) || decide (48 ≤ d) && decide (d ≤ 57)) := by unfold alnumB smallB digitB; rw [hd]
          have hcase : (97 ≤ d ∧ d ≤ 122) ∨ (48 ≤ d ∧ d ≤ 57) ∨ d < 48 ∨ (57 < d ∧ d < 97) ∨ 122 < d := by omega
          rcases hcase with ⟨g1, g2⟩ | ⟨g1, g2⟩ | g1 | ⟨g1, g2⟩ | g1
          · have hok1 := Lib.hid (show ∀ j (hj : j < s.size), j < k + 1 → alnumB s[j] = true from fun j hj hjk => by
              by_cases e : j = k
              · subst e; rw [hb, decide_eq_true g1, decide_eq_true g2]; rfl
              · exact hok.out j hj (by omega))
            clear hb
            go_wp2_with fail
            go_round
            case rel => exact ⟨k + 1, by omega, by go_num, hok1⟩
            case measure => simp [intOf]; omega
          · have hok1 := Lib.hid (show ∀ j (hj : j < s.size), j < k + 1 → alnumB s[j] = true from fun j hj hjk => by
              by_cases e : j = k
              · subst e; rw [hb, decide_eq_true g1, decide_eq_true g2, Bool.and_self, Bool.or_true]
              · exact hok.out j hj (by omega))
            have g3 : d < 97 := by omega
            clear hb
            go_wp2_with fail
            go_round
            case rel => exact ⟨k + 1, by omega, by go_num, hok1⟩
            case measure => simp [intOf]; omega
          · have R3 := Lib.hid (R2.out.trans (all_no hlt (by rw [hb, decide_eq_false (by omega), decide_eq_false (p := 48 ≤ d) (by omega)]; rfl)))
            have g3 : d < 97 := by omega
            clear hb
            go_wp2_with fail
            go_ret
            exact ⟨ret_b (a := false) R3.out.symm, rfl⟩
          · have R3 := Lib.hid (R2.out.trans (all_no hlt (by rw [hb, decide_eq_false (by omega), decide_eq_false (p := d ≤ 57) (by omega)]; simp)))
            have g3 : 48 ≤ d := by omega
            clear hb
            go_wp2_with fail
            go_ret
            exact ⟨ret_b (a := false) R3.out.symm, rfl⟩
          · have R3 := Lib.hid (R2.out.trans (all_no hlt (by rw [hb, decide_eq_false (p := d ≤ 122) (by omega), decide_eq_false (p := d ≤ 57) (by omega)]; simp)))
            have g3 : 97 ≤ d := by omega
            have g4 : 48 ≤ d := by omega
            have g5 : 57 < d := by omega
            clear hb
            go_wp2_with fail
            go_ret
            exact ⟨ret_b (a := false) R3.out.symm, rfl⟩
        · have R3 := Lib.hid (R2.out.trans (all_yes fun j hj => hok.out j hj (by omega)))
          go_wp2_with fail
          go_ret
          exact ⟨ret_b (a := true) R3.out.symm, rfl⟩
    · have hb : (decide (97 ≤ c) && decide (c ≤ 122)) = false := by
        rcases Int.lt_or_le c 97 with h | h
        · rw [decide_eq_false (by omega)]; rfl
        · rw [decide_eq_true h, decide_eq_false (by omega)]; rfl
      have R2 := Lib.hid (R.out.trans (by rw [hs, hb]; rfl : _ = false))
      clear hb R hs h1
      have k' : c < 97 ∨ (97 ≤ c ∧ 122 < c) := by omega
      clear k
      rcases k' with k | ⟨k, k'⟩
      · go_enter Try.func37, Try.ntmps37
        go_wp2_with fail
        go_ret
        exact ⟨ret_b (a := false) R2.out.symm, rfl⟩
      · go_enter Try.func37, Try.ntmps37
        go_wp2_with fail
        go_ret
        exact ⟨ret_b (a := false) R2.out.symm, rfl⟩

end

section
open Go.RowKit

set_option maxHeartbeats 1000000 in
theorem wSmall_any (c : UInt8) (w : World) : Calls Try.prog 74 #[.int .u8 c.toNat] w fun e w' => e = .returned (.bool (smallB c)) ∧ w = w' := by
  obtain ⟨x, hx⟩ : ∃ x : Int, (c.toNat : Int) = x := ⟨_, rfl⟩
  unfold smallB
  rw [hx]
  by_cases h : 97 ≤ x
  · go_enter Try.func74, Try.ntmps74
    go_wp2
    go_ret
    exact ⟨ret_b (a := decide (x ≤ 122)) (by rw [decide_eq_true h]; rfl), rfl⟩
  · go_enter Try.func74, Try.ntmps74
    go_wp2
    go_ret
    exact ⟨ret_b (a := false) (by rw [decide_eq_false (by omega)]; rfl), rfl⟩

set_option maxHeartbeats 1000000 in
theorem wDigit_any (c : UInt8) (w : World) : Calls Try.prog 75 #[.int .u8 c.toNat] w fun e w' => e = .returned (.bool (digitB c)) ∧ w = w' := by
  obtain ⟨x, hx⟩ : ∃ x : Int, (c.toNat : Int) = x := ⟨_, rfl⟩
  unfold digitB
  rw [hx]
  by_cases h : 48 ≤ x
  · go_enter Try.func75, Try.ntmps75
    go_wp2
    go_ret
    exact ⟨ret_b (a := decide (x ≤ 57)) (by rw [decide_eq_true h]; rfl), rfl⟩
  · go_enter Try.func75, Try.ntmps75
    go_wp2
    go_ret
    exact ⟨ret_b (a := false) (by rw [decide_eq_false (by omega)]; rfl), rfl⟩

set_option maxHeartbeats 2000000 in
theorem wName_any (s : ByteArray) (hm : s.size ≤ 281474976710656) (w : World) : Calls Try.prog 54 #[.string s] w fun e w' => e = .returned (.bool (goodB s.data.toList)) ∧ w = w' := by
  have hne : 1 ≤ s.size → (s.toList == []) = false := fun h => by
    rw [beq_eq_false_iff_ne, Lib.toList_data]
    intro e
    have hl : s.data.toList.length = s.size := by simp
    rw [e] at hl; simp at hl; omega
  by_cases h1 : s.size < 1
  · have R := Lib.hid (good_no (.inl h1))
    obtain rfl : s = ⟨#[]⟩ := (by simpa using h1 : s = ByteArray.empty)
    clear hne h1 hm
    go_enter Try.func54, Try.ntmps54
    go_wp2_with fail
    go_ret
    exact ⟨ret_b (a := false) R.out.symm, rfl⟩
  have h2 : 1 ≤ s.size := by omega
  have he := hne h2
  clear hne h1
  by_cases h8 : 8 < s.size
  · have R := Lib.hid (good_no (.inr h8))
    go_enter Try.func54, Try.ntmps54
    go_wp2_with fail
    go_ret
    exact ⟨ret_b (a := false) R.out.symm, rfl⟩
  have h3 : s.size ≤ 8 := by omega
  have R := Lib.hid (good_at h2 h3)
  have hs0 : 0 < s.size := by omega
  cases hc : smallB s[0] with
  | false =>
    have R2 := Lib.hid (R.out.trans (by rw [hc]; rfl : _ = false))
    have C := Lib.hid (p := ∀ w, Calls Try.prog 74 #[.int .u8 s[0].toNat] w fun e w' => e = .returned (.bool false) ∧ w = w') (fun w => by have := wSmall_any s[0] w; rwa [hc] at this)
    clear R hc h3
    go_enter Try.func54, Try.ntmps54
    go_wp2_with (go_at_call 74; refine (C.out _).mono ?_; rintro e w' ⟨rfl, rfl⟩)
    go_ret
    exact ⟨ret_b (a := false) R2.out.symm, rfl⟩
  | true =>
    have R2 := Lib.hid (R.out.trans (by rw [hc]; rfl : _ = s.data.toList.all alnumB))
    have C := Lib.hid (p := ∀ w, Calls Try.prog 74 #[.int .u8 s[0].toNat] w fun e w' => e = .returned (.bool true) ∧ w = w') (fun w => by have := wSmall_any s[0] w; rwa [hc] at this)
    have h0 := Lib.hid (show alnumB s[0] = true by unfold alnumB; rw [hc]; rfl)
    clear R hc
    go_enter Try.func54, Try.ntmps54
    go_wp2_with (go_at_call 74; refine (C.out _).mono ?_; rintro e w' ⟨rfl, rfl⟩)
    go_loop [3] (fun i => ∃ k : Nat, 1 ≤ k ∧ k ≤ s.size ∧ i = .int .i64 k ∧ Hid (∀ j (hj : j < s.size), j < k → alnumB s[j] = true)) (fun i => s.size - (intOf i).toNat)
    case atStart => exact ⟨1, Nat.le_refl _, h2, rfl, Lib.hid (fun j _ h => by
      obtain rfl : j = 0 := (by omega)
      exact h0.out)⟩
    case round =>
      obtain ⟨k, hk1, hk, rfl, hok⟩ := hrel
      by_cases hlt : k < s.size
      · cases ha : smallB s[k] with
        | true =>
          have hok1 := Lib.hid (show ∀ j (hj : j < s.size), j < k + 1 → alnumB s[j] = true from fun j hj hjk => by
              by_cases e : j = k
              · subst e; unfold alnumB; rw [ha]; rfl
              · exact hok.out j hj (by omega))
          have D := Lib.hid (p := ∀ w, Calls Try.prog 74 #[.int .u8 s[k].toNat] w fun e w' => e = .returned (.bool true) ∧ w = w') (fun w => by have := wSmall_any s[k] w; rwa [ha] at this)
          clear ha C
          go_wp2_with (go_at_call 74; refine (D.out _).mono ?_; rintro e w' ⟨rfl, rfl⟩)
          go_round
          case rel => exact ⟨k + 1, by omega, by omega, by go_num, hok1⟩
          case measure => simp [intOf]; omega
        | false =>
          have D := Lib.hid (p := ∀ w, Calls Try.prog 74 #[.int .u8 s[k].toNat] w fun e w' => e = .returned (.bool false) ∧ w = w') (fun w => by have := wSmall_any s[k] w; rwa [ha] at this)
          cases hd : digitB s[k] with
          | true =>
            have hok1 := Lib.hid (show ∀ j (hj : j < s.size), j < k + 1 → alnumB s[j] = true from fun j hj hjk => by
                by_cases e : j = k
                · subst e; unfold alnumB; rw [ha, hd]; rfl
                · exact hok.out j hj (by omega))
            have E := Lib.hid (p := ∀ w, Calls Try.prog 75 #[.int .u8 s[k].toNat] w fun e w' => e = .returned (.bool true) ∧ w = w') (fun w => by have := wDigit_any s[k] w; rwa [hd] at this)
            clear ha hd C
            go_wp2_with (first | (go_at_call 74; refine (D.out _).mono ?_; rintro e w' ⟨rfl, rfl⟩) | (go_at_call 75; refine (E.out _).mono ?_; rintro e w' ⟨rfl, rfl⟩))
            go_round
            case rel => exact ⟨k + 1, by omega, by omega, by go_num, hok1⟩
            case measure => simp [intOf]; omega
          | false =>
            have E := Lib.hid (p := ∀ w, Calls Try.prog 75 #[.int .u8 s[k].toNat] w fun e w' => e = .returned (.bool false) ∧ w = w') (fun w => by have := wDigit_any s[k] w; rwa [hd] at this)
            have R3 := Lib.hid (R2.out.trans (all_no hlt (by unfold alnumB; rw [ha, hd]; rfl)))
            clear ha hd C
            go_wp2_with (first | (go_at_call 74; refine (D.out _).mono ?_; rintro e w' ⟨rfl, rfl⟩) | (go_at_call 75; refine (E.out _).mono ?_; rintro e w' ⟨rfl, rfl⟩))
            go_ret
            exact ⟨ret_b (a := false) R3.out.symm, rfl⟩
      · have R3 := Lib.hid (R2.out.trans (all_yes fun j hj => hok.out j hj (by omega)))
        go_wp2_with fail
        go_ret
        exact ⟨ret_b (a := true) R3.out.symm, rfl⟩

end

section
open Go.RowKit

/-- The signs of one byte that begin no longer one. -/
def plainSign (c : UInt8) : Prop := c = 40 ∨ c = 41 ∨ c = 43 ∨ c = 45 ∨ c = 42 ∨ c = 47 ∨ c = 37

/-- The four sorts of nodes. -/
theorem node_cases {o m : ByteArray} {n : Int} {ks : F} (h : errN o m n ks.len = 0) :
    (isNum o = true ∧ ks = .nil ∧ 0 ≤ n) ∨ (isNum o = false ∧ isName o = true ∧ ks = .nil ∧ goodB m.data.toList = true) ∨
    (isNum o = false ∧ isName o = false ∧ isNeg o = true ∧ ∃ a : TN, ks = a.f) ∨
    (isNum o = false ∧ isName o = false ∧ isNeg o = false ∧ isTwo o = true ∧ ∃ a b : TN, ks = .cons a.op a.nm a.n a.ks b.f) := by
  unfold errN at h
  split at h
  · cases h
  · rename_i h1
    split at h
    · cases h
    · rename_i h2
      split at h
      · cases h
      · rename_i h3
        have ha : arity o = (ks.len : Int) := by simpa using h1
        unfold arity at ha
        cases e1 : isNum o with
        | true =>
          rw [e1, Bool.true_or, if_pos rfl] at ha
          rw [e1] at h3
          refine .inl ⟨rfl, ?_, by simpa using h3⟩
          cases ks with
          | nil => rfl
          | cons _ _ _ _ _ => rw [F.len] at ha; omega
        | false =>
          cases e2 : isName o with
          | true =>
            rw [e1, e2, Bool.or_true, if_pos rfl] at ha
            rw [e2] at h2
            refine .inr (.inl ⟨rfl, rfl, ?_, by simpa using h2⟩)
            cases ks with
            | nil => rfl
            | cons _ _ _ _ _ => rw [F.len] at ha; omega
          | false =>
            rw [e1, e2, Bool.or_false, if_neg (by decide)] at ha
            cases e3 : isNeg o with
            | true =>
              rw [e3, if_pos rfl] at ha
              refine .inr (.inr (.inl ⟨rfl, rfl, rfl, ?_⟩))
              cases ks with
              | nil => rw [F.len] at ha; omega
              | cons o' m' n' k' r' =>
                cases r' with
                | nil => exact ⟨⟨o', m', n', k'⟩, rfl⟩
                | cons _ _ _ _ _ => rw [F.len, F.len] at ha; omega
            | false =>
              rw [e3, if_neg (by decide)] at ha
              cases e4 : isTwo o with
              | true =>
                rw [e4, if_pos rfl] at ha
                refine .inr (.inr (.inr ⟨rfl, rfl, rfl, rfl, ?_⟩))
                cases ks with
                | nil => rw [F.len] at ha; omega
                | cons o' m' n' k' r' =>
                  cases r' with
                  | nil => rw [F.len, F.len] at ha; omega
                  | cons o2 m2 n2 k2 r2 =>
                    cases r2 with
                    | nil => exact ⟨⟨o', m', n', k'⟩, ⟨o2, m2, n2, k2⟩, rfl⟩
                    | cons _ _ _ _ _ => rw [F.len, F.len, F.len] at ha; omega
              | false =>
                rw [e4, if_neg (by decide)] at ha
                omega

theorem two_sign {o : ByteArray} (h : isTwo o = true) : signO o.data.toList ∧ ∃ c, o.data.toList = [c] ∧ plainSign c := by
  unfold isTwo at h
  simp only [Bool.or_eq_true, beq_iff_eq] at h
  rcases h with (((h | h) | h) | h) | h
  · exact ⟨.inl h, 43, h, .inr (.inr (.inl rfl))⟩
  · exact ⟨.inr (.inl h), 45, h, .inr (.inr (.inr (.inl rfl)))⟩
  · exact ⟨.inr (.inr (.inl h)), 42, h, .inr (.inr (.inr (.inr (.inl rfl))))⟩
  · exact ⟨.inr (.inr (.inr (.inl h))), 47, h, .inr (.inr (.inr (.inr (.inr (.inl rfl)))))⟩
  · exact ⟨.inr (.inr (.inr (.inr h))), 37, h, .inr (.inr (.inr (.inr (.inr (.inr rfl)))))⟩

/-- Numbers that a text may tell. -/
def NumsF : F → Prop
  | .nil => True
  | .cons _ _ n ks r => n ≤ 9223372036854775807 ∧ NumsF ks ∧ NumsF r

/-- Each tree of a row is such. -/
def EachF (P : TN → Prop) : F → Prop
  | .nil => True
  | .cons o m n ks r => P ⟨o, m, n, ks⟩ ∧ EachF P r

/-- An induction over trees that may be: each sort of node. -/
theorem tree_induct {P : TN → Prop} (hnum : ∀ o m n, isNum o = true → 0 ≤ n → n ≤ 9223372036854775807 → P ⟨o, m, n, .nil⟩)
    (hname : ∀ o m n, isNum o = false → isName o = true → goodB m.data.toList = true → P ⟨o, m, n, .nil⟩)
    (hneg : ∀ o m n (a : TN), isNum o = false → isName o = false → isNeg o = true → P a → P ⟨o, m, n, a.f⟩)
    (htwo : ∀ o m n (a b : TN), isNum o = false → isName o = false → isNeg o = false → isTwo o = true → P a → P b → P ⟨o, m, n, .cons a.op a.nm a.n a.ks b.f⟩) :
    ∀ f : F, chkF f = 0 → NumsF f → EachF P f
  | .nil, _, _ => trivial
  | .cons o m n ks r, h, hn => by
    rw [chkF] at h
    by_cases h1 : errN o m n ks.len = 0
    · rw [if_pos h1] at h
      by_cases h2 : chkF ks = 0
      · rw [if_pos h2] at h
        have ik := tree_induct hnum hname hneg htwo ks h2 hn.2.1
        refine ⟨?_, tree_induct hnum hname hneg htwo r h hn.2.2⟩
        rcases node_cases h1 with ⟨a, rfl, b⟩ | ⟨a, b, rfl, c⟩ | ⟨a, b, c, k, rfl⟩ | ⟨a, b, c, d, k, l, rfl⟩
        · exact hnum o m n a b hn.1
        · exact hname o m n a b c
        · exact hneg o m n k a b c ik.1
        · exact htwo o m n k l a b c d ik.1 ik.2.1
      · rw [if_neg h2] at h; exact absurd h h2
    · rw [if_neg h1] at h; exact absurd h h1

theorem tree_induct1 {P : TN → Prop} (hnum : ∀ o m n, isNum o = true → 0 ≤ n → n ≤ 9223372036854775807 → P ⟨o, m, n, .nil⟩)
    (hname : ∀ o m n, isNum o = false → isName o = true → goodB m.data.toList = true → P ⟨o, m, n, .nil⟩)
    (hneg : ∀ o m n (a : TN), isNum o = false → isName o = false → isNeg o = true → P a → P ⟨o, m, n, a.f⟩)
    (htwo : ∀ o m n (a b : TN), isNum o = false → isName o = false → isNeg o = false → isTwo o = true → P a → P b → P ⟨o, m, n, .cons a.op a.nm a.n a.ks b.f⟩)
    (t : TN) (h : OkT t) (hn : NumsF t.f) : P t := (tree_induct hnum hname hneg htwo t.f h hn).1

theorem num_op {o : ByteArray} (h : isNum o = true) : o = ⟨#[110, 117, 109]⟩ := by
  unfold isNum bNum at h
  exact text_eq (by rw [beq_iff_eq.1 h])

theorem name_op {o : ByteArray} (h : isName o = true) : o = ⟨#[110, 97, 109, 101]⟩ := by
  unfold isName bName at h
  exact text_eq (by rw [beq_iff_eq.1 h])

theorem neg_op {o : ByteArray} (h : isNeg o = true) : o = ⟨#[110, 101, 103]⟩ := by
  unfold isNeg bNeg at h
  exact text_eq (by rw [beq_iff_eq.1 h])

end

section
open Go.RowKit

abbrev ndO (o m : ByteArray) (n : Int) (a : Option Addr) (l c : Nat) : Obj := .cells #[.string o, .string m, .int .i64 n, .slice a l c] 31

/-- The four stores of a node into a block. -/
abbrev put4 (w : World) (B : Nat) (o m : ByteArray) (n : Int) (a : Option Addr) (l c : Nat) : World :=
  (((w.setCell ⟨B, 0, none⟩ (.string o)).setCell ⟨B, 1, none⟩ (.string m)).setCell ⟨B, 2, none⟩ (.int .i64 n)).setCell ⟨B, 3, none⟩ (.slice a l c)

theorem kept_put4 (w : World) (B : Nat) (o m : ByteArray) (n : Int) (a : Option Addr) (l c : Nat) : Kept (· = B) w (put4 w B o m n a l c) :=
  ((((Kept.refl (· = B) w).setCell (p := ⟨B, 0, none⟩) (.inl rfl) _).setCell (p := ⟨B, 1, none⟩) (.inl rfl) _).setCell (p := ⟨B, 2, none⟩) (.inl rfl) _).setCell (p := ⟨B, 3, none⟩) (.inl rfl) _

end

section
open Go.RowKit

theorem drop_at (s : ByteArray) {k : Nat} (h : k < s.size) : s.data.toList.drop k = s[k] :: s.data.toList.drop (k + 1) := List.drop_eq_getElem_cons (by simpa using h)

section

variable {s : ByteArray} {k m : Nat}

end

end

section
open Go.RowKit

/-- What Of answers, of the program and of the document. -/
def OfPost (q : OfEnd) (w : World) (e : Ending) (w' : World) : Prop := Below w.heap.size w w' ∧
  match q with
  | .bad p er => e = .returned (.tuple #[nodeV ⟨#[]⟩ ⟨#[]⟩ 0 none 0 0, .int .i64 (p : Nat), .int .i64 er])
  | .ok t p => ∃ a c, e = .returned (.tuple #[nodeV t.op t.nm t.n a t.ks.len c, .int .i64 (p : Nat), .int .i64 0]) ∧ ReadsK w.heap.size w' a t.ks

end

section
open Go.RowKit

abbrev ndG (o m : ByteArray) (n : Int) (a : Option Addr) (l c : Nat) : Obj := .cells #[.string o, .string m, .int .i64 n, .slice a l c] 24

end

end Go.Proofs.Ytcmcnmmhkpolcaa
