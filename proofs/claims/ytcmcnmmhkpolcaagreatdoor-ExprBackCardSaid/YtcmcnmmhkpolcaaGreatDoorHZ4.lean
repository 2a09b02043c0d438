/-
  No statement: what these walks need, of earlier texts: GRow, GPush, GLeaf, GJoin, EName.
-/
import Derived.Test.YtcmcnmmhkpolcaaGreatDoorHZ3
import Derived.WalkKit
import Derived.WalkSpells
import Derived.Lib.Hide
import Derived.Deep.Draws
import Derived.Sort.Walk0
import Derived.Lib.ParseIntB
import Derived.Lib.AtoiErrMem
import Derived.Lib.AppendIntMem
import Derived.Test.YtcmcnmmhkpolcaaGreatDoorShelf
import Derived.Test.YtcmcnmmhkpolcaaGreatDoorProg
import Derived.IntWalk
import Derived.LoopTactic
import Derived.StillTailTactics
import Derived.Deep.QuietTactic
import Derived.BigQuiet
import Derived.Lib.ParseIntBTie
import Derived.RangeFuncRecord
import Derived.ArgAppend
import Derived.OwnWalk
import Derived.BigRegion
import Derived.Deep.Cut
import Derived.Deep.RegionLaw
import Derived.Deep.RegionHeld3
import Derived.Shelf.Spec.SearchS
import Derived.Laws.IdiomStrings
import Derived.Lib.AppendZerosOnto
import Derived.Lib.SliceRun
import Derived.Lib.OwnBridge
import Derived.Lib.SlicesCompact
import Derived.Sort.OwnSorted
import Derived.RangeFuncBox
namespace Go.Proofs.YtcmcnmmhkpolcaaGreatDoor
section
open Go.RowKit

/-- A sign that waits, in its two cells. -/
def wsL (x : List UInt8 × Nat) : List Value := [.string ⟨x.1.toArray⟩, .int .i64 x.2]

def wssL : List (List UInt8 × Nat) → List Value
  | [] => []
  | x :: r => wssL r ++ wsL x

/-- A tree's node, in its four cells. -/
def ndL (t : TN) (q : Option Addr × Nat) : List Value := [.string t.op, .string t.nm, .int .i64 t.n, .slice q.1 t.ks.len q.2]

def dnL : List TN → List (Option Addr × Nat) → List Value
  | t :: r, q :: s => dnL r s ++ ndL t q
  | _, _ => []

/-- The kids of trees in memory. -/
def DnK (G : Nat → Prop) (w : World) : List TN → List (Option Addr × Nat) → Prop
  | [], [] => True
  | t :: r, q :: s => ReadsN G w q.1 t.ks ∧ DnK G w r s
  | _, _ => False

theorem wssL_len : ∀ sg : List (List UInt8 × Nat), (wssL sg).length = sg.length * 2
  | [] => rfl
  | x :: r => by rw [wssL, List.length_append, wssL_len r, List.length_cons]; simp [wsL]; omega

theorem dnK_len {G : Nat → Prop} {w : World} : ∀ {dn : List TN} {q : List (Option Addr × Nat)}, DnK G w dn q → q.length = dn.length
  | [], [], _ => rfl
  | _ :: r, _ :: s, h => by rw [List.length_cons, List.length_cons, dnK_len h.2]
  | [], _ :: _, h => h.elim
  | _ :: _, [], h => h.elim

theorem dnL_len : ∀ {dn : List TN} {q : List (Option Addr × Nat)}, q.length = dn.length → (dnL dn q).length = dn.length * 4
  | [], _, _ => by rw [dnL]; rfl; intro t r q s h; cases h
  | _ :: r, _ :: s, h => by
    rw [dnL, List.length_append, dnL_len (by simpa using h), List.length_cons]; simp [ndL]; omega
  | _ :: _, [], h => by simp at h

theorem wsL_one (x : List UInt8 × Nat) : ∀ u ∈ wsL x, u.oneCell' = true := by
  intro u hu; simp [wsL] at hu; rcases hu with rfl | rfl <;> rfl

theorem ndL_one (t : TN) (q : Option Addr × Nat) : ∀ u ∈ ndL t q, u.oneCell' = true := by
  intro u hu; simp [ndL] at hu; rcases hu with rfl | rfl | rfl | rfl <;> rfl

theorem DnK.imp {G H : Nat → Prop} {w : World} (hG : ∀ b, b < w.heap.size → G b → H b) : ∀ {dn : List TN} {q : List (Option Addr × Nat)}, DnK G w dn q → DnK H w dn q
  | [], [], _ => trivial
  | _ :: _, _ :: _, h => ⟨h.1.imp hG, h.2.imp hG⟩
  | [], _ :: _, h => h.elim
  | _ :: _, [], h => h.elim

theorem DnK.keptS {S G : Nat → Prop} {w w' : World} (hk : Kept S w w') (hS : ∀ k, S k → ¬ G k) : ∀ {dn : List TN} {q : List (Option Addr × Nat)}, DnK G w dn q → DnK G w' dn q
  | [], [], _ => trivial
  | _ :: _, _ :: _, h => ⟨h.1.keptS hk hS, h.2.keptS hk hS⟩
  | [], _ :: _, h => h.elim
  | _ :: _, [], h => h.elim

/-- Blocks of kids: the call's own, neither row, nor the one set apart. -/
def Gk (x rb : Nat) (sv dv : Value) (b : Nat) : Prop := rb < b ∧ b ≠ x ∧ sv.ownBlock ≠ some b ∧ dv.ownBlock ≠ some b

/-- The program's reader whole. -/
structure RGx (x : Nat) (ts : List Tk) (rb : Nat) (a : Option Addr) (c p o n : Nat) (sg : List (List UInt8 × Nat)) (dn : List TN) (sv dv : Value) (q : List (Option Addr × Nat)) (w : World) : Prop where
  g : PG ts rb a c p o n sv dv w
  so : w.ownsRow (rb + 1) 97 2 sv sg.length (wssL sg)
  dw : w.ownsRow (rb + 1) 24 4 dv dn.length (dnL dn q)
  dk : DnK (Gk x rb sv dv) w dn q
  ap : ∀ x, sv.ownBlock = some x → dv.ownBlock = some x → False
  hx : x < w.heap.size
  hs : sg.length ≤ n
  hd : dn.length ≤ n

abbrev RG (ts : List Tk) (rb : Nat) (a : Option Addr) (c p o n : Nat) (sg : List (List UInt8 × Nat)) (dn : List TN) (sv dv : Value) (q : List (Option Addr × Nat)) (w : World) : Prop := RGx rb ts rb a c p o n sg dn sv dv q w

section

variable {x : Nat} {ts : List Tk} {rb : Nat} {a : Option Addr} {c p o n : Nat} {sg : List (List UInt8 × Nat)} {dn : List TN} {sv dv : Value} {q : List (Option Addr × Nat)} {w w' : World}

theorem RGx.below (h : RGx x ts rb a c p o n sg dn sv dv q w) (hb : Below w.heap.size w w') : RGx x ts rb a c p o n sg dn sv dv q w' :=
  ⟨h.g.below hb, owns_below h.so hb, owns_below h.dw hb, h.dk.keptS (kept_below hb (fun _ => False)) (fun _ h => h.elim), h.ap, Nat.lt_of_lt_of_le h.hx hb.size, h.hs, h.hd⟩

theorem RGx.lt (h : RGx x ts rb a c p o n sg dn sv dv q w) : rb < w.heap.size := (Array.getElem?_eq_some_iff.1 h.g.r).1

theorem RGx.svNe (h : RGx x ts rb a c p o n sg dn sv dv q w) {b : Nat} (hb : sv.ownBlock = some b) : rb < b ∧ b < w.heap.size := by have := h.so.lt b hb; omega

theorem RGx.dvNe (h : RGx x ts rb a c p o n sg dn sv dv q w) {b : Nat} (hb : dv.ownBlock = some b) : rb < b ∧ b < w.heap.size := by have := h.dw.lt b hb; omega

/-- Numbers of the reader set. -/
theorem owns_set {B : Nat} {e : TypeId} {size : Nat} {v : Value} {m : Nat} {xs : List Value} (h : w.ownsRow B e size v m xs) (hlt : rb < B) (y : Nat) (u : Value) : (w.setCell ⟨rb, y, none⟩ u).ownsRow B e size v m xs := by
  refine World.ownsRow.kept (row := some rb) h (grownBy_of_kept ((Kept.refl (· = rb) w).setCell (p := ⟨rb, y, none⟩) (.inl rfl) u) (fun k hk => by rw [hk])) (.inr ?_)
  intro hh
  have := h.lt rb hh
  omega

theorem RGx.set (h : RGx x ts rb a c p o n sg dn sv dv q w) {p' o' n' : Nat} {y : Nat} {v : Value} (hp : p' ≤ ts.length) (ho : o' ≤ 100001) (hn : n' ≤ 32) (hcn : n ≤ n')
    (hv : (#[.slice a ts.length c, .int .i64 p, .int .i64 o, .int .i64 n, sv, dv] : Array Value).setIfInBounds y v = #[.slice a ts.length c, .int .i64 p', .int .i64 o', .int .i64 n', sv, dv]) : RGx x ts rb a c p' o' n' sg dn sv dv q (w.setCell ⟨rb, y, none⟩ v) := by
  have h1 := h.hs
  have h2 := h.hd
  exact ⟨h.g.set hp ho hn hv, owns_set h.so (by omega) _ _, owns_set h.dw (by omega) _ _, h.dk.keptS ((Kept.refl (· = rb) w).setCell (p := ⟨rb, y, none⟩) (.inl rfl) v) (fun k hk hg => by have := hg.1; omega), h.ap, by rw [World.size_setCell]; exact h.hx, by omega, by omega⟩

end

/-- What a method of the reader leaves as it was. -/
abbrev KeptR (rb : Nat) (w w' : World) : Prop := Kept (fun b => rb ≤ b) w w'

theorem KeptR.refl (rb : Nat) (w : World) : KeptR rb w w := Kept.refl _ w

theorem KeptR.of {rb : Nat} {w w' : World} (h : Kept (· = rb) w w') : KeptR rb w w' := h.mono (fun i hi _ => by omega)

theorem KeptR.trans {rb : Nat} {a b c : World} (h : KeptR rb a b) (k : KeptR rb b c) : KeptR rb a c := Kept.trans h k (fun _ hi _ => hi)

theorem KeptR.below {rb : Nat} {a b : World} (h : Below a.heap.size a b) : KeptR rb a b := kept_below h _

theorem KeptR.set {rb : Nat} {a b : World} (h : KeptR rb a b) (o : Nat) (v : Value) : KeptR rb a (b.setCell ⟨rb, o, none⟩ v) := h.setCell (p := ⟨rb, o, none⟩) (.inl (Nat.le_refl _)) v

theorem isS_any (ts : List Tk) (x : ByteArray) (p : Nat) (w : World) : Calls Tryz.prog 90 #[tkG (tkAt ts p), .string x] w fun e w' => e = .returned (.bool (isS ts x.data.toList p)) ∧ Below w.heap.size w w' := by
  rw [← tkAt_isS]
  exact isSign_any (tkAt ts p).kind ⟨(tkAt ts p).text.toArray⟩ x (tkAt ts p).num (tkAt ts p).place w

set_option maxHeartbeats 4000000 in
theorem shut_any (ts : List Tk) (rb : Nat) (a : Option Addr) (c : Nat) (p0 o0 n : Nat) (sg : List (List UInt8 × Nat)) (dn : List TN) (sv dv : Value) (q : List (Option Addr × Nat)) (w : World) (h : RG ts rb a c p0 o0 n sg dn sv dv q w) :
    Calls Tryz.prog 62 #[.pointer (some ⟨rb, 0, none⟩)] w fun e w' => e = .returned (.tuple #[]) ∧ KeptR rb w w' ∧
      ∃ p o, RG ts rb a c p o n sg dn sv dv q w' ∧ p0 ≤ p ∧ o ≤ o0 ∧ runE ts false ⟨p, o, n, sg, dn⟩ = runE ts false ⟨p0, o0, n, sg, dn⟩ ∧ (0 < o → isS ts [41] p = false) := by
  have H := Lib.hid h
  have K0 := Lib.hid (KeptR.refl rb w)
  have C := Lib.hid (fun (p o : Nat) (w : World) (h : RG ts rb a c p o n sg dn sv dv q w) => next_any ts rb a c p o n sv dv w h.g)
  clear h
  have hn : ts.length ≤ 100000 := H.out.g.hl
  go_enter Tryz.func62, Tryz.ntmps62
  go_wp2_with fail
  go_loopg [] ts.length (fun g wr => ∃ (p o : Nat), Hid (RG ts rb a c p o n sg dn sv dv q wr) ∧ p0 ≤ p ∧ o ≤ o0 ∧ ts.length - p ≤ g ∧ Hid (runE ts false ⟨p, o, n, sg, dn⟩ = runE ts false ⟨p0, o0, n, sg, dn⟩) ∧ Hid (KeptR rb w wr))
  case atStart => exact ⟨p0, o0, H, Nat.le_refl _, Nat.le_refl _, Nat.sub_le _ _, Lib.hid rfl, K0⟩
  case round =>
    obtain ⟨p, o, hR, hp, hoo, hg, hE, hK⟩ := hrel
    obtain ⟨⟨c0, c1, c2, c3, c4, c5⟩, f1, f2, f3, f4, f5⟩ := hR.out.g.r.cells
    have CN := Lib.hid (C.out p o wr hR.out)
    by_cases ho : 0 < o
    · have a1 : (0 : Int) < (o : Int) := by omega
      have hob : o ≤ 100001 := hR.out.g.ho
      have hpl : p ≤ ts.length := hR.out.g.hp
      clear C
      obtain ⟨o, rfl⟩ : ∃ o', o = o' + 1 := ⟨o - 1, by omega⟩
      have D := Lib.hid (fun w => isS_any ts ⟨#[41]⟩ p w)
      have E : isS ts (⟨#[41]⟩ : ByteArray).data.toList p = isS ts [41] p := rfl
      rw [E] at D
      clear E
      cases hb : isS ts [41] p with
      | false =>
        rw [hb] at D
        have HB := Lib.hid hb
        clear hb
        go_wp2_with fail
        refine CN.out.mono ?_
        rintro e w1 ⟨rfl, b1⟩
        have B1 := Lib.hid b1
        clear b1
        go_wp2_with fail
        refine (D.out w1).mono ?_
        rintro e w2 ⟨rfl, b2⟩
        have B2 := Lib.hid b2
        clear b2
        go_wp2_with fail
        go_end0
        exact ⟨rfl, (hK.out.trans (KeptR.below B1.out)).trans (KeptR.below B2.out), p, o + 1, (hR.out.below B1.out).below B2.out, hp, hoo, hE.out, fun _ => HB.out⟩
      | true =>
        rw [hb] at D
        have HB := Lib.hid hb
        clear hb
        go_wp2_with fail
        refine CN.out.mono ?_
        rintro e w1 ⟨rfl, b1⟩
        have B1 := Lib.hid b1
        clear b1
        go_wp2_with fail
        refine (D.out w1).mono ?_
        rintro e w2 ⟨rfl, b2⟩
        have R2 := (hR.out.below B1.out).below b2
        have K2 := Lib.hid ((hK.out.trans (KeptR.below B1.out)).trans (KeptR.below b2))
        have hlt := isS_lt HB.out
        clear c0 c1 c2 c3 c4 c5 f1 f2 f3 f4 f5 b2 B1
        obtain ⟨⟨c0, c1, c2, c3, c4, c5⟩, f1, f2, f3, f4, f5⟩ := R2.g.r.cells
        have H1 := R2.set (p' := p) (o' := o) (n' := n) (y := 2) (v := .int .i64 o) hpl (by omega) R2.g.hn (Nat.le_refl _) rfl
        have H2 := Lib.hid (H1.set (p' := p + 1) (o' := o) (n' := n) (y := 1) (v := .int .i64 ((p : Int) + 1)) (by omega) (by omega) R2.g.hn (Nat.le_refl _) rfl)
        have K3 := Lib.hid ((K2.out.set 2 (.int .i64 o)).set 1 (.int .i64 ((p : Int) + 1)))
        have E2 := Lib.hid (show runE ts false ⟨p + 1, o, n, sg, dn⟩ = runE ts false ⟨p0, o0, n, sg, dn⟩ by
          refine Eq.trans ?_ hE.out
          have e := runE_beh (L := ts) (s := ⟨p, o + 1, n, sg, dn⟩) hpl
          simp only at e
          rw [if_pos ⟨by omega, HB.out⟩] at e
          exact e.symm)
        clear R2 H1
        go_wp2_with fail
        go_roundg (ts.length - (p + 1))
        case measure => omega
        case rel => exact ⟨p + 1, o, H2, by omega, by omega, by omega, E2, K3⟩
    · have a1 : ¬ (0 : Int) < (o : Int) := by omega
      clear C
      go_wp2_with fail
      go_end0
      exact ⟨rfl, hK.out, p, o, hR.out, hp, hoo, hE.out, fun h => absurd h ho⟩

end

section
open Go.RowKit

section

variable {P : Program}

theorem step_append_new {ops : Array Oper} {o : Oper} {a : Act} {w : World} {K : Act → World → Prop} {Q : Exit → Act → World → Prop} {E : Prop}
    (hg : o.guard = none) (s x : Operand) (t : TypeId) (hop : o.op = Op.call { callee := Callee.builtin Builtin.append, args := #[s, x], argTypes := #[t, t] })
    {base size : Nat} {e : TypeId} {i : TypeInfo} {z : Value} {bytes : Nat} (ht : P.underlying t = some (.slice e)) (hi : P.info? e = some i) (hz : i.zero = some z) (hsize : i.size = size) (hby : i.bytes = bytes) (hzs : z.cells.size = size) (hpos : 0 < size)
    (v : Value) (n m : Nat) (xs news : List Value) (b : Addr) (c : Nat) (hs : a.eval s = v) (hx : a.eval x = .slice (some b) m c) (hown : w.ownsRow base e size v n xs) (hl : news.length = m * size) (hn : ∀ j u, news[j]? = some u → w.cell? (b.add j) = some u) (h1 : ∀ u ∈ news, u.oneCell' = true)
    (h63 : n + m ≤ maxLen) (hbytes : (n + m) * bytes ≤ 140737488355328) (hbase : base ≤ w.heap.size)
    (hK : ∀ v' w', w'.ownsRow base e size v' (n + m) (xs ++ news) → w.grownBy w' v.ownBlock → (∀ q, v'.ownBlock = some q → v.ownBlock = some q ∨ w.heap.size ≤ q) → K (a.put o.dst v') w') :
    if Region.wanted o (yielded ops a.tmps) = true then Oper.wp P o a w K Q else E := by
  have hw : Region.wanted o (yielded ops a.tmps) = true := by simp [Region.wanted, hg]
  rw [if_pos hw]
  obtain ⟨v', w', hr, ho, hgr, hq⟩ := run_append_new (P := P) (ty := o.type) (c := c) ht hi hz hsize hby hzs hpos hown hl hn h1 h63 hbytes hbase
  unfold Oper.wp
  simp [execOp, hop, resolve, invoke, builtin, hs, hx, hr, Result.andThen]
  exact hK _ _ ho hgr hq

end

theorem new_le {w : World} {o : Obj} {b : Nat} (h : (w.alloc o).drew.heap.size ≤ b) : w.heap.size ≤ b := by
  have h1 : (w.alloc o).heap.size ≤ b := h
  rw [World.size_alloc] at h1
  omega

theorem owns_kept {w w' : World} {B : Nat} {e : TypeId} {size : Nat} {v : Value} {n : Nat} {xs : List Value} {row : Option Nat} (h : w.ownsRow B e size v n xs) (hk : Kept (fun b => row = some b) w w') (hne : ∀ b, v.ownBlock = some b → row = some b → False) : w'.ownsRow B e size v n xs := by
  refine World.ownsRow.kept (row := row) h (grownBy_of_kept hk (fun k hk => hk)) ?_
  cases e : v.ownBlock with
  | none => exact .inl rfl
  | some b => exact .inr (fun h => hne b e h.symm)

/-- The first elements of an owned slice. -/
theorem owns_take {w : World} {B : Nat} {e : TypeId} {size : Nat} {a : Option Addr} {n c m : Nat} {xs : List Value} (h : w.ownsRow B e size (.slice a n c) n xs) (hm : m ≤ n) (ha : a ≠ none) : w.ownsRow B e size (.slice a m c) m (xs.take (m * size)) := by
  have hl := h.1
  have hms : m * size ≤ n * size := Nat.mul_le_mul_right _ hm
  refine ⟨by rw [List.length_take]; omega, ?_⟩
  rcases h.2 with ⟨h1, _⟩ | ⟨g, cap, cur, h1, hb, hg, hnc, hcm, hcs, ht⟩
  · simp only [Value.slice.injEq] at h1
    exact absurd h1.1 ha
  · simp only [Value.slice.injEq, true_and] at h1
    obtain ⟨rfl, rfl⟩ := h1
    refine .inr ⟨g, c, cur, rfl, hb, hg, by omega, hcm, hcs, ?_⟩
    rw [← ht, List.take_take, Nat.min_eq_left hms]

section

variable {x : Nat} {ts : List Tk} {rb : Nat} {a : Option Addr} {c p o n : Nat} {sg : List (List UInt8 × Nat)} {dn : List TN} {sv dv : Value} {q : List (Option Addr × Nat)} {w w' : World}

theorem RGx.count (h : RGx x ts rb a c p o n sg dn sv dv q w) {p' n' : Nat} (hg : PG ts rb a c p' o n' sv dv w') (hk : Kept (· = rb) w w') (hn : n ≤ n') : RGx x ts rb a c p' o n' sg dn sv dv q w' := by
  have h1 := h.hs
  have h2 := h.hd
  have hk' : Kept (fun b => some rb = some b) w w' := hk.mono (fun i hi _ => by rw [hi])
  exact ⟨hg, owns_kept h.so hk' (fun b hb he => by have := (h.so.lt b hb).1; have := Option.some.inj he; omega), owns_kept h.dw hk' (fun b hb he => by have := (h.dw.lt b hb).1; have := Option.some.inj he; omega),
    h.dk.keptS hk (fun k hk hg => by have := hg.1; omega), h.ap, Nat.lt_of_lt_of_le h.hx hk.size, by omega, by omega⟩

theorem RGx.put_dn (h : RGx x ts rb a c p o n sg dn sv dv q w) {w3 : World} {dv' : Value} {dn' : List TN} {q' : List (Option Addr × Nat)} (hk : Kept (fun b => dv.ownBlock = some b) w w3) (hrow : w3.ownsRow (rb + 1) 24 4 dv' dn'.length (dnL dn' q'))
    (hnew : ∀ b, dv'.ownBlock = some b → dv.ownBlock = some b ∨ w.heap.size ≤ b) (hdk : DnK (Gk x rb sv dv) w dn' q') (hd : dn'.length ≤ n) : RGx x ts rb a c p o n sg dn' sv dv' q' (w3.setCell ⟨rb, 5, none⟩ dv') := by
  have hlt := h.lt
  have g3 : PG ts rb a c p o n sv dv w3 := h.g.kept hk (fun k hk => (h.dvNe hk).1)
  have hdk2 : DnK (fun b => Gk x rb sv dv b ∧ Gk x rb sv dv' b) w dn' q' := hdk.imp (fun b hb hg => ⟨hg, hg.1, hg.2.1, hg.2.2.1, fun e => by
    rcases hnew b e with h1 | h1
    · exact hg.2.2.2 h1
    · omega⟩)
  refine ⟨g3.set h.g.hp h.g.ho h.g.hn rfl, owns_set (owns_kept h.so hk (fun b hb he => h.ap b hb he)) (by omega) _ _, owns_set hrow (by omega) _ _, ?_, ?_, by rw [World.size_setCell]; exact Nat.lt_of_lt_of_le h.hx hk.size, h.hs, hd⟩
  · exact ((hdk2.keptS hk (fun k hk hg => hg.1.2.2.2 hk)).keptS ((Kept.refl (· = rb) w3).setCell (p := ⟨rb, 5, none⟩) (.inl rfl) dv') (fun k hk hg => by have := hg.1.1; omega)).imp (fun b _ hg => hg.2)
  · intro y hx hx2
    rcases hnew y hx2 with h1 | h1
    · exact h.ap y hx h1
    · have := (h.svNe hx).2; omega

theorem RGx.put_sg (h : RGx x ts rb a c p o n sg dn sv dv q w) {w3 : World} {sv' : Value} {sg' : List (List UInt8 × Nat)} (hk : Kept (fun b => sv.ownBlock = some b) w w3) (hrow : w3.ownsRow (rb + 1) 97 2 sv' sg'.length (wssL sg'))
    (hnew : ∀ b, sv'.ownBlock = some b → sv.ownBlock = some b ∨ w.heap.size ≤ b) (hs : sg'.length ≤ n) : RGx x ts rb a c p o n sg' dn sv' dv q (w3.setCell ⟨rb, 4, none⟩ sv') := by
  have hlt := h.lt
  have g3 : PG ts rb a c p o n sv dv w3 := h.g.kept hk (fun k hk => (h.svNe hk).1)
  have hdk2 : DnK (fun b => Gk x rb sv dv b ∧ Gk x rb sv' dv b) w dn q := h.dk.imp (fun b hb hg => ⟨hg, hg.1, hg.2.1, fun e => by
    rcases hnew b e with h1 | h1
    · exact hg.2.2.1 h1
    · omega, hg.2.2.2⟩)
  refine ⟨g3.set h.g.hp h.g.ho h.g.hn rfl, owns_set hrow (by omega) _ _, owns_set (owns_kept h.dw hk (fun b hb he => h.ap b he hb)) (by omega) _ _, ?_, ?_, by rw [World.size_setCell]; exact Nat.lt_of_lt_of_le h.hx hk.size, hs, h.hd⟩
  · exact ((hdk2.keptS hk (fun k hk hg => hg.1.2.2.1 hk)).keptS ((Kept.refl (· = rb) w3).setCell (p := ⟨rb, 4, none⟩) (.inl rfl) sv') (fun k hk hg => by have := hg.1.1; omega)).imp (fun b _ hg => hg.2)
  · intro y hx hx2
    rcases hnew y hx with h1 | h1
    · exact h.ap y h1 hx2
    · have := (h.dvNe hx2).2; omega

end

theorem sgInfo : (Tryz.prog.info? 97).map (fun i => (i.zero, i.size, i.bytes)) = some (some (.agg #[.string ⟨#[]⟩, .int .i64 0]), 2, 24) := by kernel_rfl

theorem ndInfo : (Tryz.prog.info? 24).map (fun i => (i.zero, i.size, i.bytes)) = some (some (.agg #[.string ⟨#[]⟩, .string ⟨#[]⟩, .int .i64 0, .slice none 0 0]), 4, 64) := by kernel_rfl

theorem wsNew (w : World) (x : List UInt8 × Nat) (X : ByteArray) (hX : ⟨x.1.toArray⟩ = X) (E : TypeId) : ∀ j u, (wsL x)[j]? = some u → (w.alloc (.cells #[.string X, .int .i64 x.2] E)).cell? ((⟨w.heap.size, 0, none⟩ : Addr).add j) = some u := fun j u hj => by
  unfold wsL at hj
  rw [hX] at hj
  rw [Addr.add_lit, Nat.zero_add, cell_of_row _ _ _ _ _ (0, 0) (heap_alloc_new w _)]
  simpa using hj

set_option maxHeartbeats 8000000 in
set_option maxRecDepth 100000 in
theorem wait_any (ts : List Tk) (rb : Nat) (a : Option Addr) (c p o n : Nat) (sg : List (List UInt8 × Nat)) (dn : List TN) (sv dv : Value) (q : List (Option Addr × Nat)) (x : List UInt8 × Nat) (w : World) (h : RG ts rb a c p o n sg dn sv dv q w) (hlt : p < ts.length) :
    Calls Tryz.prog 67 #[.pointer (some ⟨rb, 0, none⟩), .agg #[.string ⟨x.1.toArray⟩, .int .i64 x.2]] w fun e w' => KeptR rb w w' ∧
      (n = 32 → e = .returned (.int .i64 4) ∧ RG ts rb a c p o n sg dn sv dv q w') ∧ (¬ n = 32 → e = .returned (.int .i64 0) ∧ ∃ sv', RG ts rb a c (p + 1) o (n + 1) (x :: sg) dn sv' dv q w') := by
  obtain ⟨i0, hi, hz0, hz1, hz2⟩ := info_parts sgInfo
  have und : Tryz.prog.underlying 78 = some (.slice 97) := Tryz.underlying78
  obtain ⟨X, hX⟩ : ∃ X : ByteArray, ⟨x.1.toArray⟩ = X := ⟨_, rfl⟩
  rw [hX]
  have hrb := h.lt
  have BA := (Below.refl w.heap.size w).alloc (Nat.le_refl _) (.cells #[.string X, .int .i64 x.2] 97)
  have NB := heap_alloc_new w (.cells #[.string X, .int .i64 x.2] 97)
  have H1 := h.below BA
  have K1 := KeptR.below (rb := rb) BA
  generalize hW : w.alloc (.cells #[.string X, .int .i64 x.2] 97) = W at BA NB H1 K1
  have HH1 := Lib.hid H1
  have HNB := Lib.hid NB
  have HK1 := Lib.hid K1
  have HW := Lib.hid hW
  have C := Lib.hid (count_any ts rb a c p o n sv dv W H1.g hlt)
  clear h H1 NB BA K1 hW
  by_cases h32 : n = 32
  · have G32 := Lib.hid h32
    clear h32
    go_enter Tryz.func67, Tryz.ntmps67
    go_upto_region 1 with fail
    rw [HW.out]
    go_wp2_with fail
    refine C.out.mono ?_
    rintro e w2 ⟨hA, -⟩
    obtain ⟨rfl, rfl⟩ := hA G32.out
    go_wp2_with fail
    go_ret
    exact ⟨HK1.out, fun _ => ⟨rfl, HH1.out⟩, fun hn => absurd G32.out hn⟩
  · have G32 := Lib.hid h32
    clear h32
    go_enter Tryz.func67, Tryz.ntmps67
    go_upto_region 1 with fail
    rw [HW.out]
    go_wp2_with fail
    refine C.out.mono ?_
    rintro e w2 ⟨-, hB⟩
    obtain ⟨rfl, hPG, hk⟩ := hB G32.out
    have R2 := HH1.out.count hPG hk (Nat.le_succ n)
    have N2 := Lib.hid (hk.heap HNB.out (by omega))
    obtain ⟨⟨c0, c1, c2, c3, c4, c5⟩, f1, f2, f3, f4, f5⟩ := R2.g.r.cells
    have b0 : w2.cell? ⟨w.heap.size, 0, none⟩ = some (.string X) := by rw [cell_of_row _ _ _ _ _ (0, 0) N2.out]; rfl
    have b1 : w2.cell? ⟨w.heap.size, 1, none⟩ = some (.int .i64 x.2) := by rw [cell_of_row _ _ _ _ _ (0, 0) N2.out]; rfl
    have HR2 := Lib.hid R2
    have HK2 := Lib.hid (HK1.out.trans (KeptR.of hk))
    have hlen := HH1.out.hs
    have hn32 := R2.g.hn
    have NEW := Lib.hid (fun w => wsNew w x X hX 97)
    have hnil := Lib.hid hX
    have hsz := R2.lt
    have OD := Lib.hid (show w2.drew.ownsRow (rb + 1) 97 2 sv sg.length (wssL sg) from R2.so)
    clear hPG hk R2 C hX hB
    go_wp2_with fail
    go_region_law (first
      | (refine step_append_new rfl (.tmp 15) (.tmp 17) 78 rfl (base := rb + 1) und hi hz0 hz1 hz2 rfl (by decide) sv sg.length 1 (wssL sg) (wsL x) ⟨w2.heap.size, 0, none⟩ 1 (by first | (simp [Act.eval]; done) | fail) (by first | (simp [Act.eval]; done) | fail) (OD.out.alloc _) rfl (NEW.out w2.drew) (wsL_one x) (by unfold maxLen; omega) (by omega) (by simp; omega) ?_
         intro v3 w3 ho hg hq
         obtain ⟨va3, vc3, rfl⟩ := own_rowG ho
         have K3 := ((Kept.refl (fun b => sv.ownBlock = some b) w2).drew.alloc (.cells #[.string X, .int .i64 x.2] 97)).grown hg (fun k hk => .inl hk)
         have P3 := Lib.hid (HR2.out.put_sg (sg' := x :: sg) K3 ho (fun b hb => (hq b hb).imp id new_le) (by rw [List.length_cons]; omega))
         have KK := Lib.hid ((HK2.out.trans (K3.mono (fun k hk _ => by have := (HR2.out.svNe hk).1; omega))).set 4 (.slice va3 (sg.length + 1) vc3))
         have G3 := (HR2.out.g.kept K3 (fun k hk => (HR2.out.svNe hk).1)).r.cells
         clear ho hg hq K3 c0 c1 c2 c3 c4 c5 f1 f2 f3 f4 f5 b0 b1
         obtain ⟨⟨c0, c1, c2, c3, c4, c5⟩, f1, f2, f3, f4, f5⟩ := G3)
      | fail)
    all_goals
      go_wp2_with fail
      go_ret
      exact ⟨KK.out, fun hn => absurd hn G32.out, fun _ => ⟨rfl, _, P3.out⟩⟩

end

section
open Go.RowKit

theorem own_some {w : World} {B m size : Nat} {e : TypeId} {v : Value} {xs : List Value} (h : w.ownsRow B e size v m xs) (hm : m ≠ 0) : ∃ g c, v = .slice (some ⟨g, 0, none⟩) m c := by
  rcases h.2 with ⟨rfl, h0⟩ | ⟨g, cap, _, rfl, _⟩
  · exact absurd h0 hm
  · exact ⟨_, _, rfl⟩

/-- Four cells of the last element of an owned slice set. -/
theorem owns_set4 {w : World} {B : Nat} {e : TypeId} {g n cap : Nat} {xs : List Value} {z0 z1 z2 z3 : Value} (h : w.ownsRow B e 4 (.slice (some ⟨g, 0, none⟩) (n + 1) cap) (n + 1) (xs ++ [z0, z1, z2, z3])) (hl : xs.length = n * 4) (v0 v1 v2 v3 : Value) :
    ((((w.setCell ⟨g, n * 4, none⟩ v0).setCell ⟨g, n * 4 + 1, none⟩ v1).setCell ⟨g, n * 4 + 2, none⟩ v2).setCell ⟨g, n * 4 + 3, none⟩ v3).ownsRow B e 4 (.slice (some ⟨g, 0, none⟩) (n + 1) cap) (n + 1) (xs ++ [v0, v1, v2, v3]) := by
  refine ⟨by rw [List.length_append, hl]; simp; omega, ?_⟩
  rcases h.2 with ⟨h1, _⟩ | ⟨g', cap', cur, h1, hb, hg, hnc, hcm, hcs, ht⟩
  · cases h1
  · simp only [Value.slice.injEq, Option.some.injEq, Addr.mk.injEq, and_true, true_and] at h1
    obtain ⟨rfl, rfl⟩ := h1
    obtain ⟨cur', hc, hcl⟩ := heap_setCells g e [v0, v1, v2, v3] (n * 4) w cur hg (by simp; omega)
    have hw : w.setCells g (n * 4) [v0, v1, v2, v3] = (((w.setCell ⟨g, n * 4, none⟩ v0).setCell ⟨g, n * 4 + 1, none⟩ v1).setCell ⟨g, n * 4 + 2, none⟩ v2).setCell ⟨g, n * 4 + 3, none⟩ v3 := rfl
    rw [hw] at hc
    have hcs' : cur'.size = cur.size := by
      have e1 : cur'.toList.length = cur'.size := Array.length_toList
      have e2 : cur.toList.length = cur.size := Array.length_toList
      rw [hcl] at e1
      simp only [List.length_append, List.length_take, List.length_drop, List.length_cons, List.length_nil] at e1
      omega
    refine .inr ⟨g, cap, cur', rfl, hb, hc, hnc, hcm, by rw [hcs', hcs], ?_⟩
    have e1 : cur.toList.take (n * 4) = xs := by
      have h2 : cur.toList.take (n * 4) = (cur.toList.take ((n + 1) * 4)).take (n * 4) := by rw [List.take_take, Nat.min_eq_left (by omega)]
      rw [h2, ht, List.take_append_of_le_length (by omega), List.take_of_length_le (by omega)]
    rw [hcl, e1, List.take_append_of_le_length (by simp [hl]; omega), List.take_of_length_le (by simp [hl]; omega)]

theorem owns_cells4 {w : World} {B : Nat} {e : TypeId} {g n cap : Nat} {xs : List Value} {z0 z1 z2 z3 : Value} (h : w.ownsRow B e 4 (.slice (some ⟨g, 0, none⟩) (n + 1) cap) (n + 1) (xs ++ [z0, z1, z2, z3])) (hl : xs.length = n * 4) :
    (w.cell? ⟨g, n * 4, none⟩ = some z0 ∧ w.cell? ⟨g, n * 4 + 1, none⟩ = some z1 ∧ w.cell? ⟨g, n * 4 + 2, none⟩ = some z2 ∧ w.cell? ⟨g, n * 4 + 3, none⟩ = some z3) ∧
    (w.frozen? ⟨g, n * 4, none⟩ = false ∧ w.frozen? ⟨g, n * 4 + 1, none⟩ = false ∧ w.frozen? ⟨g, n * 4 + 2, none⟩ = false ∧ w.frozen? ⟨g, n * 4 + 3, none⟩ = false) := by
  have at_ : ∀ i, (xs ++ [z0, z1, z2, z3])[n * 4 + i]? = [z0, z1, z2, z3][i]? := fun i => by rw [← hl, List.getElem?_append_right (Nat.le_add_right _ _), Nat.add_sub_cancel_left]
  have c : ∀ i u, [z0, z1, z2, z3][i]? = some u → w.cell? ⟨g, n * 4 + i, none⟩ = some u := fun i u hu => by
    obtain ⟨g', h1, h2⟩ := owns_at h ((at_ i).trans hu)
    simp only [Addr.mk.injEq, and_true] at h1
    subst h1
    exact h2
  refine ⟨⟨c 0 _ rfl, c 1 _ rfl, c 2 _ rfl, c 3 _ rfl⟩, ?_⟩
  rcases h.2 with ⟨h1, _⟩ | ⟨g', cap', cur, h1, hb, hg, hnc, hcm, hcs, ht⟩
  · cases h1
  · simp only [Value.slice.injEq, Option.some.injEq, Addr.mk.injEq, and_true, true_and] at h1
    obtain ⟨rfl, rfl⟩ := h1
    refine ⟨?_, ?_, ?_, ?_⟩ <;> simp [World.frozen?, hg]

theorem setCell_comm (w : World) (a b : Addr) (h : a.block ≠ b.block) (u v : Value) : (w.setCell a u).setCell b v = (w.setCell b v).setCell a u := by
  unfold World.setCell
  simp only [World.mk.injEq, and_true]
  apply Array.ext_getElem?
  intro i
  simp only [Array.getElem?_modify]
  by_cases h1 : a.block = i
  · have h2 : ¬ b.block = i := fun e => h (h1.trans e.symm)
    simp [h1, h2]
  · simp [h1]

theorem set4_comm (w : World) (rb g o x : Nat) (h : rb ≠ g) (u v0 v1 v2 v3 : Value) : (((((w.setCell ⟨rb, x, none⟩ u).setCell ⟨g, o, none⟩ v0).setCell ⟨g, o + 1, none⟩ v1).setCell ⟨g, o + 2, none⟩ v2).setCell ⟨g, o + 3, none⟩ v3) =
    (((((w.setCell ⟨g, o, none⟩ v0).setCell ⟨g, o + 1, none⟩ v1).setCell ⟨g, o + 2, none⟩ v2).setCell ⟨g, o + 3, none⟩ v3).setCell ⟨rb, x, none⟩ u) := by
  rw [setCell_comm w ⟨rb, x, none⟩ ⟨g, o, none⟩ h, setCell_comm _ ⟨rb, x, none⟩ ⟨g, o + 1, none⟩ h, setCell_comm _ ⟨rb, x, none⟩ ⟨g, o + 2, none⟩ h, setCell_comm _ ⟨rb, x, none⟩ ⟨g, o + 3, none⟩ h]

theorem ndZero (w : World) (E : TypeId) : ∀ j u, (ndL zeroT (none, 0))[j]? = some u → (w.alloc (.cells #[.string ⟨#[]⟩, .string ⟨#[]⟩, .int .i64 0, .slice none 0 0] E)).cell? ((⟨w.heap.size, 0, none⟩ : Addr).add j) = some u := fun j u hj => by
  have e : ndL zeroT (none, 0) = [.string ⟨#[]⟩, .string ⟨#[]⟩, .int .i64 0, .slice none 0 0] := rfl
  rw [e] at hj
  rw [Addr.add_lit, Nat.zero_add, cell_of_row _ _ _ _ _ (0, 0) (heap_alloc_new w _)]
  simpa using hj

set_option maxHeartbeats 8000000 in
set_option maxRecDepth 100000 in
theorem leaf_any (ts : List Tk) (rb : Nat) (a : Option Addr) (c p o n : Nat) (sg : List (List UInt8 × Nat)) (dn : List TN) (sv dv : Value) (q : List (Option Addr × Nat)) (t : TN) (ht : t.ks = .nil) (w : World) (h : RG ts rb a c p o n sg dn sv dv q w) (hlt : p < ts.length) :
    Calls Tryz.prog 91 #[.pointer (some ⟨rb, 0, none⟩), .agg #[.string t.op, .string t.nm, .int .i64 t.n, .slice none 0 0]] w fun e w' => KeptR rb w w' ∧
      (n = 32 → e = .returned (.int .i64 4) ∧ RG ts rb a c p o n sg dn sv dv q w') ∧ (¬ n = 32 → e = .returned (.int .i64 0) ∧ ∃ dv' q', RG ts rb a c (p + 1) o (n + 1) sg (t :: dn) sv dv' q' w') := by
  obtain ⟨i0, hi, hz0, hz1, hz2⟩ := info_parts ndInfo
  have und : Tryz.prog.underlying 22 = some (.slice 24) := Tryz.underlying22
  have hrb := h.lt
  have BA := (Below.refl w.heap.size w).alloc (Nat.le_refl _) (.cells #[.string t.op, .string t.nm, .int .i64 t.n, .slice none 0 0] 24)
  have NB := heap_alloc_new w (.cells #[.string t.op, .string t.nm, .int .i64 t.n, .slice none 0 0] 24)
  have H1 := h.below BA
  have K1 := KeptR.below (rb := rb) BA
  generalize hW : w.alloc (.cells #[.string t.op, .string t.nm, .int .i64 t.n, .slice none 0 0] 24) = W at BA NB H1 K1
  have HH1 := Lib.hid H1
  have HNB := Lib.hid NB
  have HK1 := Lib.hid K1
  have HW := Lib.hid hW
  have HT := Lib.hid ht
  have C := Lib.hid (count_any ts rb a c p o n sv dv W H1.g hlt)
  clear h H1 NB BA K1 hW ht
  by_cases h32 : n = 32
  · have G32 := Lib.hid h32
    clear h32
    go_enter Tryz.func91, Tryz.ntmps91
    go_upto_region 1 with fail
    rw [HW.out]
    go_wp2_with fail
    refine C.out.mono ?_
    rintro e w2 ⟨hA, -⟩
    obtain ⟨rfl, rfl⟩ := hA G32.out
    go_wp2_with fail
    go_ret
    exact ⟨HK1.out, fun _ => ⟨rfl, HH1.out⟩, fun hn => absurd G32.out hn⟩
  · have G32 := Lib.hid h32
    clear h32
    go_enter Tryz.func91, Tryz.ntmps91
    go_upto_region 1 with fail
    rw [HW.out]
    go_wp2_with fail
    refine C.out.mono ?_
    rintro e w2 ⟨-, hB⟩
    obtain ⟨rfl, hPG, hk⟩ := hB G32.out
    have R2 := HH1.out.count hPG hk (Nat.le_succ n)
    have N2 := Lib.hid (hk.heap HNB.out (by omega))
    obtain ⟨⟨c0, c1, c2, c3, c4, c5⟩, f1, f2, f3, f4, f5⟩ := R2.g.r.cells
    have hb4 := (four N2.out).1
    have HR2 := Lib.hid R2
    have HK2 := Lib.hid (HK1.out.trans (KeptR.of hk))
    have hlen := HH1.out.hd
    have hlq := Lib.hid (dnK_len R2.dk)
    have hn32 := R2.g.hn
    have hsz := R2.lt
    have hw2 : w.heap.size < w2.heap.size := (Array.getElem?_eq_some_iff.1 N2.out).1
    have OD := Lib.hid (show w2.drew.ownsRow (rb + 1) 24 4 dv dn.length (dnL dn q) from R2.dw)
    obtain ⟨va, vc, hv⟩ := own_rowG R2.dw
    subst hv
    have a1 : (0 : Int) ≤ (dn.length : Int) := by omega
    have a2 : (dn.length : Int) < (dn.length : Int) + 1 := by omega
    have a3 : ((dn.length : Int)).toNat = dn.length := by omega
    clear hPG hk R2 C hB
    go_upto_region 4 with fail
    obtain ⟨b0, b1, b2, b3⟩ := hb4
    go_region_law (first
      | (refine step_append_new rfl (.tmp 14) (.tmp 17) 22 rfl (base := rb + 1) und hi hz0 hz1 hz2 rfl (by decide) (.slice va dn.length vc) dn.length 1 (dnL dn q) (ndL zeroT (none, 0)) ⟨w2.heap.size, 0, none⟩ 1 (by first | (simp [Act.eval]; done) | (simp [Act.eval, Act.put]; done) | fail) (by first | (simp [Act.eval]; done) | (simp [Act.eval, Act.put]; done) | fail) (OD.out.alloc _) rfl (ndZero w2.drew 24) (ndL_one zeroT _) (by unfold maxLen; omega) (by omega) (by simp; omega) ?_
         intro v3 w3 ho hg hq
         obtain ⟨g3, vc3, rfl⟩ := own_some ho (Nat.succ_ne_zero _)
         have Z3 := owns_cells4 ho (dnL_len hlq.out)
         have K3 := ((Kept.refl (fun b => (Value.slice va dn.length vc).ownBlock = some b) w2).drew.alloc (.cells #[.string ⟨#[]⟩, .string ⟨#[]⟩, .int .i64 0, .slice none 0 0] 24)).grown hg (fun k hk => .inl hk)
         have O4 := owns_set4 ho (dnL_len hlq.out) (.string t.op) (.string t.nm) (.int .i64 t.n) (.slice none 0 0)
         have hg3 := (hq g3 rfl).imp id new_le
         have K4 := (((K3.setCell (p := ⟨g3, dn.length * 4, none⟩) hg3 (.string t.op)).setCell (p := ⟨g3, dn.length * 4 + 1, none⟩) hg3 (.string t.nm)).setCell (p := ⟨g3, dn.length * 4 + 2, none⟩) hg3 (.int .i64 t.n)).setCell (p := ⟨g3, dn.length * 4 + 3, none⟩) hg3 (.slice none 0 0)
         have P3 := Lib.hid (HR2.out.put_dn (dn' := t :: dn) (q' := (none, 0) :: q) K4 (by rw [dnL, ndL, HT.out]; exact O4) (fun b hb => (hq b hb).imp id new_le) ⟨.inl HT.out, HR2.out.dk⟩ (by rw [List.length_cons]; omega))
         have KK := Lib.hid ((HK2.out.trans (K4.mono (fun k hk _ => by have := (HR2.out.dvNe hk).1; omega))).set 5 (.slice (some ⟨g3, 0, none⟩) (dn.length + 1) vc3))
         have hgb := (ho.lt g3 rfl).1
         have CM := Lib.hid (set4_comm w3 rb g3 (dn.length * 4) 5 (by omega) (.slice (some ⟨g3, 0, none⟩) (dn.length + 1) vc3) (.string t.op) (.string t.nm) (.int .i64 t.n) (.slice none 0 0))
         have G3 := (HR2.out.g.kept K3 (fun k hk => (HR2.out.dvNe hk).1)).r.cells
         clear ho hg hq K3 K4 O4 c0 c1 c2 c3 c4 c5 f1 f2 f3 f4 f5 b0 b1 b2 b3
         obtain ⟨⟨c0, c1, c2, c3, c4, c5⟩, f1, f2, f3, f4, f5⟩ := G3
         obtain ⟨⟨z0, z1, z2, z3⟩, y0, y1, y2, y3⟩ := Z3)
      | fail)
    all_goals
      first | rw [CM.out] | skip
      clear CM
      generalize (((((w3.setCell ⟨g3, dn.length * 4, none⟩ (.string t.op)).setCell ⟨g3, dn.length * 4 + 1, none⟩ (.string t.nm)).setCell ⟨g3, dn.length * 4 + 2, none⟩ (.int .i64 t.n)).setCell ⟨g3, dn.length * 4 + 3, none⟩ (.slice none 0 0)).setCell ⟨rb, 5, none⟩ (.slice (some ⟨g3, 0, none⟩) (dn.length + 1) vc3)) = V at P3 KK ⊢
      go_wp2_with fail
      go_ret
      exact ⟨KK.out, fun hn => absurd hn G32.out, fun _ => ⟨rfl, _, _, P3.out⟩⟩

end

section
open Go.RowKit

theorem own_new4 (w : World) (E : TypeId) (size : Nat) : (w.alloc (.cells #[] E)).ownsRow w.heap.size E size (.slice (some ⟨w.heap.size, 0, none⟩) 0 0) 0 [] :=
  World.ownsRow_made w #[] 0 (Nat.le_refl _) (Nat.zero_le _) (by simp)

set_option maxHeartbeats 4000000 in
set_option maxRecDepth 100000 in
theorem nClone_any (b : Addr) (n c : Nat) (xs : List Value) (hl : xs.length = n * 4) (hn : n ≤ 100) (w : World) (hc : ∀ j u, xs[j]? = some u → w.cell? (b.add j) = some u) (h1 : ∀ u ∈ xs, u.oneCell' = true) :
    Calls Tryz.prog 92 #[.slice (some b) n c] w fun e w' => ∃ v', e = .returned v' ∧ w'.ownsRow w.heap.size 24 4 v' n xs ∧ Below w.heap.size w w' := by
  obtain ⟨i0, hi, hz0, hz1, hz2⟩ := info_parts ndInfo
  have und : Tryz.prog.underlying 22 = some (.slice 24) := Tryz.underlying22
  have OA := Lib.hid (own_new4 w 24 4)
  have BA := Lib.hid ((Below.refl w.heap.size w).alloc (Nat.le_refl _) (.cells #[] 24))
  have HC := Lib.hid (p := ∀ j u, xs[j]? = some u → (w.alloc (.cells #[] 24)).cell? (b.add j) = some u) (fun j u hj => Lib.cell?_alloc_some _ (hc j u hj))
  have HL := Lib.hid hl
  have H1 := Lib.hid h1
  clear hc hl h1
  go_enter Tryz.func92, Tryz.ntmps92
  go_wp2
  rw [Lib.run_eql_slice_nil w _ _ _ _ _ _ _ und]
  simp only [Result.andThen]
  rw [Oper.upon_value]
  go_wp2_with (at_builtin; refine wpList_append_new rfl _ _ 22 rfl und hi hz0 hz1 hz2 rfl (by decide) _ 0 n c b [] xs rfl rfl OA.out HL.out HC.out H1.out (by unfold maxLen; omega) (by omega) (by simp) ?_)
  intro v' w2 ho hg _
  have O2 := Lib.hid ho
  have B2 := Lib.hid (BA.out.grown hg (by simp) (fun k hk => by simp [Value.ownBlock] at hk; omega))
  clear ho hg
  go_wp2_with fail
  go_ret
  exact ⟨v', rfl, by simpa using O2.out, B2.out⟩

/-- How many of the signs take two. -/
def bins : List (List UInt8 × Nat) → Nat
  | [] => 0
  | x :: r => bins r + (if x.1 = bNeg then 0 else 1)

def SgOk (sg : List (List UInt8 × Nat)) : Prop := ∀ x ∈ sg, x.1 = bNeg ∨ signO x.1

theorem arity_neg : arity ⟨bNeg.toArray⟩ = 1 := by decide

theorem arity_sign {o : List UInt8} (h : signO o) : arity ⟨o.toArray⟩ = 2 ∧ o ≠ bNeg := by
  rcases h with rfl | rfl | rfl | rfl | rfl <;> decide

theorem join_bal {h : Nat} : ∀ {sg : List (List UInt8 × Nat)} {dn : List TN}, SgOk sg → dn.length = bins sg + 1 → SgOk (joinS h sg dn).1 ∧ (joinS h sg dn).2.length = bins (joinS h sg dn).1 + 1
  | [], dn, _, hd => ⟨fun _ hx => (by cases hx), hd⟩
  | (o, k) :: sg, dn, hs, hd => by
    rw [joinS]
    by_cases hk : h ≤ k
    · rw [if_pos hk]
      refine join_bal (fun x hx => hs x (List.mem_cons_of_mem _ hx)) ?_
      rw [bins] at hd
      unfold joinOne
      by_cases ho : o = bNeg
      · rw [if_pos ho] at hd ⊢
        cases dn with
        | nil => simp at hd
        | cons a r => simpa using hd
      · rw [if_neg ho] at hd ⊢
        match dn, hd with
        | [], hd => simp at hd
        | [a], hd => simp at hd
        | b :: a :: r, hd => simp at hd ⊢; omega
    · rw [if_neg hk]; exact ⟨hs, hd⟩

theorem own_full {w : World} {B m size : Nat} {e : TypeId} {v : Value} {xs : List Value} (h : w.ownsRow B e size v m xs) (hm : m ≠ 0) : ∃ g c, v = .slice (some ⟨g, 0, none⟩) m c ∧ m ≤ c ∧ c ≤ maxLen ∧ ∀ j u, xs[j]? = some u → w.cell? ⟨g, j, none⟩ = some u := by
  rcases h.2 with ⟨rfl, h0⟩ | ⟨g, cap, _, rfl, _, _, h1, h2, _⟩
  · exact absurd h0 hm
  · refine ⟨g, cap, rfl, h1, h2, fun j u hj => ?_⟩
    obtain ⟨g', h1, h2⟩ := owns_at h hj
    simp only [Addr.mk.injEq, and_true] at h1
    subst h1
    exact h2

theorem reads_one {G : Nat → Prop} {w : World} {g : Nat} {t : TN} {q : Option Addr × Nat} {r : F} {off : Nat} (hG : G g) (hlt : g < w.heap.size) (hc : ∀ j u, (ndL t q)[j]? = some u → w.cell? ⟨g, off + j, none⟩ = some u) (hk : ReadsN G w q.1 t.ks) (hr : ReadsF G w r g (off + 4)) : ReadsF G w (.cons t.op t.nm t.n t.ks r) g off :=
  ⟨hG, hlt, ⟨q.1, q.2, ⟨hc 0 _ rfl, hc 1 _ rfl, hc 2 _ rfl, hc 3 _ rfl⟩, hk⟩, hr⟩

section

variable {x : Nat} {ts : List Tk} {rb : Nat} {a : Option Addr} {c p o n : Nat} {sg : List (List UInt8 × Nat)} {dn : List TN} {sv dv : Value} {q : List (Option Addr × Nat)} {w w' : World}

/-- The last sign gone. -/
theorem RGx.pop {y : List UInt8 × Nat} {g vc : Nat} (h : RGx x ts rb a c p o n (y :: sg) dn (.slice (some ⟨g, 0, none⟩) (sg.length + 1) vc) dv q w) : RGx x ts rb a c p o n sg dn (.slice (some ⟨g, 0, none⟩) sg.length vc) dv q (w.setCell ⟨rb, 4, none⟩ (.slice (some ⟨g, 0, none⟩) sg.length vc)) := by
  have ho := owns_take (m := sg.length) h.so (by simp) (by simp)
  rw [wssL, List.take_append_of_le_length (by rw [wssL_len]; exact Nat.le_refl _), List.take_of_length_le (by rw [wssL_len]; exact Nat.le_refl _)] at ho
  exact h.put_sg (Kept.refl _ w) ho (fun b hb => .inl hb) (by have := h.hs; simp at this; omega)

/-- Trees taken into a new one. -/
theorem RGx.take {w1 w3 : World} {dn1 : List TN} {q1 : List (Option Addr × Nat)} {t : TN} {dv' : Value} {gk ck : Nat} {obj : Obj} (h : RGx x ts rb a c p o n sg dn sv dv q w1)
    (hg : (w1.alloc obj).grownBy w3 dv.ownBlock) (hrow : w3.ownsRow (rb + 1) 24 4 dv' (dn1.length + 1) (dnL dn1 q1 ++ ndL t (some ⟨gk, 0, none⟩, ck)))
    (hnew : ∀ b, dv'.ownBlock = some b → dv.ownBlock = some b ∨ w1.heap.size + 1 ≤ b) (hk1 : DnK (Gk x rb sv dv) w1 dn1 q1) (hkt : ReadsN (Gk x rb sv dv) w1 (some ⟨gk, 0, none⟩) t.ks) (hd : dn1.length + 1 ≤ n) :
    RGx x ts rb a c p o n sg (t :: dn1) sv dv' ((some ⟨gk, 0, none⟩, ck) :: q1) (w3.setCell ⟨rb, 5, none⟩ dv') ∧ KeptR rb w1 (w3.setCell ⟨rb, 5, none⟩ dv') := by
  have K3 := ((Kept.refl (fun b => dv.ownBlock = some b) w1).alloc obj).grown hg (fun k hk => .inl hk)
  exact ⟨h.put_dn (dn' := t :: dn1) K3 hrow (fun b hb => (hnew b hb).imp id (fun hle => by omega)) ⟨hkt, hk1⟩ (by rw [List.length_cons]; omega),
    (K3.mono (T := fun b => rb ≤ b) (fun k hk _ => Nat.le_of_lt (h.dvNe hk).1)).setCell (p := ⟨rb, 5, none⟩) (.inl (Nat.le_refl _)) dv'⟩

end

/-- What join leaves. -/
def JoinR (x : Nat) (ts : List Tk) (rb : Nat) (a : Option Addr) (c p o n : Nat) (r : List (List UInt8 × Nat) × List TN) (w0 w' : World) : Prop := KeptR rb w0 w' ∧ ∃ sv dv q, RGx x ts rb a c p o n r.1 r.2 sv dv q w'

/-- The blocks that are no rows stay as they were. -/
structure Fr (rb : Nat) (sv dv : Value) (w : World) (sv1 dv1 : Value) (w1 : World) : Prop where
  b : ∀ b, b < w.heap.size → b ≠ rb → sv.ownBlock ≠ some b → dv.ownBlock ≠ some b → w1.heap[b]? = w.heap[b]?
  s : ∀ b, sv1.ownBlock = some b → sv.ownBlock = some b ∨ w.heap.size ≤ b
  d : ∀ b, dv1.ownBlock = some b → dv.ownBlock = some b ∨ w.heap.size ≤ b
  z : w.heap.size ≤ w1.heap.size

theorem Fr.step {rb : Nat} {sv dv sv1 dv1 sv2 dv2 : Value} {w wr w1 w3 : World} (h : Fr rb sv dv w sv1 dv1 wr) (hb : Below wr.heap.size wr w1) (hk : Kept (fun b => dv1.ownBlock = some b) w1 w3) (hs : sv2.ownBlock = sv1.ownBlock) (hd : ∀ b, dv2.ownBlock = some b → dv1.ownBlock = some b ∨ w1.heap.size + 1 ≤ b) (x y : Nat) (u v : Value) :
    Fr rb sv dv w sv2 dv2 ((w3.setCell ⟨rb, x, none⟩ u).setCell ⟨rb, y, none⟩ v) := by
  have hz := h.z
  have hz1 := hb.size
  have hz3 := hk.size
  have ks := (((Kept.refl (· = rb) w3).setCell (p := ⟨rb, x, none⟩) (.inl rfl) u).setCell (p := ⟨rb, y, none⟩) (.inl rfl) v)
  have hz4 := ks.size
  refine ⟨fun b h1 h2 h3 h4 => ?_, fun b hb2 => h.s b (by rw [← hs]; exact hb2), fun b hb2 => ?_, by omega⟩
  · rw [ks.block b (by omega) h2, hk.block b (by omega) (fun e => (h.d b e).elim h4 (fun hle => by omega)), hb.block b (by omega)]
    exact h.b b h1 h2 h3 h4
  · rcases hd b hb2 with h1 | h1
    · exact h.d b h1
    · exact .inr (by omega)

set_option maxHeartbeats 8000000 in
set_option maxRecDepth 100000 in
theorem join_fr (x : Nat) (ts : List Tk) (rb : Nat) (a : Option Addr) (c p o n h : Nat) (sg : List (List UInt8 × Nat)) (dn : List TN) (sv dv : Value) (q : List (Option Addr × Nat)) (w : World) (H : RGx x ts rb a c p o n sg dn sv dv q w) (hs : SgOk sg) (hd : dn.length = bins sg + 1) :
    Calls Tryz.prog 66 #[.pointer (some ⟨rb, 0, none⟩), .int .i64 h] w fun e w' => e = .returned (.tuple #[]) ∧ JoinR x ts rb a c p o n (joinS h sg dn) w w' ∧ (∀ b, b < w.heap.size → b ≠ rb → sv.ownBlock ≠ some b → dv.ownBlock ≠ some b → w'.heap[b]? = w.heap[b]?) := by
  obtain ⟨i0, hi, hz0, hz1, hz2⟩ := info_parts ndInfo
  have und : Tryz.prog.underlying 22 = some (.slice 24) := Tryz.underlying22
  obtain ⟨r0, hr0⟩ : ∃ r, joinS h sg dn = r := ⟨_, rfl⟩
  rw [hr0]
  have K0 := Lib.hid (KeptR.refl rb w)
  have HR := Lib.hid H
  have HS := Lib.hid hs
  have HD := Lib.hid hd
  have HE := Lib.hid hr0
  have hslen := H.hs
  have hn32 := H.g.hn
  obtain ⟨va, vc, hv⟩ := own_rowG H.so
  subst hv
  obtain ⟨⟨c0, c1, c2, c3, c4, c5⟩, f1, f2, f3, f4, f5⟩ := H.g.r.cells
  clear hs hd hr0 H
  go_enter Tryz.func66, Tryz.ntmps66
  go_wp2_with fail
  go_loopg [4] sg.length (fun g v wr => ∃ (z : Int) (sg1 : List (List UInt8 × Nat)) (dn1 : List TN) (sv1 dv1 : Value) (q1 : List (Option Addr × Nat)), v = .int .i64 z ∧ z = (sg1.length : Int) - 1 ∧ sg1.length ≤ g ∧ Hid (RGx x ts rb a c p o n sg1 dn1 sv1 dv1 q1 wr) ∧ Hid (SgOk sg1) ∧ Hid (dn1.length = bins sg1 + 1) ∧ Hid (joinS h sg1 dn1 = r0) ∧ Hid (KeptR rb w wr) ∧ Hid (Fr rb (.slice va sg.length vc) dv w sv1 dv1 wr))
  case atStart => exact ⟨_, sg, dn, _, dv, q, rfl, by first | rfl | (simp; done) | omega, Nat.le_refl _, HR, HS, HD, HE, K0, Lib.hid ⟨fun _ _ _ _ _ => rfl, fun _ h => .inl h, fun _ h => .inl h, Nat.le_refl _⟩⟩
  case round =>
    obtain ⟨z, sg1, dn1, sv1, dv1, q1, rfl, hz, hg, hR, hS, hD, hE, hK, hF⟩ := hrel
    clear c0 c1 c2 c3 c4 c5 f1 f2 f3 f4 f5
    cases sg1 with
    | nil =>
      have a0 : ¬ (0 : Int) ≤ z := by rw [hz]; simp
      clear hz
      have E := Lib.hid (show r0 = ([], dn1) by rw [← hE.out]; rfl)
      go_wp2_with fail
      go_end0
      rw [E.out]
      exact ⟨rfl, ⟨hK.out, _, _, _, hR.out⟩, hF.out.b⟩
    | cons y r =>
      obtain ⟨o', k⟩ := y
      obtain rfl : z = (r.length : Int) := by rw [hz, List.length_cons]; omega
      have R1 := hR.out
      obtain ⟨g, vc1, hv, hvc, hvm, hcs⟩ := own_full R1.so (by simp)
      have s0 := hcs (r.length * 2) (.string ⟨o'.toArray⟩) (by rw [wssL, List.getElem?_append_right (by rw [wssL_len]; exact Nat.le_refl _), wssL_len, Nat.sub_self]; rfl)
      have s1 := hcs (r.length * 2 + 1) (.int .i64 k) (by rw [wssL, List.getElem?_append_right (by rw [wssL_len]; omega), wssL_len, show r.length * 2 + 1 - r.length * 2 = 1 by omega]; rfl)
      subst hv
      have hrl := R1.hs
      rw [List.length_cons] at hrl hvc hg
      obtain ⟨⟨c0, c1, c2, c3, c4, c5⟩, f1, f2, f3, f4, f5⟩ := R1.g.r.cells
      rw [List.length_cons] at c4
      have a1 : (0 : Int) ≤ (r.length : Int) := by omega
      have a2 : (r.length : Int) < (r.length : Int) + 1 := by omega
      have a3 : ((r.length : Int)).toNat = r.length := by omega
      clear hcs R1 hz
      by_cases hk : h ≤ k
      · have b1 : (h : Int) ≤ (k : Int) := by omega
        have KO := Lib.hid (fun w => kidsOf_any ⟨o'.toArray⟩ w)
        have hlq := dnK_len hR.out.dk
        by_cases ho : o' = bNeg
        · subst ho
          rw [arity_neg] at KO
          obtain ⟨t1, r1, rfl⟩ : ∃ t r, dn1 = t :: r := by
            cases dn1 with
            | nil => exact absurd hD.out (by simp)
            | cons t r => exact ⟨t, r, rfl⟩
          obtain ⟨qa, q2, rfl⟩ : ∃ a b, q1 = a :: b := by
            cases q1 with
            | nil => simp at hlq
            | cons a b => exact ⟨a, b, rfl⟩
          obtain ⟨d, vd, hv, hvd, hvm2, hcs⟩ := own_full hR.out.dw (by simp)
          subst hv
          have hl2 : q2.length = r1.length := by simpa using hlq
          have hdl := dnL_len hl2
          have HC := Lib.hid (p := ∀ j u, (ndL t1 qa)[j]? = some u → wr.cell? ((⟨d, r1.length * 4, none⟩ : Addr).add j) = some u) (fun j u hj => by
            rw [Addr.add_lit]
            refine hcs _ _ ?_
            rw [dnL, List.getElem?_append_right (by omega), hdl, Nat.add_sub_cancel_left]
            exact hj)
          have CL := Lib.hid (fun nq c => nClone_any ⟨d, r1.length * 4, none⟩ 1 c (ndL t1 qa) rfl (by omega) (wr.drewN nq) HC.out (ndL_one t1 qa))
          rw [List.length_cons] at c5 hvd
          have d1 : (0 : Int) ≤ (r1.length : Int) := by omega
          have d2 : (r1.length : Int) ≤ (r1.length : Int) + 1 := by omega
          have d3 : ((r1.length : Int)).toNat = r1.length := by omega
          have d4 : (r1.length : Int) ≤ (vd : Int) := by omega
          have hdn := hR.out.hd
          rw [List.length_cons] at hdn
          have OT := owns_take (m := r1.length) hR.out.dw (by rw [List.length_cons]; omega) (by simp)
          rw [dnL, List.take_append_of_le_length (by rw [hdl]; exact Nat.le_refl _), List.take_of_length_le (by rw [hdl]; exact Nat.le_refl _)] at OT
          have OT2 := Lib.hid OT
          clear hcs hlq OT
          go_upto_region 4 with fail
          go_upto_region 5 with (go_quiet ((go_at_call 40; refine (KO.out _).mono ?_; rintro e w' ⟨he, rfl⟩; exact ⟨he, _, rfl⟩)))
          go_wp2_with fail
          refine (CL.out _ _).mono ?_
          rintro e w1 ⟨v1, rfl, hro, hb⟩
          obtain ⟨gk1, ck, rfl, -, -, hcell⟩ := own_full hro (by decide)
          have hbb : Below wr.heap.size wr w1 := ⟨hb.os, hb.tape, hb.output, hb.size, hb.block⟩
          have R2 := hR.out.below hbb
          have hgk := (hro.lt gk1 rfl)
          have hwr := hR.out.lt
          have GK : Gk x rb (.slice (some ⟨g, 0, none⟩) (r.length + 1) vc1) (.slice (some ⟨d, 0, none⟩) (r1.length + 1) vd) gk1 := by
            have hz : (wr.drewN nq).heap.size = wr.heap.size := rfl
            have k1 : g < wr.heap.size := (hR.out.svNe rfl).2
            have k2 : d < wr.heap.size := (hR.out.dvNe rfl).2
            have k3 : x < wr.heap.size := hR.out.hx
            exact ⟨by omega, by omega, fun e => by have := Option.some.inj (show some g = some gk1 from e); omega, fun e => by have := Option.some.inj (show some d = some gk1 from e); omega⟩
          have KT : ReadsN (Gk x rb (.slice (some ⟨g, 0, none⟩) (r.length + 1) vc1) (.slice (some ⟨d, 0, none⟩) (r1.length + 1) vd)) w1 (some ⟨gk1, 0, none⟩) (negT t1).ks := .inr ⟨gk1, 0, rfl, reads_one (q := qa) (t := t1) GK hgk.2 (fun j u hj => by rw [Nat.zero_add]; exact hcell j u hj) R2.dk.1 trivial⟩
          have DK2 := R2.dk.2
          have OT3 := Lib.hid (owns_below OT2.out hbb)
          have NEW := Lib.hid (p := ∀ j u, (ndL (negT t1) (some ⟨gk1, 0, none⟩, ck))[j]? = some u → (w1.alloc (.cells #[.string ⟨bNeg.toArray⟩, .string ⟨#[]⟩, .int .i64 0, .slice (some ⟨gk1, 0, none⟩) 1 ck] 24)).cell? ((⟨w1.heap.size, 0, none⟩ : Addr).add j) = some u) (fun j u hj => by
            have e : ndL (negT t1) (some ⟨gk1, 0, none⟩, ck) = (#[.string ⟨bNeg.toArray⟩, .string ⟨#[]⟩, .int .i64 0, .slice (some ⟨gk1, 0, none⟩) 1 ck] : Array Value).toList := rfl
            rw [e] at hj
            rw [Addr.add_lit, Nat.zero_add, cell_of_row _ _ _ _ _ (0, 0) (heap_alloc_new w1 _)]
            simpa using hj)
          clear c0 c1 c2 c3 c4 c5 f1 f2 f3 f4 f5 s0 s1
          obtain ⟨⟨c0, c1, c2, c3, c4, c5⟩, f1, f2, f3, f4, f5⟩ := R2.g.r.cells
          rw [List.length_cons] at c4
          rw [List.length_cons] at c5
          have HR2 := Lib.hid R2
          have HKT := Lib.hid KT
          have HDK := Lib.hid DK2
          have HBB := Lib.hid hbb
          have hsz2 := R2.lt
          clear hro hb hcell R2 KT DK2 GK hbb CL HC
          go_wp2_with (at_builtin; refine wpList_append_new rfl _ _ 22 rfl und hi hz0 hz1 hz2 rfl (by decide) (.slice (some ⟨d, 0, none⟩) r1.length vd) r1.length 1 1 ⟨w1.heap.size, 0, none⟩ (dnL r1 q2) (ndL (negT t1) (some ⟨gk1, 0, none⟩, ck)) rfl rfl (OT3.out.alloc _) rfl NEW.out (ndL_one _ _) (by unfold maxLen; omega) (by omega) (by simp; omega) ?_)
          intro v3 w3 ho3 hg3 hq3
          obtain ⟨gg, cc3, rfl⟩ := own_some ho3 (Nat.succ_ne_zero _)
          obtain ⟨P3, K3⟩ := HR2.out.take hg3 ho3 hq3 HDK.out HKT.out (by omega)
          have KD := (((Kept.refl (fun b => (Value.slice (some ⟨d, 0, none⟩) (r1.length + 1) vd).ownBlock = some b) w1).alloc _).grown hg3 (fun k hk => .inl hk))
          have F4 := Lib.hid (hF.out.step (sv2 := .slice (some ⟨g, 0, none⟩) r.length vc1) (dv2 := .slice (some ⟨gg, 0, none⟩) (r1.length + 1) cc3) HBB.out KD rfl hq3 5 4 (.slice (some ⟨gg, 0, none⟩) (r1.length + 1) cc3) (.slice (some ⟨g, 0, none⟩) r.length vc1))
          clear KD
          have G3 := ((HR2.out.g.kept (((Kept.refl (fun b => (Value.slice (some ⟨d, 0, none⟩) (r1.length + 1) vd).ownBlock = some b) w1).alloc _).grown hg3 (fun k hk => .inl hk)) (fun k hk => (HR2.out.dvNe hk).1)).r.cells)
          have P4 := Lib.hid P3.pop
          have K4 := Lib.hid (((hK.out.trans (KeptR.below HBB.out)).trans K3).set 4 (.slice (some ⟨g, 0, none⟩) r.length vc1))
          clear c0 c1 c2 c3 c4 c5 f1 f2 f3 f4 f5 ho3 hg3 hq3 P3 K3
          obtain ⟨⟨c0, c1, c2, c3, c4, c5⟩, f1, f2, f3, f4, f5⟩ := G3
          rw [List.length_cons] at c4
          rw [List.length_cons] at c5
          have S5 := Lib.hid (show SgOk r from fun x hx => hS.out x (List.mem_cons_of_mem _ hx))
          have D5 := Lib.hid (show ((negT t1) :: r1).length = bins r + 1 by have := hD.out; rw [bins, if_pos rfl] at this; simp at this ⊢; omega)
          have E5 := Lib.hid (show joinS h r ((negT t1) :: r1) = r0 by rw [← hE.out]; conv => rhs; rw [joinS, if_pos hk, joinOne, if_pos rfl])
          have r1a : (r.length : Int) ≤ (r.length : Int) + 1 := by omega
          have r1b : (r.length : Int) ≤ (vc1 : Int) := by omega
          clear hk
          go_wp2_with fail
          go_roundg r.length
          case measure => omega
          case rel => exact ⟨(r.length : Int) - 1, r, (negT t1) :: r1, _, _, _, rfl, rfl, Nat.le_refl _, P4, S5, D5, E5, K4, F4⟩
        · have hso : signO o' := (hS.out _ List.mem_cons_self).resolve_left ho
          rw [(arity_sign hso).1] at KO
          obtain ⟨t2, t1, r1, rfl⟩ : ∃ t s r, dn1 = t :: s :: r := by
            have h0 := hD.out
            rw [bins, if_neg ho] at h0
            match dn1, h0 with
            | [], h0 => simp at h0
            | [_], h0 => simp at h0
            | t :: s :: r, _ => exact ⟨t, s, r, rfl⟩
          obtain ⟨qb, qa, q2, rfl⟩ : ∃ a b c, q1 = a :: b :: c := by
            match q1, hlq with
            | [], h0 => simp at h0
            | [_], h0 => simp at h0
            | a :: b :: c, _ => exact ⟨a, b, c, rfl⟩
          obtain ⟨d, vd, hv, hvd, hvm2, hcs⟩ := own_full hR.out.dw (by simp)
          subst hv
          have hl2 : q2.length = r1.length := by simpa using hlq
          have hdl := dnL_len hl2
          have HC := Lib.hid (p := ∀ j u, (ndL t1 qa ++ ndL t2 qb)[j]? = some u → wr.cell? ((⟨d, r1.length * 4, none⟩ : Addr).add j) = some u) (fun j u hj => by
            rw [Addr.add_lit]
            refine hcs _ _ ?_
            rw [dnL, dnL, List.append_assoc, List.getElem?_append_right (by omega), hdl, Nat.add_sub_cancel_left]
            exact hj)
          have CL := Lib.hid (fun nq c => nClone_any ⟨d, r1.length * 4, none⟩ 2 c (ndL t1 qa ++ ndL t2 qb) rfl (by omega) (wr.drewN nq) HC.out (fun u hu => (List.mem_append.1 hu).elim (ndL_one t1 qa u) (ndL_one t2 qb u)))
          rw [List.length_cons, List.length_cons] at c5 hvd
          have d1 : (0 : Int) ≤ (r1.length : Int) := by omega
          have d2 : (r1.length : Int) ≤ (r1.length : Int) + 2 := by omega
          have d3 : ((r1.length : Int)).toNat = r1.length := by omega
          have d4 : (r1.length : Int) ≤ (vd : Int) := by omega
          have d5 : (r1.length : Int) ≤ (r1.length : Int) + 1 + 1 := by omega
          have d6 : (r1.length : Int) + 1 + 1 - 2 = (r1.length : Int) := by omega
          have d7 : r1.length + 1 + 1 - r1.length = 2 := by omega
          have hdn := hR.out.hd
          rw [List.length_cons, List.length_cons] at hdn
          have OT := owns_take (m := r1.length) hR.out.dw (by rw [List.length_cons, List.length_cons]; omega) (by simp)
          rw [dnL, dnL, List.append_assoc, List.take_append_of_le_length (by rw [hdl]; exact Nat.le_refl _), List.take_of_length_le (by rw [hdl]; exact Nat.le_refl _)] at OT
          have OT2 := Lib.hid OT
          clear hcs hlq OT
          go_upto_region 4 with fail
          go_upto_region 5 with (go_quiet ((go_at_call 40; refine (KO.out _).mono ?_; rintro e w' ⟨he, rfl⟩; exact ⟨he, _, rfl⟩)))
          go_wp2_with fail
          refine (CL.out _ _).mono ?_
          rintro e w1 ⟨v1, rfl, hro, hb⟩
          obtain ⟨gk1, ck, rfl, -, -, hcell⟩ := own_full hro (by decide)
          have hbb : Below wr.heap.size wr w1 := ⟨hb.os, hb.tape, hb.output, hb.size, hb.block⟩
          have R2 := hR.out.below hbb
          have hgk := (hro.lt gk1 rfl)
          have hwr := hR.out.lt
          have GK : Gk x rb (.slice (some ⟨g, 0, none⟩) (r.length + 1) vc1) (.slice (some ⟨d, 0, none⟩) (r1.length + 1 + 1) vd) gk1 := by
            have hz : (wr.drewN nq).heap.size = wr.heap.size := rfl
            have k1 : g < wr.heap.size := (hR.out.svNe rfl).2
            have k2 : d < wr.heap.size := (hR.out.dvNe rfl).2
            have k3 : x < wr.heap.size := hR.out.hx
            exact ⟨by omega, by omega, fun e => by have := Option.some.inj (show some g = some gk1 from e); omega, fun e => by have := Option.some.inj (show some d = some gk1 from e); omega⟩
          have KT : ReadsN (Gk x rb (.slice (some ⟨g, 0, none⟩) (r.length + 1) vc1) (.slice (some ⟨d, 0, none⟩) (r1.length + 1 + 1) vd)) w1 (some ⟨gk1, 0, none⟩) (twoT o' t1 t2).ks := .inr ⟨gk1, 0, rfl, reads_one (q := qa) (t := t1) GK hgk.2 (fun j u hj => by
            have hj4 : j < 4 := (List.getElem?_eq_some_iff.1 hj).1
            rw [Nat.zero_add]; exact hcell j u (by rw [List.getElem?_append_left (by exact hj4)]; exact hj)) R2.dk.2.1 (reads_one (q := qb) (t := t2) GK hgk.2 (fun j u hj => hcell (0 + 4 + j) u (by rw [List.getElem?_append_right (by show 4 ≤ _; omega), show 0 + 4 + j - (ndL t1 qa).length = j by show 0 + 4 + j - 4 = j; omega]; exact hj)) R2.dk.1 trivial)⟩
          have DK2 := R2.dk.2.2
          have OT3 := Lib.hid (owns_below OT2.out hbb)
          have NEW := Lib.hid (p := ∀ j u, (ndL (twoT o' t1 t2) (some ⟨gk1, 0, none⟩, ck))[j]? = some u → (w1.alloc (.cells #[.string ⟨o'.toArray⟩, .string ⟨#[]⟩, .int .i64 0, .slice (some ⟨gk1, 0, none⟩) 2 ck] 24)).cell? ((⟨w1.heap.size, 0, none⟩ : Addr).add j) = some u) (fun j u hj => by
            have e : ndL (twoT o' t1 t2) (some ⟨gk1, 0, none⟩, ck) = (#[.string ⟨o'.toArray⟩, .string ⟨#[]⟩, .int .i64 0, .slice (some ⟨gk1, 0, none⟩) 2 ck] : Array Value).toList := rfl
            rw [e] at hj
            rw [Addr.add_lit, Nat.zero_add, cell_of_row _ _ _ _ _ (0, 0) (heap_alloc_new w1 _)]
            simpa using hj)
          clear c0 c1 c2 c3 c4 c5 f1 f2 f3 f4 f5 s0 s1
          obtain ⟨⟨c0, c1, c2, c3, c4, c5⟩, f1, f2, f3, f4, f5⟩ := R2.g.r.cells
          rw [List.length_cons] at c4
          rw [List.length_cons, List.length_cons] at c5
          have HR2 := Lib.hid R2
          have HKT := Lib.hid KT
          have HDK := Lib.hid DK2
          have HBB := Lib.hid hbb
          have hsz2 := R2.lt
          clear hro hb hcell R2 KT DK2 GK hbb CL HC
          go_wp2_with (at_builtin; refine wpList_append_new rfl _ _ 22 rfl und hi hz0 hz1 hz2 rfl (by decide) (.slice (some ⟨d, 0, none⟩) r1.length vd) r1.length 1 1 ⟨w1.heap.size, 0, none⟩ (dnL r1 q2) (ndL (twoT o' t1 t2) (some ⟨gk1, 0, none⟩, ck)) rfl rfl (OT3.out.alloc _) rfl NEW.out (ndL_one _ _) (by unfold maxLen; omega) (by omega) (by simp; omega) ?_)
          intro v3 w3 ho3 hg3 hq3
          obtain ⟨gg, cc3, rfl⟩ := own_some ho3 (Nat.succ_ne_zero _)
          obtain ⟨P3, K3⟩ := HR2.out.take hg3 ho3 hq3 HDK.out HKT.out (by omega)
          have KD := (((Kept.refl (fun b => (Value.slice (some ⟨d, 0, none⟩) (r1.length + 1 + 1) vd).ownBlock = some b) w1).alloc _).grown hg3 (fun k hk => .inl hk))
          have F4 := Lib.hid (hF.out.step (sv2 := .slice (some ⟨g, 0, none⟩) r.length vc1) (dv2 := .slice (some ⟨gg, 0, none⟩) (r1.length + 1) cc3) HBB.out KD rfl hq3 5 4 (.slice (some ⟨gg, 0, none⟩) (r1.length + 1) cc3) (.slice (some ⟨g, 0, none⟩) r.length vc1))
          clear KD
          have G3 := ((HR2.out.g.kept (((Kept.refl (fun b => (Value.slice (some ⟨d, 0, none⟩) (r1.length + 1 + 1) vd).ownBlock = some b) w1).alloc _).grown hg3 (fun k hk => .inl hk)) (fun k hk => (HR2.out.dvNe hk).1)).r.cells)
          have P4 := Lib.hid P3.pop
          have K4 := Lib.hid (((hK.out.trans (KeptR.below HBB.out)).trans K3).set 4 (.slice (some ⟨g, 0, none⟩) r.length vc1))
          clear c0 c1 c2 c3 c4 c5 f1 f2 f3 f4 f5 ho3 hg3 hq3 P3 K3
          obtain ⟨⟨c0, c1, c2, c3, c4, c5⟩, f1, f2, f3, f4, f5⟩ := G3
          rw [List.length_cons] at c4
          rw [List.length_cons, List.length_cons] at c5
          have S5 := Lib.hid (show SgOk r from fun x hx => hS.out x (List.mem_cons_of_mem _ hx))
          have D5 := Lib.hid (show ((twoT o' t1 t2) :: r1).length = bins r + 1 by have := hD.out; rw [bins, if_neg ho] at this; simp at this ⊢; omega)
          have E5 := Lib.hid (show joinS h r ((twoT o' t1 t2) :: r1) = r0 by rw [← hE.out]; conv => rhs; rw [joinS, if_pos hk, joinOne, if_neg ho])
          have r1a : (r.length : Int) ≤ (r.length : Int) + 1 := by omega
          have r1b : (r.length : Int) ≤ (vc1 : Int) := by omega
          clear hk
          go_wp2_with fail
          go_roundg r.length
          case measure => omega
          case rel => exact ⟨(r.length : Int) - 1, r, (twoT o' t1 t2) :: r1, _, _, _, rfl, rfl, Nat.le_refl _, P4, S5, D5, E5, K4, F4⟩
      · have b1 : ¬ (h : Int) ≤ (k : Int) := by omega
        have E := Lib.hid (show r0 = ((o', k) :: r, dn1) by rw [← hE.out, joinS, if_neg hk])
        clear hk
        go_wp2_with fail
        go_end0
        rw [E.out]
        exact ⟨rfl, ⟨hK.out, _, _, _, hR.out⟩, hF.out.b⟩

theorem join_any (ts : List Tk) (rb : Nat) (a : Option Addr) (c p o n h : Nat) (sg : List (List UInt8 × Nat)) (dn : List TN) (sv dv : Value) (q : List (Option Addr × Nat)) (w : World) (H : RG ts rb a c p o n sg dn sv dv q w) (hs : SgOk sg) (hd : dn.length = bins sg + 1) :
    Calls Tryz.prog 66 #[.pointer (some ⟨rb, 0, none⟩), .int .i64 h] w fun e w' => e = .returned (.tuple #[]) ∧ JoinR rb ts rb a c p o n (joinS h sg dn) w w' :=
  (join_fr rb ts rb a c p o n h sg dn sv dv q w H hs hd).mono fun _ _ hP => ⟨hP.1, hP.2.1⟩

end

section
open Go.RowKit

theorem good_no {s : ByteArray} (h : s.size < 1 ∨ 8 < s.size) : goodB s.data.toList = false := by
  have hl : s.data.toList.length = s.size := by simp
  cases e : s.data.toList with
  | nil => rfl
  | cons c r =>
    rw [e] at hl
    rw [good_cons, decide_eq_false (by simp at hl; omega), Bool.and_false, Bool.false_and]

theorem good_at {s : ByteArray} (h : 1 ≤ s.size) (h8 : s.size ≤ 8) : goodB s.data.toList = (smallB s[0] && s.data.toList.all alnumB) := by
  have hl : s.data.toList.length = s.size := by simp
  have h0 : s.data.toList[0]? = some s[0] := List.getElem?_eq_getElem (by omega)
  cases e : s.data.toList with
  | nil => rw [e] at hl; simp at hl; omega
  | cons c r =>
    rw [e] at hl h0
    have : c = s[0] := by simpa using h0
    subst this
    rw [good_cons, decide_eq_true (by simp at hl; omega), Bool.and_true, List.all_cons]
    unfold alnumB
    cases smallB s[0] <;> simp

theorem all_no {s : ByteArray} {j : Nat} (hj : j < s.size) (h : alnumB s[j] = false) : s.data.toList.all alnumB = false := by
  rw [List.all_eq_false]
  exact ⟨s[j], List.mem_iff_getElem.2 ⟨j, by simpa using hj, rfl⟩, by rw [h]; simp⟩

theorem all_yes {s : ByteArray} (h : ∀ j (hj : j < s.size), alnumB s[j] = true) : s.data.toList.all alnumB = true := by
  rw [List.all_eq_true]
  intro c hc
  obtain ⟨j, hj, rfl⟩ := List.mem_iff_getElem.1 hc
  exact h j (by simpa using hj)

set_option maxHeartbeats 2000000 in
theorem rName_any (s : ByteArray) (hm : s.size ≤ 281474976710656) (w : World) : Calls Tryz.prog 38 #[.string s] w fun e w' => e = .returned (.bool (goodB s.data.toList)) ∧ w = w' := by
  by_cases h1 : s.size < 1 ∨ 8 < s.size
  · have R := Lib.hid (good_no h1)
    rcases h1 with h1 | h1
    · go_enter Tryz.func38, Tryz.ntmps38
      go_wp2_with fail
      go_ret
      exact ⟨ret_b (a := false) R.out.symm, rfl⟩
    · have h2 : 1 ≤ s.size := by omega
      go_enter Tryz.func38, Tryz.ntmps38
      go_wp2_with fail
      go_ret
      exact ⟨ret_b (a := false) R.out.symm, rfl⟩
  · have h2 : 1 ≤ s.size := by omega
    have h3 : s.size ≤ 8 := by omega
    have R := Lib.hid (good_at h2 h3)
    obtain ⟨c, hc⟩ : ∃ c : Int, (s[0].toNat : Int) = c := ⟨_, rfl⟩
    have hs : smallB s[0] = (decide (97 ≤ c) && decide (c ≤ 122)) := by unfold smallB; rw [hc]
    by_cases k : 97 ≤ c ∧ c ≤ 122
    · obtain ⟨k1, k2⟩ := k
      have R2 := Lib.hid (R.out.trans (by rw [hs, decide_eq_true k1, decide_eq_true k2]; rfl : _ = s.data.toList.all alnumB))
      clear R hs h1
      go_enter Tryz.func38, Tryz.ntmps38
      go_wp2_with fail
      go_loop [3] (fun i => ∃ k : Nat, k ≤ s.size ∧ i = .int .i64 k ∧ Hid (∀ j (hj : j < s.size), j < k → alnumB s[j] = true)) (fun i => s.size - (intOf i).toNat)
      case atStart => exact ⟨0, Nat.zero_le _, rfl, Lib.hid (fun j _ h => by omega)⟩
      case round =>
        obtain ⟨k, hk, rfl, hok⟩ := hrel
        by_cases hlt : k < s.size
        · obtain ⟨d, hd⟩ : ∃ c : Int, (s[k].toNat : Int) = c := ⟨_, rfl⟩
          have hb : alnumB s[k] = (decide (97 ≤ d) && decide (d ≤ 122) || decide (48 ≤ d) && decide (d ≤ 57)) := by unfold alnumB smallB digitB; rw [hd]
          have hcase : (97 ≤ d ∧ d ≤ 122) ∨ (48 ≤ d ∧ d ≤ 57) ∨ d < 48 ∨ (57 < d ∧ d < 97) ∨ 122 < d := by omega
          rcases hcase with ⟨g1, g2⟩ | ⟨g1, g2⟩ | g1 | ⟨g1, g2⟩ | g1
          · have hok1 := Lib.hid (show ∀ j (hj : j < s.size), j < k + 1 → alnumB s[j] = true from fun j hj hjk => by
              by_cases e : j = k
              · subst e; rw [hb, decide_eq_true g1, decide_eq_true g2]; rfl
              · exact hok.out j hj (by omega))
            clear hb
            go_wp2_with fail
            go_round
            case rel => exact ⟨k + 1, by omega, by go_num, hok1⟩
            case measure => simp [intOf]; omega
          · have hok1 := Lib.hid (show ∀ j (hj : j < s.size), j < k + 1 → alnumB s[j] = true from fun j hj hjk => by
              by_cases e : j = k
              · subst e; rw [hb, decide_eq_true g1, decide_eq_true g2, Bool.and_self, Bool.or_true]
              · exact hok.out j hj (by omega))
            have g3 : d < 97 := by omega
            clear hb
            go_wp2_with fail
            go_round
            case rel => exact ⟨k + 1, by omega, by go_num, hok1⟩
            case measure => simp [intOf]; omega
          · have R3 := Lib.hid (R2.out.trans (all_no hlt (by rw [hb, decide_eq_false (by omega), decide_eq_false (p := 48 ≤ d) (by omega)]; rfl)))
            have g3 : d < 97 := by omega
            clear hb
            go_wp2_with fail
            go_ret
            exact ⟨ret_b (a := false) R3.out.symm, rfl⟩
          · have R3 := Lib.hid (R2.out.trans (all_no hlt (by rw [hb, decide_eq_false (by omega), decide_eq_false (p := d ≤ 57) (by omega)]; simp)))
            have g3 : 48 ≤ d := by omega
            clear hb
            go_wp2_with fail
            go_ret
            exact ⟨ret_b (a := false) R3.out.symm, rfl⟩
          · have R3 := Lib.hid (R2.out.trans (all_no hlt (by rw [hb, decide_eq_false (p := d ≤ 122) (by omega), decide_eq_false (p := d ≤ 57) (by omega)]; simp)))
            have g3 : 97 ≤ d := by omega
            have g4 : 48 ≤ d := by omega
            have g5 : 57 < d := by omega
            clear hb
            go_wp2_with fail
            go_ret
            exact ⟨ret_b (a := false) R3.out.symm, rfl⟩
        · have R3 := Lib.hid (R2.out.trans (all_yes fun j hj => hok.out j hj (by omega)))
          go_wp2_with fail
          go_ret
          exact ⟨ret_b (a := true) R3.out.symm, rfl⟩
    · have hb : (decide (97 ≤ c) && decide (c ≤ 122)) = false := by
        rcases Int.lt_or_le c 97 with h | h
        · rw [decide_eq_false (by omega)]; rfl
        · rw [decide_eq_true h, decide_eq_false (by omega)]; rfl
      have R2 := Lib.hid (R.out.trans (by rw [hs, hb]; rfl : _ = false))
      clear hb R hs h1
      have k' : c < 97 ∨ (97 ≤ c ∧ 122 < c) := by omega
      clear k
      rcases k' with k | ⟨k, k'⟩
      · go_enter Tryz.func38, Tryz.ntmps38
        go_wp2_with fail
        go_ret
        exact ⟨ret_b (a := false) R2.out.symm, rfl⟩
      · go_enter Tryz.func38, Tryz.ntmps38
        go_wp2_with fail
        go_ret
        exact ⟨ret_b (a := false) R2.out.symm, rfl⟩

end

end Go.Proofs.YtcmcnmmhkpolcaaGreatDoor
