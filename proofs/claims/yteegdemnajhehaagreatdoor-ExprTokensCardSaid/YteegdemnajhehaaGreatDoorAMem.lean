/-
  No statement: the parser as a plain function; trees in the memory.
-/
import Derived.Test.YteegdemnajhehaaGreatDoorAMath
import Derived.Test.YteegdemnajhehaaGreatDoorLTokens
namespace Go.Proofs.YteegdemnajhehaaGreatDoor
open Go.RowKit

/-- A reader: where it stands, how many nodes were made, the first error, its place. -/
structure RS where
  pos : Nat
  cnt : Nat
  bad : Int
  whr : Nat

def failR (e : Int) (s : RS) : RS := if s.bad = 0 then ⟨s.pos, s.cnt, e, s.pos⟩ else s
def tickR (s : RS) : RS := if s.bad = 0 then (if 32 < s.cnt + 1 then ⟨s.pos + 1, s.cnt + 1, 4, s.pos⟩ else ⟨s.pos + 1, s.cnt + 1, 0, s.whr⟩) else ⟨s.pos + 1, s.cnt, s.bad, s.whr⟩
def stepR (s : RS) : RS := ⟨s.pos + 1, s.cnt, s.bad, s.whr⟩

/-- Is that sign at that place? -/
def isS (L : List Tk) (x : List UInt8) (p : Nat) : Bool := match L[p]? with
  | some t => t.kind == 3 && t.text == x
  | none => false
def isM (L : List Tk) (p : Nat) : Bool := isS L [42] p || isS L [47] p || isS L [37] p
def isA (L : List Tk) (p : Nat) : Bool := isS L [43] p || isS L [45] p
def opAt (L : List Tk) (p : Nat) : List UInt8 := match L[p]? with
  | some t => t.text
  | none => []
def closeR (L : List Tk) (s : RS) : RS := stepR (if (s.bad == 0 && !isS L [41] s.pos) = true then failR 2 s else s)

def zeroT : TN := ⟨⟨#[]⟩, ⟨#[]⟩, 0, .nil⟩
def numT (v : Int) : TN := ⟨⟨#[110, 117, 109]⟩, ⟨#[]⟩, v, .nil⟩
def nameT (x : List UInt8) : TN := ⟨⟨#[110, 97, 109, 101]⟩, ⟨x.toArray⟩, 0, .nil⟩
def negT (k : TN) : TN := ⟨⟨#[110, 101, 103]⟩, ⟨#[]⟩, 0, k.f⟩
def twoT (o : List UInt8) (a b : TN) : TN := ⟨⟨o.toArray⟩, ⟨#[]⟩, 0, .cons a.op a.nm a.n a.ks b.f⟩

/-- What is read: a factor; a product, a sum, and each from behind its first part on. -/
inductive Md | fac | prod | sum | prodL (n : TN) | sumL (n : TN)

def pr (L : List Tk) : Nat → Md → RS → TN × RS
  | 0, _, s => (zeroT, s)
  | f + 1, .fac, s =>
    if s.bad = 0 then
      match L[s.pos]? with
      | none => (zeroT, failR 2 s)
      | some t =>
        if t.kind = 2 then (numT t.num, tickR s)
        else if t.kind = 1 then (nameT t.text, tickR s)
        else if t.text = [45] then (negT (pr L f .fac (tickR s)).1, (pr L f .fac (tickR s)).2)
        else if t.text = [40] then ((pr L f .sum (stepR s)).1, closeR L (pr L f .sum (stepR s)).2)
        else (zeroT, failR 2 s)
    else (zeroT, s)
  | f + 1, .prod, s => pr L f (.prodL (pr L f .fac s).1) (pr L f .fac s).2
  | f + 1, .prodL n, s => if (s.bad == 0 && isM L s.pos) = true then pr L f (.prodL (twoT (opAt L s.pos) n (pr L f .fac (tickR s)).1)) (pr L f .fac (tickR s)).2 else (n, s)
  | f + 1, .sum, s => pr L f (.sumL (pr L f .prod s).1) (pr L f .prod s).2
  | f + 1, .sumL n, s => if (s.bad == 0 && isA L s.pos) = true then pr L f (.sumL (twoT (opAt L s.pos) n (pr L f .prod (tickR s)).1)) (pr L f .prod (tickR s)).2 else (n, s)

theorem fail_pos (e : Int) (s : RS) : (failR e s).pos = s.pos := by unfold failR; split <;> rfl
theorem tick_pos (s : RS) : (tickR s).pos = s.pos + 1 := by
  unfold tickR
  split
  · split <;> rfl
  · rfl
theorem close_pos (L : List Tk) (s : RS) : (closeR L s).pos = s.pos + 1 := by
  unfold closeR stepR
  split
  · show (failR 2 s).pos + 1 = _
    rw [fail_pos]
  · rfl

theorem pr_pos (L : List Tk) : ∀ (f : Nat) (md : Md) (s : RS), s.pos ≤ (pr L f md s).2.pos
  | 0, _, s => Nat.le_refl _
  | f + 1, .fac, s => by
    rw [pr]
    by_cases hb : s.bad = 0
    · rw [if_pos hb]
      cases L[s.pos]? with
      | none => simp only; rw [fail_pos]; exact Nat.le_refl _
      | some t =>
        simp only
        by_cases h2 : t.kind = 2
        · rw [if_pos h2]; simp only; rw [tick_pos]; omega
        rw [if_neg h2]
        by_cases h1 : t.kind = 1
        · rw [if_pos h1]; simp only; rw [tick_pos]; omega
        rw [if_neg h1]
        by_cases h45 : t.text = [45]
        · rw [if_pos h45]; simp only
          have := pr_pos L f .fac (tickR s)
          rw [tick_pos] at this; omega
        rw [if_neg h45]
        by_cases h40 : t.text = [40]
        · rw [if_pos h40]; simp only
          have := pr_pos L f .sum (stepR s)
          rw [close_pos]
          have e : (stepR s).pos = s.pos + 1 := rfl
          omega
        rw [if_neg h40]; simp only; rw [fail_pos]; exact Nat.le_refl _
    · rw [if_neg hb]; exact Nat.le_refl _
  | f + 1, .prod, s => by
    rw [pr]
    exact Nat.le_trans (pr_pos L f .fac s) (pr_pos L f _ _)
  | f + 1, .prodL n, s => by
    rw [pr]
    split
    · refine Nat.le_trans ?_ (pr_pos L f _ _)
      have := pr_pos L f .fac (tickR s)
      rw [tick_pos] at this; omega
    · exact Nat.le_refl _
  | f + 1, .sum, s => by
    rw [pr]
    exact Nat.le_trans (pr_pos L f .prod s) (pr_pos L f _ _)
  | f + 1, .sumL n, s => by
    rw [pr]
    split
    · refine Nat.le_trans ?_ (pr_pos L f _ _)
      have := pr_pos L f .prod (tickR s)
      rw [tick_pos] at this; omega
    · exact Nat.le_refl _

/-- How much is enough. -/
def need (m : Nat) : Md → Nat
  | .fac => 4 * m + 1
  | .prod => 4 * m + 2
  | .prodL _ => 4 * m + 1
  | .sum => 4 * m + 3
  | .sumL _ => 4 * m + 1

theorem isS_lt {L : List Tk} {x : List UInt8} {p : Nat} (h : isS L x p = true) : p < L.length := by
  unfold isS at h
  cases e : L[p]? with
  | none => rw [e] at h; cases h
  | some t => exact (List.getElem?_eq_some_iff.1 e).1
theorem isM_lt {L : List Tk} {p : Nat} (h : isM L p = true) : p < L.length := by
  unfold isM at h
  simp only [Bool.or_eq_true] at h
  rcases h with (h | h) | h <;> exact isS_lt h
theorem isA_lt {L : List Tk} {p : Nat} (h : isA L p = true) : p < L.length := by
  unfold isA at h
  simp only [Bool.or_eq_true] at h
  rcases h with h | h <;> exact isS_lt h

/-- With enough, more is the same. -/
theorem pr_fuel (L : List Tk) : ∀ (f g : Nat) (md : Md) (s : RS), need (L.length - s.pos) md ≤ f → f ≤ g → pr L g md s = pr L f md s
  | 0, _, md, s, h, _ => by cases md <;> simp [need] at h
  | f + 1, 0, _, _, _, h => by omega
  | f + 1, g + 1, .fac, s, h, hg => by
    simp only [need] at h
    rw [pr, pr]
    by_cases hb : s.bad = 0
    · rw [if_pos hb, if_pos hb]
      cases e : L[s.pos]? with
      | none => rfl
      | some t =>
        have hlt := (List.getElem?_eq_some_iff.1 e).1
        have e1 := pr_fuel L f g .fac (tickR s) (by rw [tick_pos]; simp only [need]; omega) (by omega)
        have e2 := pr_fuel L f g .sum (stepR s) (by show need (L.length - (s.pos + 1)) _ ≤ f; simp only [need]; omega) (by omega)
        rw [e1, e2]
    · rw [if_neg hb, if_neg hb]
  | f + 1, g + 1, .prod, s, h, hg => by
    simp only [need] at h
    rw [pr, pr]
    rw [pr_fuel L f g .fac s (by simp only [need]; omega) (by omega)]
    have hp := pr_pos L f .fac s
    exact pr_fuel L f g _ _ (by simp only [need]; omega) (by omega)
  | f + 1, g + 1, .prodL n, s, h, hg => by
    simp only [need] at h
    rw [pr, pr]
    by_cases hc : (s.bad == 0 && isM L s.pos) = true
    · rw [if_pos hc, if_pos hc]
      have hlt := isM_lt (by simp only [Bool.and_eq_true] at hc; exact hc.2)
      rw [pr_fuel L f g .fac (tickR s) (by rw [tick_pos]; simp only [need]; omega) (by omega)]
      have hp := pr_pos L f .fac (tickR s)
      rw [tick_pos] at hp
      exact pr_fuel L f g _ _ (by simp only [need]; omega) (by omega)
    · rw [if_neg hc, if_neg hc]
  | f + 1, g + 1, .sum, s, h, hg => by
    simp only [need] at h
    rw [pr, pr]
    rw [pr_fuel L f g .prod s (by simp only [need]; omega) (by omega)]
    have hp := pr_pos L f .prod s
    exact pr_fuel L f g _ _ (by simp only [need]; omega) (by omega)
  | f + 1, g + 1, .sumL n, s, h, hg => by
    simp only [need] at h
    rw [pr, pr]
    by_cases hc : (s.bad == 0 && isA L s.pos) = true
    · rw [if_pos hc, if_pos hc]
      have hlt := isA_lt (by simp only [Bool.and_eq_true] at hc; exact hc.2)
      rw [pr_fuel L f g .prod (tickR s) (by rw [tick_pos]; simp only [need]; omega) (by omega)]
      have hp := pr_pos L f .prod (tickR s)
      rw [tick_pos] at hp
      exact pr_fuel L f g _ _ (by simp only [need]; omega) (by omega)
    · rw [if_neg hc, if_neg hc]

/-- The parser, whatever its measure. -/
def pE (L : List Tk) (md : Md) (s : RS) : TN × RS := pr L (4 * (L.length - s.pos) + 4) md s

theorem pE_is {L : List Tk} {f : Nat} {md : Md} {s : RS} (h : need (L.length - s.pos) md ≤ f) : pr L f md s = pE L md s := by
  have h4 : need (L.length - s.pos) md ≤ 4 * (L.length - s.pos) + 4 := by cases md <;> simp [need]
  unfold pE
  rcases Nat.le_total f (4 * (L.length - s.pos) + 4) with h1 | h1
  · exact (pr_fuel L _ _ md s h h1).symm
  · exact pr_fuel L _ _ md s h4 h1

theorem pE_pos (L : List Tk) (md : Md) (s : RS) : s.pos ≤ (pE L md s).2.pos := pr_pos L _ md s

theorem pE_fac (L : List Tk) (s : RS) : pE L .fac s = if s.bad = 0 then
      match L[s.pos]? with
      | none => (zeroT, failR 2 s)
      | some t =>
        if t.kind = 2 then (numT t.num, tickR s)
        else if t.kind = 1 then (nameT t.text, tickR s)
        else if t.text = [45] then (negT (pE L .fac (tickR s)).1, (pE L .fac (tickR s)).2)
        else if t.text = [40] then ((pE L .sum (stepR s)).1, closeR L (pE L .sum (stepR s)).2)
        else (zeroT, failR 2 s)
    else (zeroT, s) := by
  unfold pE
  rw [pr]
  by_cases hb : s.bad = 0
  · rw [if_pos hb, if_pos hb]
    cases e : L[s.pos]? with
    | none => rfl
    | some t =>
      have hlt := (List.getElem?_eq_some_iff.1 e).1
      have e1 := pE_is (L := L) (f := 4 * (L.length - s.pos) + 3) (md := .fac) (s := tickR s) (by rw [tick_pos]; simp only [need]; omega)
      have e2 := pE_is (L := L) (f := 4 * (L.length - s.pos) + 3) (md := .sum) (s := stepR s) (by show need (L.length - (s.pos + 1)) _ ≤ _; simp only [need]; omega)
      simp only
      rw [e1, e2]
      rfl
  · rw [if_neg hb, if_neg hb]

theorem pE_prod (L : List Tk) (s : RS) : pE L .prod s = pE L (.prodL (pE L .fac s).1) (pE L .fac s).2 := by
  conv => lhs; unfold pE
  rw [pr, pE_is (md := .fac) (by simp only [need]; omega)]
  have hp := pE_pos L .fac s
  exact pE_is (by simp only [need]; omega)

theorem pE_prodL (L : List Tk) (n : TN) (s : RS) : pE L (.prodL n) s = if (s.bad == 0 && isM L s.pos) = true then pE L (.prodL (twoT (opAt L s.pos) n (pE L .fac (tickR s)).1)) (pE L .fac (tickR s)).2 else (n, s) := by
  conv => lhs; unfold pE
  rw [pr]
  by_cases hc : (s.bad == 0 && isM L s.pos) = true
  · rw [if_pos hc, if_pos hc]
    have hlt := isM_lt (by simp only [Bool.and_eq_true] at hc; exact hc.2)
    rw [pE_is (md := .fac) (by rw [tick_pos]; simp only [need]; omega)]
    have hp := pE_pos L .fac (tickR s)
    rw [tick_pos] at hp
    exact pE_is (by simp only [need]; omega)
  · rw [if_neg hc, if_neg hc]

theorem pE_sum (L : List Tk) (s : RS) : pE L .sum s = pE L (.sumL (pE L .prod s).1) (pE L .prod s).2 := by
  conv => lhs; unfold pE
  rw [pr, pE_is (md := .prod) (by simp only [need]; omega)]
  have hp := pE_pos L .prod s
  exact pE_is (by simp only [need]; omega)

theorem pE_sumL (L : List Tk) (n : TN) (s : RS) : pE L (.sumL n) s = if (s.bad == 0 && isA L s.pos) = true then pE L (.sumL (twoT (opAt L s.pos) n (pE L .prod (tickR s)).1)) (pE L .prod (tickR s)).2 else (n, s) := by
  conv => lhs; unfold pE
  rw [pr]
  by_cases hc : (s.bad == 0 && isA L s.pos) = true
  · rw [if_pos hc, if_pos hc]
    have hlt := isA_lt (by simp only [Bool.and_eq_true] at hc; exact hc.2)
    rw [pE_is (md := .prod) (by rw [tick_pos]; simp only [need]; omega)]
    have hp := pE_pos L .prod (tickR s)
    rw [tick_pos] at hp
    exact pE_is (by simp only [need]; omega)
  · rw [if_neg hc, if_neg hc]

/-- What Of answers: a tree and the place behind, or an error and its place. -/
inductive OfEnd | bad (p : Nat) (e : Int) | ok (t : TN) (p : Nat)
def ofL (L : List Tk) (p : Nat) : OfEnd := if (pE L .sum ⟨p, 0, 0, 0⟩).2.bad = 0 then .ok (pE L .sum ⟨p, 0, 0, 0⟩).1 (pE L .sum ⟨p, 0, 0, 0⟩).2.pos else .bad (pE L .sum ⟨p, 0, 0, 0⟩).2.whr (pE L .sum ⟨p, 0, 0, 0⟩).2.bad

/-- Where a token is in the text; of the end: the text's length. -/
def placeT (n : Nat) (L : List Tk) (p : Nat) : Nat := match L[p]? with
  | some t => t.place
  | none => n

inductive PxEnd | bad (p : Nat) (e : Int) | ok (t : TN)
/-- What Parse answers. -/
def parseX (l : List UInt8) : PxEnd := match lexT l with
  | .bad p e => .bad p e
  | .ok L => match ofL L 0 with
    | .bad p e => .bad (placeT l.length L p) e
    | .ok t p => if p < L.length then .bad (placeT l.length L p) 2 else .ok t

end Go.Proofs.YteegdemnajhehaaGreatDoor

namespace Go.Proofs.YteegdemnajhehaaGreatDoor
open Go.RowKit

/-- Tokens lie one behind the other. -/
def ReadsT (w : World) (a : Option Addr) (ts : List Tk) : Prop :=
  ts = [] ∨ ∃ b off, a = some ⟨b, off, none⟩ ∧ b < w.heap.size ∧ ∀ j (h : j < ts.length), w.cell? ⟨b, off + j * 4, none⟩ = some (.int .i64 ts[j].kind) ∧ w.cell? ⟨b, off + j * 4 + 1, none⟩ = some (.string ⟨ts[j].text.toArray⟩) ∧
    w.cell? ⟨b, off + j * 4 + 2, none⟩ = some (.int .i64 ts[j].num) ∧ w.cell? ⟨b, off + j * 4 + 3, none⟩ = some (.int .i64 ts[j].place)

theorem ReadsT.kept {w w' : World} {a : Option Addr} {ts : List Tk} (h : ReadsT w a ts) (hb : Below w.heap.size w w') : ReadsT w' a ts := by
  rcases h with h | ⟨b, off, rfl, hlt, hc⟩
  · exact .inl h
  · refine .inr ⟨b, off, rfl, Nat.lt_of_lt_of_le hlt hb.size, fun j hj => ?_⟩
    obtain ⟨c0, c1, c2, c3⟩ := hc j hj
    exact ⟨(hb.cell (p := ⟨b, _, none⟩) hlt).trans c0, (hb.cell (p := ⟨b, _, none⟩) hlt).trans c1, (hb.cell (p := ⟨b, _, none⟩) hlt).trans c2, (hb.cell (p := ⟨b, _, none⟩) hlt).trans c3⟩

theorem readsT_own {w : World} {B : Nat} {E : TypeId} {a : Option Addr} {c : Nat} {ts : List Tk} (h : w.ownsRow B E 4 (.slice a ts.length c) ts.length (tksL ts)) : ReadsT w a ts := by
  have h0 := h
  rcases h.2 with ⟨hs, hn⟩ | ⟨g, cap, cur, hs, _, hg, _⟩
  · exact .inl (List.length_eq_zero_iff.1 hn)
  · simp only [Value.slice.injEq] at hs
    obtain ⟨rfl, _, rfl⟩ := hs
    have cell : ∀ j i u, j < ts.length → i < 4 → (tksL ts)[j * 4 + i]? = some u → w.cell? ⟨g, 0 + j * 4 + i, none⟩ = some u := fun j i u hj hi hu => by
      obtain ⟨g', hg', hc⟩ := owns_at h0 hu
      simp only [Addr.mk.injEq, and_true] at hg'
      subst hg'
      rw [Nat.zero_add]
      exact hc
    refine .inr ⟨g, 0, rfl, lt_block hg, fun j hj => ?_⟩
    have at4 : ∀ i, i < 4 → (tksL ts)[j * 4 + i]? = (tkL ts[j])[i]? := fun i hi => tksL_at ts hj hi
    exact ⟨cell j 0 _ hj (by omega) (at4 0 (by omega)), cell j 1 _ hj (by omega) (at4 1 (by omega)), cell j 2 _ hj (by omega) (at4 2 (by omega)), cell j 3 _ hj (by omega) (at4 3 (by omega))⟩

/-- What was written ahead of the k-th token. -/
def preT (ts : List Tk) (k : Nat) : List UInt8 := textsT (ts.take k)

theorem preT_succ (ts : List Tk) {k : Nat} (h : k < ts.length) : preT ts (k + 1) = if k = 0 then ts[k].text else preT ts k ++ [32] ++ ts[k].text := by
  unfold preT textsT
  rw [List.take_succ_eq_append_getElem h, List.map_append]
  show joinB (_ ++ [ts[k].text]) = _
  rw [join_snoc]
  by_cases h0 : k = 0
  · subst h0; rfl
  · rw [if_neg h0, if_neg (by
      intro e
      have := congrArg List.length e
      rw [List.length_map, List.length_take, List.length_nil] at this
      omega)]
    simp

theorem preT_all (ts : List Tk) : preT ts ts.length = textsT ts := by unfold preT; rw [List.take_length]

theorem preT_len (ts : List Tk) (k : Nat) : (preT ts k).length ≤ (ts.map fun t => t.text.length).sum + ts.length := by
  have h := join_len ((ts.take k).map (·.text))
  rw [List.map_map, List.length_map] at h
  have e : (List.length ∘ fun t : Tk => t.text) = fun t : Tk => t.text.length := rfl
  rw [e, List.length_take] at h
  have h2 : ((ts.take k).map fun t => t.text.length).sum ≤ (ts.map fun t => t.text.length).sum := by
    conv => rhs; rw [← List.take_append_drop k ts]
    rw [List.map_append, List.sum_append]
    omega
  unfold preT textsT
  omega

end Go.Proofs.YteegdemnajhehaaGreatDoor

namespace Go.Proofs.YteegdemnajhehaaGreatDoor
open Go.RowKit

/-- Rows of trees in memory, one node behind the other in four cells, in blocks that G allows. -/
def ReadsF (G : Nat → Prop) (w : World) : F → Nat → Nat → Prop
  | .nil, _, _ => True
  | .cons o m n ks r, b, off => G b ∧ b < w.heap.size ∧ (∃ (a : Option Addr) (c : Nat), (w.cell? ⟨b, off, none⟩ = some (.string o) ∧ w.cell? ⟨b, off + 1, none⟩ = some (.string m) ∧ w.cell? ⟨b, off + 2, none⟩ = some (.int .i64 n) ∧ w.cell? ⟨b, off + 3, none⟩ = some (.slice a ks.len c)) ∧
      (ks = .nil ∨ ∃ b' off', a = some ⟨b', off', none⟩ ∧ ReadsF G w ks b' off')) ∧ ReadsF G w r b (off + 4)

/-- A row of trees that a slice holds. -/
def ReadsN (G : Nat → Prop) (w : World) (a : Option Addr) (ks : F) : Prop := ks = .nil ∨ ∃ b off, a = some ⟨b, off, none⟩ ∧ ReadsF G w ks b off

/-- The same, in blocks from lo on. -/
abbrev ReadsK (lo : Nat) (w : World) (a : Option Addr) (ks : F) : Prop := ReadsN (fun b => lo ≤ b) w a ks

/-- A tree's node as a value. -/
abbrev nodeV (o m : ByteArray) (n : Int) (a : Option Addr) (l c : Nat) : Value := .agg #[.string o, .string m, .int .i64 n, .slice a l c]

theorem ReadsF.imp {G H : Nat → Prop} {w : World} (hG : ∀ b, b < w.heap.size → G b → H b) : ∀ {f : F} {b off : Nat}, ReadsF G w f b off → ReadsF H w f b off
  | .nil, _, _, _ => trivial
  | .cons _ _ _ _ _, _, _, ⟨h1, h2, ⟨a, c, hc, hk⟩, hr⟩ => ⟨hG _ h2 h1, h2, ⟨a, c, hc, hk.imp id fun ⟨b', off', e, h⟩ => ⟨b', off', e, h.imp hG⟩⟩, hr.imp hG⟩

theorem ReadsF.keptS {S G : Nat → Prop} {w w' : World} (hk : Kept S w w') (hS : ∀ k, S k → ¬ G k) : ∀ {f : F} {b off : Nat}, ReadsF G w f b off → ReadsF G w' f b off
  | .nil, _, _, _ => trivial
  | .cons _ _ _ _ _, b, _, ⟨h1, h2, ⟨a, c, ⟨c0, c1, c2, c3⟩, hks⟩, hr⟩ => by
    have hb : ¬ S b := fun hs => hS b hs h1
    exact ⟨h1, Nat.lt_of_lt_of_le h2 hk.size, ⟨a, c, ⟨hk.cell c0 hb, hk.cell c1 hb, hk.cell c2 hb, hk.cell c3 hb⟩, hks.imp id fun ⟨b', off', e, h⟩ => ⟨b', off', e, h.keptS hk hS⟩⟩, hr.keptS hk hS⟩

theorem kept_below {w w' : World} (hb : Below w.heap.size w w') (S : Nat → Prop) : Kept S w w' := ⟨hb.os, hb.tape, hb.output, hb.size, fun k hk _ => hb.block k hk⟩

theorem ReadsF.kept {G : Nat → Prop} {w w' : World} (hb : Below w.heap.size w w') {f : F} {b off : Nat} (h : ReadsF G w f b off) : ReadsF G w' f b off :=
  h.keptS (S := fun _ => False) (kept_below hb _) (fun _ h => h.elim)

theorem ReadsN.imp {G H : Nat → Prop} {w : World} {a : Option Addr} {ks : F} (h : ReadsN G w a ks) (hG : ∀ b, b < w.heap.size → G b → H b) : ReadsN H w a ks :=
  Or.imp id (fun ⟨b, off, e, h⟩ => ⟨b, off, e, h.imp hG⟩) h
theorem ReadsN.keptS {S G : Nat → Prop} {w w' : World} {a : Option Addr} {ks : F} (h : ReadsN G w a ks) (hk : Kept S w w') (hS : ∀ k, S k → ¬ G k) : ReadsN G w' a ks :=
  Or.imp id (fun ⟨b, off, e, h⟩ => ⟨b, off, e, h.keptS hk hS⟩) h
theorem ReadsN.kept {G : Nat → Prop} {w w' : World} {a : Option Addr} {ks : F} (h : ReadsN G w a ks) (hb : Below w.heap.size w w') : ReadsN G w' a ks :=
  Or.imp id (fun ⟨b, off, e, h⟩ => ⟨b, off, e, h.kept hb⟩) h
theorem ReadsK.keptS {S : Nat → Prop} {lo : Nat} {w w' : World} {a : Option Addr} {ks : F} (h : ReadsK lo w a ks) (hk : Kept S w w') (hS : ∀ k, S k → k < lo) : ReadsK lo w' a ks :=
  ReadsN.keptS h hk (fun k hk h => by have := hS k hk; omega)
theorem ReadsK.kept {lo : Nat} {w w' : World} {a : Option Addr} {ks : F} (h : ReadsK lo w a ks) (hb : Below w.heap.size w w') : ReadsK lo w' a ks := ReadsN.kept h hb
theorem ReadsK.mono {lo lo' : Nat} {w : World} {a : Option Addr} {ks : F} (h : ReadsK lo w a ks) (hlo : lo' ≤ lo) : ReadsK lo' w a ks := ReadsN.imp h (fun _ _ h => Nat.le_trans hlo h)
theorem ReadsF.lower {lo lo' : Nat} {w : World} {f : F} {b off : Nat} (h : ReadsF (fun b => lo ≤ b) w f b off) (hlo : lo' ≤ lo) : ReadsF (fun b => lo' ≤ b) w f b off := h.imp (fun _ _ h => Nat.le_trans hlo h)

/-- From a place of a row on. -/
theorem ReadsF.drop {G : Nat → Prop} {w : World} : ∀ {f : F} {b off : Nat} (j : Nat), ReadsF G w f b off → ReadsF G w (f.drop j) b (off + j * 4)
  | f, _, off, 0, h => by rw [F.drop_zero, Nat.zero_mul, Nat.add_zero]; exact h
  | .nil, _, _, _ + 1, _ => trivial
  | .cons _ _ _ _ _, _, off, j + 1, ⟨_, _, _, hr⟩ => by
    have := hr.drop j
    rw [show off + 4 + j * 4 = off + (j + 1) * 4 by omega] at this
    exact this

/-- One node in a block of its own. -/
theorem readsF_one {G : Nat → Prop} {w : World} {b : Nat} {o m : ByteArray} {n : Int} {a : Option Addr} {ks : F} {c : Nat} {t : TypeId} {f : Nat × Nat} (hG : G b) (h : w.heap[b]? = some (.cells #[.string o, .string m, .int .i64 n, .slice a ks.len c] t f)) (hk : ReadsN G w a ks) : ReadsF G w (.cons o m n ks .nil) b 0 :=
  ⟨hG, (Array.getElem?_eq_some_iff.1 h).1, ⟨a, c, ⟨by simp [World.cell?, h], by simp [World.cell?, h], by simp [World.cell?, h], by simp [World.cell?, h]⟩, hk⟩, trivial⟩

/-- Two nodes in a block of their own. -/
theorem readsF_two {G : Nat → Prop} {w : World} {b : Nat} {o m o2 m2 : ByteArray} {n n2 : Int} {a a2 : Option Addr} {ks ks2 : F} {c c2 : Nat} {t : TypeId} {f : Nat × Nat} (hG : G b)
    (h : w.heap[b]? = some (.cells #[.string o, .string m, .int .i64 n, .slice a ks.len c, .string o2, .string m2, .int .i64 n2, .slice a2 ks2.len c2] t f)) (hk : ReadsN G w a ks) (hk2 : ReadsN G w a2 ks2) : ReadsF G w (.cons o m n ks (.cons o2 m2 n2 ks2 .nil)) b 0 := by
  have hlt := (Array.getElem?_eq_some_iff.1 h).1
  exact ⟨hG, hlt, ⟨a, c, ⟨by simp [World.cell?, h], by simp [World.cell?, h], by simp [World.cell?, h], by simp [World.cell?, h]⟩, hk⟩,
    hG, hlt, ⟨a2, c2, ⟨by simp [World.cell?, h], by simp [World.cell?, h], by simp [World.cell?, h], by simp [World.cell?, h]⟩, hk2⟩, trivial⟩

/-- A reader in memory. -/
def IsR (w : World) (b : Nat) (a : Option Addr) (l c : Nat) (s : RS) : Prop := w.heap[b]? = some (.cells #[.slice a l c, .int .i64 s.pos, .int .i64 s.cnt, .int .i64 s.bad, .int .i64 s.whr] 77 (0, 0))

theorem IsR.cells {w : World} {b : Nat} {a : Option Addr} {l c : Nat} {s : RS} (h : IsR w b a l c s) :
    (w.cell? ⟨b, 0, none⟩ = some (.slice a l c) ∧ w.cell? ⟨b, 1, none⟩ = some (.int .i64 s.pos) ∧ w.cell? ⟨b, 2, none⟩ = some (.int .i64 s.cnt) ∧ w.cell? ⟨b, 3, none⟩ = some (.int .i64 s.bad) ∧ w.cell? ⟨b, 4, none⟩ = some (.int .i64 s.whr)) ∧
    (w.frozen? ⟨b, 1, none⟩ = false ∧ w.frozen? ⟨b, 2, none⟩ = false ∧ w.frozen? ⟨b, 3, none⟩ = false ∧ w.frozen? ⟨b, 4, none⟩ = false) := by
  unfold IsR at h
  refine ⟨⟨?_, ?_, ?_, ?_, ?_⟩, ?_, ?_, ?_, ?_⟩ <;> simp [World.cell?, World.frozen?, h]

theorem IsR.lt {w : World} {b : Nat} {a : Option Addr} {l c : Nat} {s : RS} (h : IsR w b a l c s) : b < w.heap.size := (Array.getElem?_eq_some_iff.1 h).1

theorem IsR.kept {w w' : World} {b : Nat} {a : Option Addr} {l c : Nat} {s : RS} (h : IsR w b a l c s) (hb : Below w.heap.size w w') : IsR w' b a l c s := (hb.block _ h.lt).trans h

end Go.Proofs.YteegdemnajhehaaGreatDoor

namespace Go.Proofs.YteegdemnajhehaaGreatDoor
open Go.RowKit

theorem isS_end {L : List Tk} {y : List UInt8} {p : Nat} (h : L.length ≤ p) : isS L y p = false := by
  unfold isS; rw [List.getElem?_eq_none h]
theorem isM_end {L : List Tk} {p : Nat} (h : L.length ≤ p) : isM L p = false := by unfold isM; rw [isS_end h, isS_end h, isS_end h]; rfl
theorem isA_end {L : List Tk} {p : Nat} (h : L.length ≤ p) : isA L p = false := by unfold isA; rw [isS_end h, isS_end h]; rfl

/-- How many nodes a row has. -/
def sizeF : F → Nat
  | .nil => 0
  | .cons _ _ _ ks r => 1 + sizeF ks + sizeF r

def sizeT (t : TN) : Nat := 1 + sizeF t.ks

theorem sizeF_tree (t : TN) : sizeF t.f = sizeT t := by unfold TN.f sizeT; rw [sizeF, sizeF, Nat.add_zero]

theorem cnt_le : ∀ (f : F) (l : Int), cntF f l ≤ l
  | .nil, l => Int.le_refl _
  | .cons _ _ _ ks r, l => by
    rw [cntF]
    split
    · exact Int.le_refl _
    · have := cnt_le ks (l - 1)
      have := cnt_le r (cntF ks (l - 1))
      omega

theorem cnt_size : ∀ (f : F) (l : Int), (sizeF f : Int) ≤ l → cntF f l = l - sizeF f
  | .nil, l, _ => by rw [cntF, sizeF]; omega
  | .cons _ _ _ ks r, l, h => by
    rw [sizeF] at h
    rw [cntF, if_neg (by omega), cnt_size ks (l - 1) (by omega), cnt_size r _ (by omega), sizeF]
    omega

theorem cnt_over : ∀ (f : F) (l : Int), 0 ≤ l → l < sizeF f → cntF f l < 0
  | .nil, l, h0, h => by rw [sizeF] at h; omega
  | .cons _ _ _ ks r, l, h0, h => by
    rw [sizeF] at h
    rw [cntF, if_neg (by omega)]
    by_cases h1 : (sizeF ks : Int) ≤ l - 1
    · rw [cnt_size ks _ h1]
      exact cnt_over r _ (by omega) (by omega)
    · by_cases h2 : 0 ≤ l - 1
      · have := cnt_over ks (l - 1) h2 (by omega)
        have := cnt_le r (cntF ks (l - 1))
        omega
      · have := cnt_le ks (l - 1)
        have := cnt_le r (cntF ks (l - 1))
        omega

theorem cnt_iff (t : TN) : cntF t.ks 31 < 0 ↔ 32 < sizeT t := by
  unfold sizeT
  by_cases h : (sizeF t.ks : Int) ≤ 31
  · rw [cnt_size _ _ h]; omega
  · have := cnt_over t.ks 31 (by omega) (by omega)
    omega

/-- What each token of the lexer is. -/
def GoodTk (t : Tk) : Prop := (t.kind = 1 ∧ goodB t.text = true) ∨ (t.kind = 2 ∧ 0 ≤ t.num ∧ t.num ≤ 9223372036854775807) ∨ t.kind = 3

theorem name_good {l : List UInt8} {n : Nat} {k v : Int} {c : UInt8} {r : List UInt8} (hl : l = c :: r) (hc : smallB c = true) (h : nameF l = .tok k n v) : k = 1 ∧ goodB (l.take n) = true := by
  unfold nameF at h
  split at h
  · cases h
  · rename_i h8
    cases h
    refine ⟨rfl, ?_⟩
    have hp : 1 ≤ runL alnumB l := by rw [hl]; exact run_pos (by unfold alnumB; rw [hc]; rfl)
    have hall : ∀ d ∈ l.take (runL alnumB l), alnumB d = true := by
      rw [take_run]
      exact fun d hd => List.all_eq_true.1 List.all_takeWhile d hd
    have hlen : (l.take (runL alnumB l)).length ≤ 8 := by rw [List.length_take]; omega
    rw [hl] at hall hlen ⊢
    obtain ⟨m, hm⟩ : ∃ m, runL alnumB (c :: r) = m + 1 := ⟨runL alnumB (c :: r) - 1, by rw [hl] at hp; omega⟩
    rw [hm] at hall hlen ⊢
    rw [List.take_succ_cons] at hall hlen ⊢
    rw [good_cons, hc, decide_eq_true (by simpa using hlen), Bool.true_and, Bool.true_and, List.all_eq_true]
    exact fun d hd => hall d (by simp [hd])

theorem first_good {l : List UInt8} {n : Nat} {k v : Int} (p : Nat) (h : firstF l = .tok k n v) : GoodTk ⟨k, l.take n, v, p⟩ := by
  have hf := first_num h
  cases l with
  | nil => cases h
  | cons c r =>
    simp only [firstF] at h
    split at h
    · rename_i hc
      obtain ⟨rfl, hg⟩ := name_good rfl hc h
      exact .inl ⟨rfl, hg⟩
    · split at h
      · unfold numF at h
        split at h
        · cases h
        · split at h
          · cases h
          · cases h; exact .inr (.inl ⟨rfl, hf.2.2⟩)
      · unfold signF at h
        split at h
        · cases h
        · cases h; exact .inr (.inr rfl)

theorem lex_good (l : List UInt8) (p : Nat) : ∀ ts, lexL l p = .ok ts → ∀ t ∈ ts, GoodTk t := by
  refine lex_induct (C := fun l p => ∀ ts, lexL l p = .ok ts → ∀ t ∈ ts, GoodTk t) ?_ ?_ ?_ ?_ l.length l p (Nat.le_refl _)
  · intro p ts h
    rw [lex_nil] at h; cases h
    intro t ht; cases ht
  · intro r p ih ts h
    rw [lex_blank] at h
    exact ih ts h
  · intro l p e h1 h0 hf ts h
    rw [lex_bad h0 h1 hf] at h; cases h
  · intro l p k n v h1 h0 hf hn hl ih ts h
    rw [lex_tok h1 hn hf] at h
    obtain ⟨ts', h', rfl⟩ := after_ok h
    intro t ht
    rcases List.mem_cons.1 ht with rfl | ht
    · exact first_good p hf
    · exact ih ts' h' t ht

theorem lexT_good {l : List UInt8} {ts : List Tk} (h : lexT l = .ok ts) : ∀ t ∈ ts, GoodTk t := by
  unfold lexT at h
  split at h
  · cases h
  · exact lex_good _ _ _ h

/-- A tree that may be, but for its count. -/
def OkT (t : TN) : Prop := chkF t.f = 0

theorem ok_num {v : Int} (h : 0 ≤ v) : OkT (numT v) := by
  have e : errN ⟨#[110, 117, 109]⟩ ⟨#[]⟩ v 0 = 0 := by
    unfold errN
    rw [show (arity ⟨#[110, 117, 109]⟩ != ((0 : Nat) : Int)) = false from rfl, show isName ⟨#[110, 117, 109]⟩ = false from rfl, decide_eq_false (show ¬ v < 0 by omega), Bool.and_false, Bool.false_and]
    rfl
  show chkF (.cons _ _ _ _ .nil) = 0
  rw [chkF]
  exact (if_pos e).trans rfl

theorem ok_name {x : List UInt8} (h : goodB x = true) : OkT (nameT x) := by
  have e : errN ⟨#[110, 97, 109, 101]⟩ ⟨x.toArray⟩ 0 0 = 0 := by
    unfold errN
    rw [show (arity ⟨#[110, 97, 109, 101]⟩ != ((0 : Nat) : Int)) = false from rfl, show isNum ⟨#[110, 97, 109, 101]⟩ = false from rfl, show goodB (⟨x.toArray⟩ : ByteArray).data.toList = true from h, Bool.not_true, Bool.and_false, Bool.false_and]
    rfl
  show chkF (.cons _ _ _ _ .nil) = 0
  rw [chkF]
  exact (if_pos e).trans rfl

theorem ok_neg {k : TN} (h : OkT k) : OkT (negT k) := by
  have e : errN ⟨#[110, 101, 103]⟩ ⟨#[]⟩ 0 k.f.len = 0 := rfl
  have h' : chkF k.f = 0 := h
  show chkF (.cons ⟨#[110, 101, 103]⟩ ⟨#[]⟩ 0 k.f .nil) = 0
  rw [chkF, if_pos e, if_pos h']
  rfl

/-- The five signs. -/
def signO (o : List UInt8) : Prop := o = [43] ∨ o = [45] ∨ o = [42] ∨ o = [47] ∨ o = [37]

theorem ok_two {o : List UInt8} {a b : TN} (ho : signO o) (ha : OkT a) (hb : OkT b) : OkT (twoT o a b) := by
  have e : errN ⟨o.toArray⟩ ⟨#[]⟩ 0 2 = 0 := by rcases ho with rfl | rfl | rfl | rfl | rfl <;> rfl
  have hk : chkF (.cons a.op a.nm a.n a.ks b.f) = 0 := by
    have ha' : chkF a.f = 0 := ha
    rw [chk_tree] at ha'
    rw [chkF]
    by_cases h1 : errN a.op a.nm a.n a.ks.len = 0
    · rw [if_pos h1] at ha' ⊢
      rw [if_pos ha']; exact hb
    · rw [if_neg h1] at ha'; exact absurd ha' h1
  have e2 : errN ⟨o.toArray⟩ ⟨#[]⟩ 0 (F.cons a.op a.nm a.n a.ks b.f).len = 0 := e
  show chkF (.cons ⟨o.toArray⟩ ⟨#[]⟩ 0 (.cons a.op a.nm a.n a.ks b.f) .nil) = 0
  rw [chkF, if_pos e2, if_pos hk]
  rfl

theorem size_num (v : Int) : sizeT (numT v) = 1 := rfl
theorem size_name (x : List UInt8) : sizeT (nameT x) = 1 := rfl
theorem size_neg (k : TN) : sizeT (negT k) = 1 + sizeT k := by unfold negT; rw [sizeT, sizeF_tree]
theorem size_two (o : List UInt8) (a b : TN) : sizeT (twoT o a b) = 1 + sizeT a + sizeT b := by
  unfold twoT
  rw [sizeT, sizeF, sizeF_tree]
  unfold sizeT
  omega

theorem opM {L : List Tk} {p : Nat} (h : isM L p = true) : signO (opAt L p) := by
  unfold isM isS at h
  unfold opAt
  cases e : L[p]? with
  | none => rw [e] at h; simp at h
  | some t =>
    rw [e] at h
    simp only [Bool.or_eq_true, Bool.and_eq_true, beq_iff_eq] at h
    rcases h with (⟨_, h⟩ | ⟨_, h⟩) | ⟨_, h⟩
    · exact .inr (.inr (.inl h))
    · exact .inr (.inr (.inr (.inl h)))
    · exact .inr (.inr (.inr (.inr h)))
theorem opA {L : List Tk} {p : Nat} (h : isA L p = true) : signO (opAt L p) := by
  unfold isA isS at h
  unfold opAt
  cases e : L[p]? with
  | none => rw [e] at h; simp at h
  | some t =>
    rw [e] at h
    simp only [Bool.or_eq_true, Bool.and_eq_true, beq_iff_eq] at h
    rcases h with ⟨_, h⟩ | ⟨_, h⟩
    · exact .inl h
    · exact .inr (.inl h)

/-- The tree that a mode has in hand. -/
def Md.hand : Md → Nat
  | .prodL n => sizeT n
  | .sumL n => sizeT n
  | _ => 0
def Md.fine : Md → Prop
  | .prodL n => OkT n
  | .sumL n => OkT n
  | _ => True

theorem tick_bad {s : RS} (h : (tickR s).bad = 0) : s.bad = 0 ∧ (tickR s).cnt = s.cnt + 1 ∧ s.cnt + 1 ≤ 32 ∧ (tickR s).pos = s.pos + 1 ∧ (tickR s).whr = s.whr := by
  unfold tickR at h ⊢
  by_cases hb : s.bad = 0
  · rw [if_pos hb] at h ⊢
    by_cases h32 : 32 < s.cnt + 1
    · rw [if_pos h32] at h; cases h
    · rw [if_neg h32]; exact ⟨hb, rfl, by omega, rfl, rfl⟩
  · rw [if_neg hb] at h; exact absurd h hb

theorem fail_bad (e : Int) (he : ¬ e = 0) (s : RS) : ¬ (failR e s).bad = 0 := by
  unfold failR
  by_cases hb : s.bad = 0
  · rw [if_pos hb]; exact he
  · rw [if_neg hb]; exact hb

theorem close_bad {L : List Tk} {s : RS} (h : (closeR L s).bad = 0) : s.bad = 0 ∧ isS L [41] s.pos = true ∧ closeR L s = stepR s := by
  unfold closeR at h ⊢
  by_cases hc : (s.bad == 0 && !isS L [41] s.pos) = true
  · rw [if_pos hc] at h
    exact absurd h (fail_bad 2 (by decide) s)
  · rw [if_neg hc] at h ⊢
    have hb : s.bad = 0 := h
    refine ⟨hb, ?_, rfl⟩
    rw [hb] at hc
    simpa using hc

theorem pr_stay (L : List Tk) : ∀ (f : Nat) (md : Md) (s : RS), ¬ s.bad = 0 → (pr L f md s).2 = s
  | 0, _, _, _ => rfl
  | f + 1, .fac, s, h => by rw [pr, if_neg h]
  | f + 1, .prod, s, h => by rw [pr, pr_stay L f .fac s h, pr_stay L f _ s h]
  | f + 1, .prodL n, s, h => by rw [pr, if_neg (by simp [h])]
  | f + 1, .sum, s, h => by rw [pr, pr_stay L f .prod s h, pr_stay L f _ s h]
  | f + 1, .sumL n, s, h => by rw [pr, if_neg (by simp [h])]

theorem pr_was {L : List Tk} {f : Nat} {md : Md} {s : RS} (h : (pr L f md s).2.bad = 0) : s.bad = 0 := by
  refine Classical.byContradiction fun hs => ?_
  rw [pr_stay L f md s hs] at h
  exact hs h

/-- What is parsed without an error may be, and has as many nodes as were counted. -/
theorem pr_good (L : List Tk) (hL : ∀ t ∈ L, GoodTk t) : ∀ (f : Nat) (md : Md) (s : RS), need (L.length - s.pos) md ≤ f → md.fine → s.cnt ≤ 32 → (pr L f md s).2.bad = 0 →
    s.bad = 0 ∧ OkT (pr L f md s).1 ∧ (pr L f md s).2.cnt + md.hand = s.cnt + sizeT (pr L f md s).1 ∧ (pr L f md s).2.cnt ≤ 32
  | 0, md, s, h, _, _, _ => by cases md <;> simp [need] at h
  | f + 1, .fac, s, hn, _, hc, h => by
    simp only [need] at hn
    rw [pr] at h ⊢
    by_cases hb : s.bad = 0
    · rw [if_pos hb] at h ⊢
      cases e : L[s.pos]? with
      | none => rw [e] at h; exact absurd h (fail_bad 2 (by decide) s)
      | some t =>
        obtain ⟨hlt, ht⟩ := List.getElem?_eq_some_iff.1 e
        have hg := hL t (ht ▸ List.getElem_mem hlt)
        rw [e] at h
        simp only at h ⊢
        by_cases h2 : t.kind = 2
        · rw [if_pos h2] at h ⊢
          dsimp only at h ⊢
          obtain ⟨_, k1, k2, _⟩ := tick_bad h
          refine ⟨hb, ok_num ?_, by rw [size_num]; simp only [Md.hand]; omega, by omega⟩
          rcases hg with ⟨hk, _⟩ | ⟨_, h0, _⟩ | hk
          · rw [h2] at hk; cases hk
          · exact h0
          · rw [h2] at hk; cases hk
        rw [if_neg h2] at h ⊢
        by_cases h1 : t.kind = 1
        · rw [if_pos h1] at h ⊢
          dsimp only at h ⊢
          obtain ⟨_, k1, k2, _⟩ := tick_bad h
          refine ⟨hb, ok_name ?_, by rw [size_name]; simp only [Md.hand]; omega, by omega⟩
          rcases hg with ⟨_, hk⟩ | ⟨hk, _⟩ | hk
          · exact hk
          · rw [h1] at hk; cases hk
          · rw [h1] at hk; cases hk
        rw [if_neg h1] at h ⊢
        by_cases h45 : t.text = [45]
        · rw [if_pos h45] at h ⊢
          simp only at h ⊢
          obtain ⟨_, k1, k2, k3, _⟩ := tick_bad (pr_was h)
          obtain ⟨_, g1, g2, g3⟩ := pr_good L hL f .fac (tickR s) (by rw [k3]; simp only [need]; omega) trivial (by omega) h
          refine ⟨hb, ok_neg g1, ?_, g3⟩
          rw [size_neg]; simp only [Md.hand] at g2 ⊢; omega
        rw [if_neg h45] at h ⊢
        by_cases h40 : t.text = [40]
        · rw [if_pos h40] at h ⊢
          simp only at h ⊢
          obtain ⟨c1, c2, c3⟩ := close_bad h
          obtain ⟨_, g1, g2, g3⟩ := pr_good L hL f .sum (stepR s) (by show need (L.length - (s.pos + 1)) _ ≤ f; simp only [need]; omega) trivial hc c1
          rw [c3]
          exact ⟨hb, g1, g2, g3⟩
        rw [if_neg h40] at h
        exact absurd h (fail_bad 2 (by decide) s)
    · rw [if_neg hb] at h; exact absurd h hb
  | f + 1, .prod, s, hn, _, hc, h => by
    simp only [need] at hn
    rw [pr] at h ⊢
    have hp := pr_pos L f .fac s
    have hk := pr_was h
    obtain ⟨a0, a1, a2, a3⟩ := pr_good L hL f .fac s (by simp only [need]; omega) trivial hc hk
    obtain ⟨_, b1, b2, b3⟩ := pr_good L hL f (.prodL (pr L f .fac s).1) (pr L f .fac s).2 (by simp only [need]; omega) a1 a3 h
    simp only [Md.hand] at a2 b2 ⊢
    exact ⟨a0, b1, by omega, b3⟩
  | f + 1, .prodL n, s, hn, hf, hc, h => by
    simp only [need] at hn
    rw [pr] at h ⊢
    by_cases hcnd : (s.bad == 0 && isM L s.pos) = true
    · rw [if_pos hcnd] at h ⊢
      simp only [Bool.and_eq_true, beq_iff_eq] at hcnd
      have hlt := isM_lt hcnd.2
      have hp := pr_pos L f .fac (tickR s)
      rw [tick_pos] at hp
      have hk : (pr L f .fac (tickR s)).2.bad = 0 := pr_was h
      have ht := pr_was hk
      obtain ⟨_, k1, k2, k3, _⟩ := tick_bad ht
      obtain ⟨_, a1, a2, a3⟩ := pr_good L hL f .fac (tickR s) (by rw [k3]; simp only [need]; omega) trivial (by omega) hk
      obtain ⟨_, b1, b2, b3⟩ := pr_good L hL f (.prodL (twoT (opAt L s.pos) n (pr L f .fac (tickR s)).1)) _ (by simp only [need]; omega) (ok_two (opM hcnd.2) hf a1) a3 h
      simp only [Md.hand] at a2 b2 ⊢
      rw [size_two] at b2
      exact ⟨hcnd.1, b1, by omega, b3⟩
    · rw [if_neg hcnd] at h ⊢
      exact ⟨h, hf, rfl, hc⟩
  | f + 1, .sum, s, hn, _, hc, h => by
    simp only [need] at hn
    rw [pr] at h ⊢
    have hp := pr_pos L f .prod s
    have hk := pr_was h
    obtain ⟨a0, a1, a2, a3⟩ := pr_good L hL f .prod s (by simp only [need]; omega) trivial hc hk
    obtain ⟨_, b1, b2, b3⟩ := pr_good L hL f (.sumL (pr L f .prod s).1) (pr L f .prod s).2 (by simp only [need]; omega) a1 a3 h
    simp only [Md.hand] at a2 b2 ⊢
    exact ⟨a0, b1, by omega, b3⟩
  | f + 1, .sumL n, s, hn, hf, hc, h => by
    simp only [need] at hn
    rw [pr] at h ⊢
    by_cases hcnd : (s.bad == 0 && isA L s.pos) = true
    · rw [if_pos hcnd] at h ⊢
      simp only [Bool.and_eq_true, beq_iff_eq] at hcnd
      have hlt := isA_lt hcnd.2
      have hp := pr_pos L f .prod (tickR s)
      rw [tick_pos] at hp
      have hk : (pr L f .prod (tickR s)).2.bad = 0 := pr_was h
      have ht := pr_was hk
      obtain ⟨_, k1, k2, k3, _⟩ := tick_bad ht
      obtain ⟨_, a1, a2, a3⟩ := pr_good L hL f .prod (tickR s) (by rw [k3]; simp only [need]; omega) trivial (by omega) hk
      obtain ⟨_, b1, b2, b3⟩ := pr_good L hL f (.sumL (twoT (opAt L s.pos) n (pr L f .prod (tickR s)).1)) _ (by simp only [need]; omega) (ok_two (opA hcnd.2) hf a1) a3 h
      simp only [Md.hand] at a2 b2 ⊢
      rw [size_two] at b2
      exact ⟨hcnd.1, b1, by omega, b3⟩
    · rw [if_neg hcnd] at h ⊢
      exact ⟨h, hf, rfl, hc⟩

theorem tick_top {n : Nat} {s : RS} (hb : s.bad = 0) (hp : s.pos < n) (hc : s.cnt ≤ 32) : (tickR s).pos = s.pos + 1 ∧ (tickR s).cnt = s.cnt + 1 ∧ ((tickR s).bad = 0 → (tickR s).pos ≤ n ∧ (tickR s).cnt ≤ 32) := by
  refine ⟨tick_pos s, ?_, fun h => ?_⟩
  · unfold tickR
    rw [if_pos hb]
    split <;> rfl
  · obtain ⟨_, h1, h2, h3, _⟩ := tick_bad h
    omega

theorem fail_top (e : Int) (he : ¬ e = 0) {n : Nat} {s : RS} (hp : s.pos ≤ n) (hc : s.cnt ≤ 33) : (failR e s).pos + s.pos ≤ 2 * n + 1 ∧ (failR e s).cnt ≤ 33 ∧ ((failR e s).bad = 0 → (failR e s).pos ≤ n ∧ (failR e s).cnt ≤ 32) := by
  refine ⟨by rw [fail_pos]; omega, ?_, fun h => absurd h (fail_bad e he s)⟩
  unfold failR
  split <;> exact hc

/-- How far a reader comes. -/
def TopR (n p : Nat) (q : RS) : Prop := q.pos + p ≤ 2 * n + 1 ∧ q.cnt ≤ 33 ∧ (q.bad = 0 → q.pos ≤ n ∧ q.cnt ≤ 32)

theorem TopR.mono {n p p' : Nat} {q : RS} (h : TopR n p q) (hp : p' ≤ p) : TopR n p' q := ⟨by have := h.1; omega, h.2⟩

theorem pr_top (L : List Tk) : ∀ (f : Nat) (md : Md) (s : RS), need (L.length - s.pos) md ≤ f → s.bad = 0 → s.pos ≤ L.length → s.cnt ≤ 32 → TopR L.length s.pos (pr L f md s).2
  | 0, md, s, h, _, _, _ => by cases md <;> simp [need] at h
  | f + 1, .fac, s, hn, hb, hp, hc => by
    simp only [need] at hn
    rw [pr, if_pos hb]
    cases e : L[s.pos]? with
    | none => exact fail_top 2 (by decide) hp (by omega)
    | some t =>
      obtain ⟨hlt, _⟩ := List.getElem?_eq_some_iff.1 e
      obtain ⟨t1, t2, t3⟩ := tick_top hb hlt hc
      have T : TopR L.length s.pos (tickR s) := ⟨by omega, by omega, t3⟩
      simp only
      by_cases h2 : t.kind = 2
      · rw [if_pos h2]; exact T
      rw [if_neg h2]
      by_cases h1 : t.kind = 1
      · rw [if_pos h1]; exact T
      rw [if_neg h1]
      by_cases h45 : t.text = [45]
      · rw [if_pos h45]
        simp only
        by_cases hk : (tickR s).bad = 0
        · exact (pr_top L f .fac (tickR s) (by rw [t1]; simp only [need]; omega) hk (t3 hk).1 (t3 hk).2).mono (by omega)
        · rw [pr_stay L f .fac _ hk]; exact T
      rw [if_neg h45]
      by_cases h40 : t.text = [40]
      · rw [if_pos h40]
        simp only
        obtain ⟨a1, a2, a3⟩ := pr_top L f .sum (stepR s) (by show need (L.length - (s.pos + 1)) _ ≤ f; simp only [need]; omega) hb (by show s.pos + 1 ≤ _; omega) hc
        have a1' : (pr L f .sum (stepR s)).2.pos + (s.pos + 1) ≤ 2 * L.length + 1 := a1
        refine ⟨by rw [close_pos]; omega, ?_, fun h => ?_⟩
        · unfold closeR stepR failR
          split
          · split <;> exact a2
          · exact a2
        · obtain ⟨c1, c2, c3⟩ := close_bad h
          have := isS_lt c2
          rw [c3]
          exact ⟨by show (pr L f .sum (stepR s)).2.pos + 1 ≤ _; omega, (a3 c1).2⟩
      rw [if_neg h40]
      exact fail_top 2 (by decide) hp (by omega)
  | f + 1, .prod, s, hn, hb, hp, hc => by
    simp only [need] at hn
    rw [pr]
    have q1 := pr_pos L f .fac s
    have T := pr_top L f .fac s (by simp only [need]; omega) hb hp hc
    by_cases hk : (pr L f .fac s).2.bad = 0
    · exact (pr_top L f _ _ (by simp only [need]; omega) hk (T.2.2 hk).1 (T.2.2 hk).2).mono q1
    · rw [pr_stay L f _ _ hk]; exact T
  | f + 1, .prodL n, s, hn, hb, hp, hc => by
    simp only [need] at hn
    rw [pr]
    by_cases hcnd : (s.bad == 0 && isM L s.pos) = true
    · rw [if_pos hcnd]
      simp only [Bool.and_eq_true] at hcnd
      have hlt := isM_lt hcnd.2
      obtain ⟨t1, t2, t3⟩ := tick_top hb hlt hc
      have T : TopR L.length s.pos (tickR s) := ⟨by omega, by omega, t3⟩
      by_cases hk : (tickR s).bad = 0
      · have T2 := pr_top L f .fac (tickR s) (by rw [t1]; simp only [need]; omega) hk (t3 hk).1 (t3 hk).2
        have q1 := pr_pos L f .fac (tickR s)
        rw [t1] at q1
        by_cases hk2 : (pr L f .fac (tickR s)).2.bad = 0
        · exact (pr_top L f _ _ (by simp only [need]; omega) hk2 (T2.2.2 hk2).1 (T2.2.2 hk2).2).mono (by omega)
        · rw [pr_stay L f _ _ hk2]; exact T2.mono (by omega)
      · have e1 := pr_stay L f .fac _ hk
        rw [pr_stay L f (.prodL _) _ (by rw [e1]; exact hk), e1]
        exact T
    · rw [if_neg hcnd]
      exact ⟨by show s.pos + s.pos ≤ _; omega, by show s.cnt ≤ 33; omega, fun _ => ⟨hp, hc⟩⟩
  | f + 1, .sum, s, hn, hb, hp, hc => by
    simp only [need] at hn
    rw [pr]
    have q1 := pr_pos L f .prod s
    have T := pr_top L f .prod s (by simp only [need]; omega) hb hp hc
    by_cases hk : (pr L f .prod s).2.bad = 0
    · exact (pr_top L f _ _ (by simp only [need]; omega) hk (T.2.2 hk).1 (T.2.2 hk).2).mono q1
    · rw [pr_stay L f _ _ hk]; exact T
  | f + 1, .sumL n, s, hn, hb, hp, hc => by
    simp only [need] at hn
    rw [pr]
    by_cases hcnd : (s.bad == 0 && isA L s.pos) = true
    · rw [if_pos hcnd]
      simp only [Bool.and_eq_true] at hcnd
      have hlt := isA_lt hcnd.2
      obtain ⟨t1, t2, t3⟩ := tick_top hb hlt hc
      have T : TopR L.length s.pos (tickR s) := ⟨by omega, by omega, t3⟩
      by_cases hk : (tickR s).bad = 0
      · have T2 := pr_top L f .prod (tickR s) (by rw [t1]; simp only [need]; omega) hk (t3 hk).1 (t3 hk).2
        have q1 := pr_pos L f .prod (tickR s)
        rw [t1] at q1
        by_cases hk2 : (pr L f .prod (tickR s)).2.bad = 0
        · exact (pr_top L f _ _ (by simp only [need]; omega) hk2 (T2.2.2 hk2).1 (T2.2.2 hk2).2).mono (by omega)
        · rw [pr_stay L f _ _ hk2]; exact T2.mono (by omega)
      · have e1 := pr_stay L f .prod _ hk
        rw [pr_stay L f (.sumL _) _ (by rw [e1]; exact hk), e1]
        exact T
    · rw [if_neg hcnd]
      exact ⟨by show s.pos + s.pos ≤ _; omega, by show s.cnt ≤ 33; omega, fun _ => ⟨hp, hc⟩⟩

theorem pE_top (L : List Tk) (md : Md) (s : RS) (hb : s.bad = 0) (hp : s.pos ≤ L.length) (hc : s.cnt ≤ 32) : TopR L.length s.pos (pE L md s).2 := by
  refine pr_top L _ md s ?_ hb hp hc
  cases md <;> simp [need]

theorem pE_stay (L : List Tk) (md : Md) (s : RS) (h : ¬ s.bad = 0) : (pE L md s).2 = s := pr_stay L _ md s h

/-- What Of answers without an error is a tree that may be. -/
theorem ofL_good {L : List Tk} (hL : ∀ t ∈ L, GoodTk t) {p q : Nat} {t : TN} (h : ofL L p = .ok t q) : checkT t = 0 ∧ sizeT t ≤ 32 := by
  unfold ofL at h
  split at h
  · rename_i hb
    cases h
    obtain ⟨_, g1, g2, g3⟩ := pr_good L hL (4 * (L.length - p) + 4) .sum ⟨p, 0, 0, 0⟩ (by simp only [need]; omega) trivial (Nat.zero_le _) hb
    have hs : sizeT (pE L .sum ⟨p, 0, 0, 0⟩).1 ≤ 32 := by
      simp only [Md.hand] at g2
      have : (pE L .sum ⟨p, 0, 0, 0⟩).2.cnt + 0 = 0 + sizeT (pE L .sum ⟨p, 0, 0, 0⟩).1 := g2
      have : (pE L .sum ⟨p, 0, 0, 0⟩).2.cnt ≤ 32 := g3
      omega
    refine ⟨?_, hs⟩
    unfold checkT
    rw [if_neg (by rw [cnt_iff]; omega)]
    exact g1
  · cases h

end Go.Proofs.YteegdemnajhehaaGreatDoor
