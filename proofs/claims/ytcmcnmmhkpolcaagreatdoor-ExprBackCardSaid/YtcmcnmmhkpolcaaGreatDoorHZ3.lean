/-
  No statement: what these walks need, of earlier texts: EMem, EGood, LRef, ERead, ERun, GSmall, GRead.
-/
import Derived.Test.YtcmcnmmhkpolcaaGreatDoorHZ2
import Derived.WalkKit
import Derived.WalkSpells
import Derived.Lib.Hide
import Derived.Deep.Draws
import Derived.Sort.Walk0
import Derived.Lib.ParseIntB
import Derived.Lib.AtoiErrMem
import Derived.Lib.AppendIntMem
import Derived.Test.YtcmcnmmhkpolcaaGreatDoorShelf
import Derived.Test.YtcmcnmmhkpolcaaGreatDoorProg
import Derived.IntWalk
import Derived.LoopTactic
import Derived.StillTailTactics
import Derived.Deep.QuietTactic
import Derived.BigQuiet
import Derived.Lib.ParseIntBTie
import Derived.RangeFuncRecord
import Derived.ArgAppend
import Derived.OwnWalk
import Derived.BigRegion
import Derived.Deep.Cut
import Derived.Deep.RegionLaw
import Derived.Deep.RegionHeld3
import Derived.Shelf.Spec.SearchS
import Derived.Laws.IdiomStrings
import Derived.Lib.AppendZerosOnto
import Derived.Lib.SliceRun
import Derived.Lib.OwnBridge
import Derived.Lib.SlicesCompact
import Derived.Sort.OwnSorted
import Derived.RangeFuncBox
namespace Go.Proofs.YtcmcnmmhkpolcaaGreatDoor
section
open Go.RowKit

/-- Rows of trees in memory, one node behind the other in four cells, in blocks that G allows. -/
def ReadsF (G : Nat → Prop) (w : World) : F → Nat → Nat → Prop
  | .nil, _, _ => True
  | .cons o m n ks r, b, off => G b ∧ b < w.heap.size ∧ (∃ (a : Option Addr) (c : Nat), (w.cell? ⟨b, off, none⟩ = some (.string o) ∧ w.cell? ⟨b, off + 1, none⟩ = some (.string m) ∧ w.cell? ⟨b, off + 2, none⟩ = some (.int .i64 n) ∧ w.cell? ⟨b, off + 3, none⟩ = some (.slice a ks.len c)) ∧
      (ks = .nil ∨ ∃ b' off', a = some ⟨b', off', none⟩ ∧ ReadsF G w ks b' off')) ∧ ReadsF G w r b (off + 4)

/-- A row of trees that a slice holds. -/
def ReadsN (G : Nat → Prop) (w : World) (a : Option Addr) (ks : F) : Prop := ks = .nil ∨ ∃ b off, a = some ⟨b, off, none⟩ ∧ ReadsF G w ks b off

/-- The same, in blocks from lo on. -/
abbrev ReadsK (lo : Nat) (w : World) (a : Option Addr) (ks : F) : Prop := ReadsN (fun b => lo ≤ b) w a ks

/-- A tree's node as a value. -/
abbrev nodeV (o m : ByteArray) (n : Int) (a : Option Addr) (l c : Nat) : Value := .agg #[.string o, .string m, .int .i64 n, .slice a l c]

theorem ReadsF.imp {G H : Nat → Prop} {w : World} (hG : ∀ b, b < w.heap.size → G b → H b) : ∀ {f : F} {b off : Nat}, ReadsF G w f b off → ReadsF H w f b off
  | .nil, _, _, _ => trivial
  | .cons _ _ _ _ _, _, _, ⟨h1, h2, ⟨a, c, hc, hk⟩, hr⟩ => ⟨hG _ h2 h1, h2, ⟨a, c, hc, hk.imp id fun ⟨b', off', e, h⟩ => ⟨b', off', e, h.imp hG⟩⟩, hr.imp hG⟩

theorem ReadsF.keptS {S G : Nat → Prop} {w w' : World} (hk : Kept S w w') (hS : ∀ k, S k → ¬ G k) : ∀ {f : F} {b off : Nat}, ReadsF G w f b off → ReadsF G w' f b off
  | .nil, _, _, _ => trivial
  | .cons _ _ _ _ _, b, _, ⟨h1, h2, ⟨a, c, ⟨c0, c1, c2, c3⟩, hks⟩, hr⟩ => by
    have hb : ¬ S b := fun hs => hS b hs h1
    exact ⟨h1, Nat.lt_of_lt_of_le h2 hk.size, ⟨a, c, ⟨hk.cell c0 hb, hk.cell c1 hb, hk.cell c2 hb, hk.cell c3 hb⟩, hks.imp id fun ⟨b', off', e, h⟩ => ⟨b', off', e, h.keptS hk hS⟩⟩, hr.keptS hk hS⟩

theorem kept_below {w w' : World} (hb : Below w.heap.size w w') (S : Nat → Prop) : Kept S w w' := ⟨hb.os, hb.tape, hb.output, hb.size, fun k hk _ => hb.block k hk⟩

theorem ReadsF.kept {G : Nat → Prop} {w w' : World} (hb : Below w.heap.size w w') {f : F} {b off : Nat} (h : ReadsF G w f b off) : ReadsF G w' f b off :=
  h.keptS (S := fun _ => False) (kept_below hb _) (fun _ h => h.elim)

theorem ReadsN.imp {G H : Nat → Prop} {w : World} {a : Option Addr} {ks : F} (h : ReadsN G w a ks) (hG : ∀ b, b < w.heap.size → G b → H b) : ReadsN H w a ks :=
  Or.imp id (fun ⟨b, off, e, h⟩ => ⟨b, off, e, h.imp hG⟩) h

theorem ReadsN.keptS {S G : Nat → Prop} {w w' : World} {a : Option Addr} {ks : F} (h : ReadsN G w a ks) (hk : Kept S w w') (hS : ∀ k, S k → ¬ G k) : ReadsN G w' a ks :=
  Or.imp id (fun ⟨b, off, e, h⟩ => ⟨b, off, e, h.keptS hk hS⟩) h

theorem ReadsN.kept {G : Nat → Prop} {w w' : World} {a : Option Addr} {ks : F} (h : ReadsN G w a ks) (hb : Below w.heap.size w w') : ReadsN G w' a ks :=
  Or.imp id (fun ⟨b, off, e, h⟩ => ⟨b, off, e, h.kept hb⟩) h

theorem ReadsK.keptS {S : Nat → Prop} {lo : Nat} {w w' : World} {a : Option Addr} {ks : F} (h : ReadsK lo w a ks) (hk : Kept S w w') (hS : ∀ k, S k → k < lo) : ReadsK lo w' a ks :=
  ReadsN.keptS h hk (fun k hk h => by have := hS k hk; omega)

theorem ReadsK.kept {lo : Nat} {w w' : World} {a : Option Addr} {ks : F} (h : ReadsK lo w a ks) (hb : Below w.heap.size w w') : ReadsK lo w' a ks := ReadsN.kept h hb

theorem ReadsK.mono {lo lo' : Nat} {w : World} {a : Option Addr} {ks : F} (h : ReadsK lo w a ks) (hlo : lo' ≤ lo) : ReadsK lo' w a ks := ReadsN.imp h (fun _ _ h => Nat.le_trans hlo h)

/-- From a place of a row on. -/
theorem ReadsF.drop {G : Nat → Prop} {w : World} : ∀ {f : F} {b off : Nat} (j : Nat), ReadsF G w f b off → ReadsF G w (f.drop j) b (off + j * 4)
  | f, _, off, 0, h => by rw [F.drop_zero, Nat.zero_mul, Nat.add_zero]; exact h
  | .nil, _, _, _ + 1, _ => trivial
  | .cons _ _ _ _ _, _, off, j + 1, ⟨_, _, _, hr⟩ => by
    have := hr.drop j
    rw [show off + 4 + j * 4 = off + (j + 1) * 4 by omega] at this
    exact this

end

section
open Go.RowKit

theorem isS_end {L : List Tk} {y : List UInt8} {p : Nat} (h : L.length ≤ p) : isS L y p = false := by
  unfold isS; rw [List.getElem?_eq_none h]

theorem isM_end {L : List Tk} {p : Nat} (h : L.length ≤ p) : isM L p = false := by unfold isM; rw [isS_end h, isS_end h, isS_end h]; rfl

theorem isA_end {L : List Tk} {p : Nat} (h : L.length ≤ p) : isA L p = false := by unfold isA; rw [isS_end h, isS_end h]; rfl

/-- How many nodes a row has. -/
def sizeF : F → Nat
  | .nil => 0
  | .cons _ _ _ ks r => 1 + sizeF ks + sizeF r

def sizeT (t : TN) : Nat := 1 + sizeF t.ks

theorem sizeF_tree (t : TN) : sizeF t.f = sizeT t := by unfold TN.f sizeT; rw [sizeF, sizeF, Nat.add_zero]

theorem cnt_le : ∀ (f : F) (l : Int), cntF f l ≤ l
  | .nil, l => Int.le_refl _
  | .cons _ _ _ ks r, l => by
    rw [cntF]
    split
    · exact Int.le_refl _
    · have := cnt_le ks (l - 1)
      have := cnt_le r (cntF ks (l - 1))
      omega

theorem cnt_size : ∀ (f : F) (l : Int), (sizeF f : Int) ≤ l → cntF f l = l - sizeF f
  | .nil, l, _ => by rw [cntF, sizeF]; omega
  | .cons _ _ _ ks r, l, h => by
    rw [sizeF] at h
    rw [cntF, if_neg (by omega), cnt_size ks (l - 1) (by omega), cnt_size r _ (by omega), sizeF]
    omega

theorem cnt_over : ∀ (f : F) (l : Int), 0 ≤ l → l < sizeF f → cntF f l < 0
  | .nil, l, h0, h => by rw [sizeF] at h; omega
  | .cons _ _ _ ks r, l, h0, h => by
    rw [sizeF] at h
    rw [cntF, if_neg (by omega)]
    by_cases h1 : (sizeF ks : Int) ≤ l - 1
    · rw [cnt_size ks _ h1]
      exact cnt_over r _ (by omega) (by omega)
    · by_cases h2 : 0 ≤ l - 1
      · have := cnt_over ks (l - 1) h2 (by omega)
        have := cnt_le r (cntF ks (l - 1))
        omega
      · have := cnt_le ks (l - 1)
        have := cnt_le r (cntF ks (l - 1))
        omega

theorem cnt_iff (t : TN) : cntF t.ks 31 < 0 ↔ 32 < sizeT t := by
  unfold sizeT
  by_cases h : (sizeF t.ks : Int) ≤ 31
  · rw [cnt_size _ _ h]; omega
  · have := cnt_over t.ks 31 (by omega) (by omega)
    omega

/-- What each token of the lexer is. -/
def GoodTk (t : Tk) : Prop := (t.kind = 1 ∧ goodB t.text = true) ∨ (t.kind = 2 ∧ 0 ≤ t.num ∧ t.num ≤ 9223372036854775807) ∨ t.kind = 3

theorem name_good {l : List UInt8} {n : Nat} {k v : Int} {c : UInt8} {r : List UInt8} (hl : l = c :: r) (hc : smallB c = true) (h : nameF l = .tok k n v) : k = 1 ∧ goodB (l.take n) = true := by
  unfold nameF at h
  split at h
  · cases h
  · rename_i h8
    cases h
    refine ⟨rfl, ?_⟩
    have hp : 1 ≤ runL alnumB l := by rw [hl]; exact run_pos (by unfold alnumB; rw [hc]; rfl)
    have hall : ∀ d ∈ l.take (runL alnumB l), alnumB d = true := by
      rw [take_run]
      exact fun d hd => List.all_eq_true.1 List.all_takeWhile d hd
    have hlen : (l.take (runL alnumB l)).length ≤ 8 := by rw [List.length_take]; omega
    rw [hl] at hall hlen ⊢
    obtain ⟨m, hm⟩ : ∃ m, runL alnumB (c :: r) = m + 1 := ⟨runL alnumB (c :: r) - 1, by rw [hl] at hp; omega⟩
    rw [hm] at hall hlen ⊢
    rw [List.take_succ_cons] at hall hlen ⊢
    rw [good_cons, hc, decide_eq_true (by simpa using hlen), Bool.true_and, Bool.true_and, List.all_eq_true]
    exact fun d hd => hall d (by simp [hd])

theorem first_good {l : List UInt8} {n : Nat} {k v : Int} (p : Nat) (h : firstF l = .tok k n v) : GoodTk ⟨k, l.take n, v, p⟩ := by
  have hf := first_num h
  cases l with
  | nil => cases h
  | cons c r =>
    simp only [firstF] at h
    split at h
    · rename_i hc
      obtain ⟨rfl, hg⟩ := name_good rfl hc h
      exact .inl ⟨rfl, hg⟩
    · split at h
      · unfold numF at h
        split at h
        · cases h
        · split at h
          · cases h
          · cases h; exact .inr (.inl ⟨rfl, hf.2.2⟩)
      · unfold signF at h
        split at h
        · cases h
        · cases h; exact .inr (.inr rfl)

theorem lex_good (l : List UInt8) (p : Nat) : ∀ ts, lexL l p = .ok ts → ∀ t ∈ ts, GoodTk t := by
  refine lex_induct (C := fun l p => ∀ ts, lexL l p = .ok ts → ∀ t ∈ ts, GoodTk t) ?_ ?_ ?_ ?_ l.length l p (Nat.le_refl _)
  · intro p ts h
    rw [lex_nil] at h; cases h
    intro t ht; cases ht
  · intro r p ih ts h
    rw [lex_blank] at h
    exact ih ts h
  · intro l p e h1 h0 hf ts h
    rw [lex_bad h0 h1 hf] at h; cases h
  · intro l p k n v h1 h0 hf hn hl ih ts h
    rw [lex_tok h1 hn hf] at h
    obtain ⟨ts', h', rfl⟩ := after_ok h
    intro t ht
    rcases List.mem_cons.1 ht with rfl | ht
    · exact first_good p hf
    · exact ih ts' h' t ht

theorem lexT_good {l : List UInt8} {ts : List Tk} (h : lexT l = .ok ts) : ∀ t ∈ ts, GoodTk t := by
  unfold lexT at h
  split at h
  · cases h
  · exact lex_good _ _ _ h

/-- A tree that may be, but for its count. -/
def OkT (t : TN) : Prop := chkF t.f = 0

theorem ok_num {v : Int} (h : 0 ≤ v) : OkT (numT v) := by
  have e : errN ⟨#[110, 117, 109]⟩ ⟨#[]⟩ v 0 = 0 := by
    unfold errN
    rw [show (arity ⟨#[110, 117, 109]⟩ != ((0 : Nat) : Int)) = false from rfl, show isName ⟨#[110, 117, 109]⟩ = false from rfl, decide_eq_false (show ¬ v < 0 by omega), Bool.and_false, Bool.false_and]
    rfl
  show chkF (.cons _ _ _ _ .nil) = 0
  rw [chkF]
  exact (if_pos e).trans rfl

theorem ok_name {x : List UInt8} (h : goodB x = true) : OkT (nameT x) := by
  have e : errN ⟨#[110, 97, 109, 101]⟩ ⟨x.toArray⟩ 0 0 = 0 := by
    unfold errN
    rw [show (arity ⟨#[110, 97, 109, 101]⟩ != ((0 : Nat) : Int)) = false from rfl, show isNum ⟨#[110, 97, 109, 101]⟩ = false from rfl, show goodB (⟨x.toArray⟩ : ByteArray).data.toList = true from h, Bool.not_true, Bool.and_false, Bool.false_and]
    rfl
  show chkF (.cons _ _ _ _ .nil) = 0
  rw [chkF]
  exact (if_pos e).trans rfl

theorem ok_neg {k : TN} (h : OkT k) : OkT (negT k) := by
  have e : errN ⟨#[110, 101, 103]⟩ ⟨#[]⟩ 0 k.f.len = 0 := rfl
  have h' : chkF k.f = 0 := h
  show chkF (.cons ⟨#[110, 101, 103]⟩ ⟨#[]⟩ 0 k.f .nil) = 0
  rw [chkF, if_pos e, if_pos h']
  rfl

/-- The five signs. -/
def signO (o : List UInt8) : Prop := o = [43] ∨ o = [45] ∨ o = [42] ∨ o = [47] ∨ o = [37]

theorem ok_two {o : List UInt8} {a b : TN} (ho : signO o) (ha : OkT a) (hb : OkT b) : OkT (twoT o a b) := by
  have e : errN ⟨o.toArray⟩ ⟨#[]⟩ 0 2 = 0 := by rcases ho with rfl | rfl | rfl | rfl | rfl <;> rfl
  have hk : chkF (.cons a.op a.nm a.n a.ks b.f) = 0 := by
    have ha' : chkF a.f = 0 := ha
    rw [chk_tree] at ha'
    rw [chkF]
    by_cases h1 : errN a.op a.nm a.n a.ks.len = 0
    · rw [if_pos h1] at ha' ⊢
      rw [if_pos ha']; exact hb
    · rw [if_neg h1] at ha'; exact absurd ha' h1
  have e2 : errN ⟨o.toArray⟩ ⟨#[]⟩ 0 (F.cons a.op a.nm a.n a.ks b.f).len = 0 := e
  show chkF (.cons ⟨o.toArray⟩ ⟨#[]⟩ 0 (.cons a.op a.nm a.n a.ks b.f) .nil) = 0
  rw [chkF, if_pos e2, if_pos hk]
  rfl

theorem size_num (v : Int) : sizeT (numT v) = 1 := rfl

theorem size_name (x : List UInt8) : sizeT (nameT x) = 1 := rfl

theorem size_neg (k : TN) : sizeT (negT k) = 1 + sizeT k := by unfold negT; rw [sizeT, sizeF_tree]

theorem size_two (o : List UInt8) (a b : TN) : sizeT (twoT o a b) = 1 + sizeT a + sizeT b := by
  unfold twoT
  rw [sizeT, sizeF, sizeF_tree]
  unfold sizeT
  omega

theorem opM {L : List Tk} {p : Nat} (h : isM L p = true) : signO (opAt L p) := by
  unfold isM isS at h
  unfold opAt
  cases e : L[p]? with
  | none => rw [e] at h; simp at h
  | some t =>
    rw [e] at h
    simp only [Bool.or_eq_true, Bool.and_eq_true, beq_iff_eq] at h
    rcases h with (⟨_, h⟩ | ⟨_, h⟩) | ⟨_, h⟩
    · exact .inr (.inr (.inl h))
    · exact .inr (.inr (.inr (.inl h)))
    · exact .inr (.inr (.inr (.inr h)))

theorem opA {L : List Tk} {p : Nat} (h : isA L p = true) : signO (opAt L p) := by
  unfold isA isS at h
  unfold opAt
  cases e : L[p]? with
  | none => rw [e] at h; simp at h
  | some t =>
    rw [e] at h
    simp only [Bool.or_eq_true, Bool.and_eq_true, beq_iff_eq] at h
    rcases h with ⟨_, h⟩ | ⟨_, h⟩
    · exact .inl h
    · exact .inr (.inl h)

/-- The tree that a mode has in hand. -/
def Md.hand : Md → Nat
  | .prodL n => sizeT n
  | .sumL n => sizeT n
  | _ => 0

def Md.fine : Md → Prop
  | .prodL n => OkT n
  | .sumL n => OkT n
  | _ => True

theorem tick_bad {s : RS} (h : (tickR s).bad = 0) : s.bad = 0 ∧ (tickR s).cnt = s.cnt + 1 ∧ s.cnt + 1 ≤ 32 ∧ (tickR s).pos = s.pos + 1 ∧ (tickR s).whr = s.whr := by
  unfold tickR at h ⊢
  by_cases hb : s.bad = 0
  · rw [if_pos hb] at h ⊢
    by_cases h32 : 32 < s.cnt + 1
    · rw [if_pos h32] at h; cases h
    · rw [if_neg h32]; exact ⟨hb, rfl, by omega, rfl, rfl⟩
  · rw [if_neg hb] at h; exact absurd h hb

theorem fail_bad (e : Int) (he : ¬ e = 0) (s : RS) : ¬ (failR e s).bad = 0 := by
  unfold failR
  by_cases hb : s.bad = 0
  · rw [if_pos hb]; exact he
  · rw [if_neg hb]; exact hb

theorem close_bad {L : List Tk} {s : RS} (h : (closeR L s).bad = 0) : s.bad = 0 ∧ isS L [41] s.pos = true ∧ closeR L s = stepR s := by
  unfold closeR at h ⊢
  by_cases hc : (s.bad == 0 && !isS L [41] s.pos) = true
  · rw [if_pos hc] at h
    exact absurd h (fail_bad 2 (by decide) s)
  · rw [if_neg hc] at h ⊢
    have hb : s.bad = 0 := h
    refine ⟨hb, ?_, rfl⟩
    rw [hb] at hc
    simpa using hc

theorem pr_stay (L : List Tk) : ∀ (f : Nat) (md : Md) (s : RS), ¬ s.bad = 0 → (pr L f md s).2 = s
  | 0, _, _, _ => rfl
  | f + 1, .fac, s, h => by rw [pr, if_neg h]
  | f + 1, .prod, s, h => by rw [pr, pr_stay L f .fac s h, pr_stay L f _ s h]
  | f + 1, .prodL n, s, h => by rw [pr, if_neg (by simp [h])]
  | f + 1, .sum, s, h => by rw [pr, pr_stay L f .prod s h, pr_stay L f _ s h]
  | f + 1, .sumL n, s, h => by rw [pr, if_neg (by simp [h])]

theorem pr_was {L : List Tk} {f : Nat} {md : Md} {s : RS} (h : (pr L f md s).2.bad = 0) : s.bad = 0 := by
  refine Classical.byContradiction fun hs => ?_
  rw [pr_stay L f md s hs] at h
  exact hs h

/-- What is parsed without an error may be, and has as many nodes as were counted. -/
theorem pr_good (L : List Tk) (hL : ∀ t ∈ L, GoodTk t) : ∀ (f : Nat) (md : Md) (s : RS), need (L.length - s.pos) md ≤ f → md.fine → s.cnt ≤ 32 → (pr L f md s).2.bad = 0 →
    s.bad = 0 ∧ OkT (pr L f md s).1 ∧ (pr L f md s).2.cnt + md.hand = s.cnt + sizeT (pr L f md s).1 ∧ (pr L f md s).2.cnt ≤ 32
  | 0, md, s, h, _, _, _ => by cases md <;> simp [need] at h
  | f + 1, .fac, s, hn, _, hc, h => by
    simp only [need] at hn
    rw [pr] at h ⊢
    by_cases hb : s.bad = 0
    · rw [if_pos hb] at h ⊢
      cases e : L[s.pos]? with
      | none => rw [e] at h; exact absurd h (fail_bad 2 (by decide) s)
      | some t =>
        obtain ⟨hlt, ht⟩ := List.getElem?_eq_some_iff.1 e
        have hg := hL t (ht ▸ List.getElem_mem hlt)
        rw [e] at h
        simp only at h ⊢
        by_cases h2 : t.kind = 2
        · rw [if_pos h2] at h ⊢
          dsimp only at h ⊢
          obtain ⟨_, k1, k2, _⟩ := tick_bad h
          refine ⟨hb, ok_num ?_, by rw [size_num]; simp only [Md.hand]; omega, by omega⟩
          rcases hg with ⟨hk, _⟩ | ⟨_, h0, _⟩ | hk
          · rw [h2] at hk; cases hk
          · exact h0
          · rw [h2] at hk; cases hk
        rw [if_neg h2] at h ⊢
        by_cases h1 : t.kind = 1
        · rw [if_pos h1] at h ⊢
          dsimp only at h ⊢
          obtain ⟨_, k1, k2, _⟩ := tick_bad h
          refine ⟨hb, ok_name ?_, by rw [size_name]; simp only [Md.hand]; omega, by omega⟩
          rcases hg with ⟨_, hk⟩ | ⟨hk, _⟩ | hk
          · exact hk
          · rw [h1] at hk; cases hk
          · rw [h1] at hk; cases hk
        rw [if_neg h1] at h ⊢
        by_cases h45 : t.text = [45]
        · rw [if_pos h45] at h ⊢
          simp only at h ⊢
          obtain ⟨_, k1, k2, k3, _⟩ := tick_bad (pr_was h)
          obtain ⟨_, g1, g2, g3⟩ := pr_good L hL f .fac (tickR s) (by rw [k3]; simp only [need]; omega) trivial (by omega) h
          refine ⟨hb, ok_neg g1, ?_, g3⟩
          rw [size_neg]; simp only [Md.hand] at g2 ⊢; omega
        rw [if_neg h45] at h ⊢
        by_cases h40 : t.text = [40]
        · rw [if_pos h40] at h ⊢
          simp only at h ⊢
          obtain ⟨c1, c2, c3⟩ := close_bad h
          obtain ⟨_, g1, g2, g3⟩ := pr_good L hL f .sum (stepR s) (by show need (L.length - (s.pos + 1)) _ ≤ f; simp only [need]; omega) trivial hc c1
          rw [c3]
          exact ⟨hb, g1, g2, g3⟩
        rw [if_neg h40] at h
        exact absurd h (fail_bad 2 (by decide) s)
    · rw [if_neg hb] at h; exact absurd h hb
  | f + 1, .prod, s, hn, _, hc, h => by
    simp only [need] at hn
    rw [pr] at h ⊢
    have hp := pr_pos L f .fac s
    have hk := pr_was h
    obtain ⟨a0, a1, a2, a3⟩ := pr_good L hL f .fac s (by simp only [need]; omega) trivial hc hk
    obtain ⟨_, b1, b2, b3⟩ := pr_good L hL f (.prodL (pr L f .fac s).1) (pr L f .fac s).2 (by simp only [need]; omega) a1 a3 h
    simp only [Md.hand] at a2 b2 ⊢
    exact ⟨a0, b1, by omega, b3⟩
  | f + 1, .prodL n, s, hn, hf, hc, h => by
    simp only [need] at hn
    rw [pr] at h ⊢
    by_cases hcnd : (s.bad == 0 && isM L s.pos) = true
    · rw [if_pos hcnd] at h ⊢
      simp only [Bool.and_eq_true, beq_iff_eq] at hcnd
      have hlt := isM_lt hcnd.2
      have hp := pr_pos L f .fac (tickR s)
      rw [tick_pos] at hp
      have hk : (pr L f .fac (tickR s)).2.bad = 0 := pr_was h
      have ht := pr_was hk
      obtain ⟨_, k1, k2, k3, _⟩ := tick_bad ht
      obtain ⟨_, a1, a2, a3⟩ := pr_good L hL f .fac (tickR s) (by rw [k3]; simp only [need]; omega) trivial (by omega) hk
      obtain ⟨_, b1, b2, b3⟩ := pr_good L hL f (.prodL (twoT (opAt L s.pos) n (pr L f .fac (tickR s)).1)) _ (by simp only [need]; omega) (ok_two (opM hcnd.2) hf a1) a3 h
      simp only [Md.hand] at a2 b2 ⊢
      rw [size_two] at b2
      exact ⟨hcnd.1, b1, by omega, b3⟩
    · rw [if_neg hcnd] at h ⊢
      exact ⟨h, hf, rfl, hc⟩
  | f + 1, .sum, s, hn, _, hc, h => by
    simp only [need] at hn
    rw [pr] at h ⊢
    have hp := pr_pos L f .prod s
    have hk := pr_was h
    obtain ⟨a0, a1, a2, a3⟩ := pr_good L hL f .prod s (by simp only [need]; omega) trivial hc hk
    obtain ⟨_, b1, b2, b3⟩ := pr_good L hL f (.sumL (pr L f .prod s).1) (pr L f .prod s).2 (by simp only [need]; omega) a1 a3 h
    simp only [Md.hand] at a2 b2 ⊢
    exact ⟨a0, b1, by omega, b3⟩
  | f + 1, .sumL n, s, hn, hf, hc, h => by
    simp only [need] at hn
    rw [pr] at h ⊢
    by_cases hcnd : (s.bad == 0 && isA L s.pos) = true
    · rw [if_pos hcnd] at h ⊢
      simp only [Bool.and_eq_true, beq_iff_eq] at hcnd
      have hlt := isA_lt hcnd.2
      have hp := pr_pos L f .prod (tickR s)
      rw [tick_pos] at hp
      have hk : (pr L f .prod (tickR s)).2.bad = 0 := pr_was h
      have ht := pr_was hk
      obtain ⟨_, k1, k2, k3, _⟩ := tick_bad ht
      obtain ⟨_, a1, a2, a3⟩ := pr_good L hL f .prod (tickR s) (by rw [k3]; simp only [need]; omega) trivial (by omega) hk
      obtain ⟨_, b1, b2, b3⟩ := pr_good L hL f (.sumL (twoT (opAt L s.pos) n (pr L f .prod (tickR s)).1)) _ (by simp only [need]; omega) (ok_two (opA hcnd.2) hf a1) a3 h
      simp only [Md.hand] at a2 b2 ⊢
      rw [size_two] at b2
      exact ⟨hcnd.1, b1, by omega, b3⟩
    · rw [if_neg hcnd] at h ⊢
      exact ⟨h, hf, rfl, hc⟩

/-- How far a reader comes. -/
def TopR (n p : Nat) (q : RS) : Prop := q.pos + p ≤ 2 * n + 1 ∧ q.cnt ≤ 33 ∧ (q.bad = 0 → q.pos ≤ n ∧ q.cnt ≤ 32)

theorem TopR.mono {n p p' : Nat} {q : RS} (h : TopR n p q) (hp : p' ≤ p) : TopR n p' q := ⟨by have := h.1; omega, h.2⟩

/-- What Of answers without an error is a tree that may be. -/
theorem ofL_good {L : List Tk} (hL : ∀ t ∈ L, GoodTk t) {p q : Nat} {t : TN} (h : ofL L p = .ok t q) : checkT t = 0 ∧ sizeT t ≤ 32 := by
  unfold ofL at h
  split at h
  · rename_i hb
    cases h
    obtain ⟨_, g1, g2, g3⟩ := pr_good L hL (4 * (L.length - p) + 4) .sum ⟨p, 0, 0, 0⟩ (by simp only [need]; omega) trivial (Nat.zero_le _) hb
    have hs : sizeT (pE L .sum ⟨p, 0, 0, 0⟩).1 ≤ 32 := by
      simp only [Md.hand] at g2
      have : (pE L .sum ⟨p, 0, 0, 0⟩).2.cnt + 0 = 0 + sizeT (pE L .sum ⟨p, 0, 0, 0⟩).1 := g2
      have : (pE L .sum ⟨p, 0, 0, 0⟩).2.cnt ≤ 32 := g3
      omega
    refine ⟨?_, hs⟩
    unfold checkT
    rw [if_neg (by rw [cnt_iff]; omega)]
    exact g1
  · cases h

end

section
open Go.RowKit

theorem below_drewN {B : Nat} {a w : World} (h : Below B a w) (n : Nat) : Below B a (w.drewN n) := ⟨h.os, h.tape, h.output, h.size, h.block⟩

end

section
open Go.RowKit

/-- Tokens that lie below a block. -/
def TokB (lim : Nat) (w : World) (a : Option Addr) (ts : List Tk) : Prop :=
  ts = [] ∨ ∃ b off, a = some ⟨b, off, none⟩ ∧ b < lim ∧ ∀ j (h : j < ts.length), w.cell? ⟨b, off + j * 4, none⟩ = some (.int .i64 ts[j].kind) ∧ w.cell? ⟨b, off + j * 4 + 1, none⟩ = some (.string ⟨ts[j].text.toArray⟩) ∧
    w.cell? ⟨b, off + j * 4 + 2, none⟩ = some (.int .i64 ts[j].num) ∧ w.cell? ⟨b, off + j * 4 + 3, none⟩ = some (.int .i64 ts[j].place)

theorem TokB.kept {lim : Nat} {S : Nat → Prop} {w w' : World} {a : Option Addr} {ts : List Tk} (h : TokB lim w a ts) (hk : Kept S w w') (hS : ∀ k, S k → lim ≤ k) : TokB lim w' a ts := by
  rcases h with h | ⟨b, off, rfl, hlt, hc⟩
  · exact .inl h
  · have hb : ¬ S b := fun hs => by have := hS b hs; omega
    refine .inr ⟨b, off, rfl, hlt, fun j hj => ?_⟩
    obtain ⟨c0, c1, c2, c3⟩ := hc j hj
    exact ⟨hk.cell c0 hb, hk.cell c1 hb, hk.cell c2 hb, hk.cell c3 hb⟩

theorem tokB_of {w : World} {a : Option Addr} {ts : List Tk} (h : ReadsT w a ts) : TokB w.heap.size w a ts := h.imp id fun ⟨b, off, e, hlt, hc⟩ => ⟨b, off, e, hlt, hc⟩

theorem kept_set {rb : Nat} {w0 w : World} (h : Kept (· = rb) w0 w) (o : Nat) (v : Value) : Kept (· = rb) w0 (w.setCell ⟨rb, o, none⟩ v) := h.setCell (p := ⟨rb, o, none⟩) (.inl rfl) v

theorem tok_cells {ts : List Tk} {rb : Nat} {a : Option Addr} {w : World} (h : TokB rb w a ts) {p : Nat} (hp : p < ts.length) : ∃ b off, a = some ⟨b, off, none⟩ ∧ b < rb ∧ w.cell? ⟨b, off + p * 4, none⟩ = some (.int .i64 ts[p].kind) ∧ w.cell? ⟨b, off + p * 4 + 1, none⟩ = some (.string ⟨ts[p].text.toArray⟩) ∧
    w.cell? ⟨b, off + p * 4 + 2, none⟩ = some (.int .i64 ts[p].num) ∧ w.cell? ⟨b, off + p * 4 + 3, none⟩ = some (.int .i64 ts[p].place) := by
  rcases h with h | ⟨b, off, e, hlt, hc⟩
  · rw [h] at hp; simp at hp
  · exact ⟨b, off, e, hlt, hc p hp⟩

end

section
open Go.RowKit

/-- A reader: the place, what is open, the count, the signs that wait (the last first), what they take (the last first). -/
structure SR where
  pos : Nat
  opn : Nat
  cnt : Nat
  sg : List (List UInt8 × Nat)
  dn : List TN

inductive RunEnd | bad (p : Nat) (e : Int) | ok (s : SR)

/-- What one sign makes of what is there. -/
def joinOne (o : List UInt8) (dn : List TN) : List TN :=
  if o = bNeg then (match dn with
    | a :: r => negT a :: r
    | [] => [])
  else match dn with
    | b :: a :: r => twoT o a b :: r
    | _ => []

/-- All signs joined that hold at least so fast. -/
def joinS (h : Nat) : List (List UInt8 × Nat) → List TN → List (List UInt8 × Nat) × List TN
  | [], dn => ([], dn)
  | (o, k) :: sg, dn => if h ≤ k then joinS h sg (joinOne o dn) else ((o, k) :: sg, dn)

/-- How fast the sign at a place holds; 0: there is none. -/
def holdsAt (L : List Tk) (p : Nat) : Nat := if isA L p = true then 1 else if isM L p = true then 2 else 0

/-- The run: true: a factor is to be read; false: one has been. -/
def run (L : List Tk) : Nat → Bool → SR → RunEnd
  | 0, _, s => .bad s.pos 2
  | f + 1, true, s =>
    if isS L [40] s.pos = true then run L f true ⟨s.pos + 1, s.opn + 1, s.cnt, s.sg, s.dn⟩
    else if isS L [45] s.pos = true then (if s.cnt = 32 then .bad s.pos 4 else run L f true ⟨s.pos + 1, s.opn, s.cnt + 1, (bNeg, 3 + s.opn * 3) :: s.sg, s.dn⟩)
    else match L[s.pos]? with
      | none => .bad s.pos 2
      | some t =>
        if t.kind = 2 ∧ 0 ≤ t.num then (if s.cnt = 32 then .bad s.pos 4 else run L f false ⟨s.pos + 1, s.opn, s.cnt + 1, s.sg, numT t.num :: s.dn⟩)
        else if t.kind = 1 ∧ goodB t.text = true then (if s.cnt = 32 then .bad s.pos 4 else run L f false ⟨s.pos + 1, s.opn, s.cnt + 1, s.sg, nameT t.text :: s.dn⟩)
        else .bad s.pos 2
  | f + 1, false, s =>
    if 0 < s.opn ∧ isS L [41] s.pos = true then run L f false ⟨s.pos + 1, s.opn - 1, s.cnt, s.sg, s.dn⟩
    else if holdsAt L s.pos = 0 then (if 0 < s.opn then .bad s.pos 2 else .ok s)
    else if s.cnt = 32 then .bad s.pos 4
    else run L f true ⟨s.pos + 1, s.opn, s.cnt + 1, (opAt L s.pos, holdsAt L s.pos + s.opn * 3) :: (joinS (holdsAt L s.pos + s.opn * 3) s.sg s.dn).1, (joinS (holdsAt L s.pos + s.opn * 3) s.sg s.dn).2⟩

/-- The run, whatever its measure. -/
def runE (L : List Tk) (m : Bool) (s : SR) : RunEnd := run L (L.length + 1 - s.pos) m s

theorem runE_fac {L : List Tk} {s : SR} (hp : s.pos ≤ L.length) : runE L true s =
    if isS L [40] s.pos = true then runE L true ⟨s.pos + 1, s.opn + 1, s.cnt, s.sg, s.dn⟩
    else if isS L [45] s.pos = true then (if s.cnt = 32 then .bad s.pos 4 else runE L true ⟨s.pos + 1, s.opn, s.cnt + 1, (bNeg, 3 + s.opn * 3) :: s.sg, s.dn⟩)
    else match L[s.pos]? with
      | none => .bad s.pos 2
      | some t =>
        if t.kind = 2 ∧ 0 ≤ t.num then (if s.cnt = 32 then .bad s.pos 4 else runE L false ⟨s.pos + 1, s.opn, s.cnt + 1, s.sg, numT t.num :: s.dn⟩)
        else if t.kind = 1 ∧ goodB t.text = true then (if s.cnt = 32 then .bad s.pos 4 else runE L false ⟨s.pos + 1, s.opn, s.cnt + 1, s.sg, nameT t.text :: s.dn⟩)
        else .bad s.pos 2 := by
  unfold runE
  rw [show L.length + 1 - s.pos = (L.length - s.pos) + 1 by omega, run]
  simp only [show L.length + 1 - (s.pos + 1) = L.length - s.pos by omega]

theorem runE_beh {L : List Tk} {s : SR} (hp : s.pos ≤ L.length) : runE L false s =
    if 0 < s.opn ∧ isS L [41] s.pos = true then runE L false ⟨s.pos + 1, s.opn - 1, s.cnt, s.sg, s.dn⟩
    else if holdsAt L s.pos = 0 then (if 0 < s.opn then .bad s.pos 2 else .ok s)
    else if s.cnt = 32 then .bad s.pos 4
    else runE L true ⟨s.pos + 1, s.opn, s.cnt + 1, (opAt L s.pos, holdsAt L s.pos + s.opn * 3) :: (joinS (holdsAt L s.pos + s.opn * 3) s.sg s.dn).1, (joinS (holdsAt L s.pos + s.opn * 3) s.sg s.dn).2⟩ := by
  unfold runE
  rw [show L.length + 1 - s.pos = (L.length - s.pos) + 1 by omega, run]
  simp only [show L.length + 1 - (s.pos + 1) = L.length - s.pos by omega]

theorem join_low {h : Nat} {sg : List (List UInt8 × Nat)} (dn : List TN) (H : ∀ x ∈ sg, x.2 < h) : joinS h sg dn = (sg, dn) := by
  cases sg with
  | nil => rfl
  | cons x sg =>
    obtain ⟨o, k⟩ := x
    rw [joinS, if_neg (by have := H (o, k) (by simp); simp only at this; omega)]

theorem join_join {h h' : Nat} (hh : h ≤ h') : ∀ (sg : List (List UInt8 × Nat)) (dn : List TN), joinS h (joinS h' sg dn).1 (joinS h' sg dn).2 = joinS h sg dn
  | [], dn => rfl
  | (o, k) :: sg, dn => by
    rw [joinS]
    by_cases hk : h' ≤ k
    · rw [if_pos hk, join_join hh sg, joinS, if_pos (by omega)]
    · rw [if_neg hk]

theorem join_eq {h h' : Nat} (hh : h ≤ h') {sg sg2 : List (List UInt8 × Nat)} {dn dn2 : List TN} (H : joinS h' sg2 dn2 = joinS h' sg dn) : joinS h sg2 dn2 = joinS h sg dn := by
  rw [← join_join hh sg2, ← join_join hh sg, H]

/-- What the run makes of a part: it fails where the parser fails, or goes on behind it, with the part's tree on top. -/
def Sim (L : List Tk) (h d : Nat) (sg : List (List UInt8 × Nat)) (dn : List TN) (C : Nat → Prop) (R : RunEnd) (x : TN × RS) : Prop :=
  (¬ x.2.bad = 0 → R = .bad x.2.whr x.2.bad) ∧
  (x.2.bad = 0 → C x.2.pos ∧ x.2.pos ≤ L.length ∧ x.2.cnt ≤ 32 ∧ ∃ sg3 dn3, R = runE L false ⟨x.2.pos, d, x.2.cnt, sg3, dn3⟩ ∧ joinS h sg3 dn3 = joinS h sg (x.1 :: dn))

def SimAt (L : List Tk) (s : RS) : Md → TN × RS → Prop
  | .fac, x => ∀ d sg dn, (∀ y ∈ sg, y.2 ≤ 3 * d + 3) → Sim L (3 * d + 3) d sg dn (fun _ => True) (runE L true ⟨s.pos, d, s.cnt, sg, dn⟩) x
  | .prod, x => ∀ d sg dn, (∀ y ∈ sg, y.2 < 3 * d + 2) → Sim L (3 * d + 2) d sg dn (fun p => isM L p = false) (runE L true ⟨s.pos, d, s.cnt, sg, dn⟩) x
  | .sum, x => ∀ d sg dn, (∀ y ∈ sg, y.2 < 3 * d + 1) → Sim L (3 * d + 1) d sg dn (fun p => isM L p = false ∧ isA L p = false) (runE L true ⟨s.pos, d, s.cnt, sg, dn⟩) x
  | .prodL n, x => ∀ d sg dn sg2 dn2, (∀ y ∈ sg, y.2 < 3 * d + 2) → joinS (3 * d + 2) sg2 dn2 = (sg, n :: dn) → Sim L (3 * d + 2) d sg dn (fun p => isM L p = false) (runE L false ⟨s.pos, d, s.cnt, sg2, dn2⟩) x
  | .sumL n, x => isM L s.pos = false → ∀ d sg dn sg2 dn2, (∀ y ∈ sg, y.2 < 3 * d + 1) → joinS (3 * d + 1) sg2 dn2 = (sg, n :: dn) → Sim L (3 * d + 1) d sg dn (fun p => isM L p = false ∧ isA L p = false) (runE L false ⟨s.pos, d, s.cnt, sg2, dn2⟩) x

theorem isS_is {L : List Tk} {x : List UInt8} {p : Nat} {t : Tk} (h : L[p]? = some t) : isS L x p = (t.kind == 3 && t.text == x) := by
  unfold isS; rw [h]

theorem isA_not_shut {L : List Tk} {p : Nat} (h : isA L p = true) : isS L [41] p = false ∧ isM L p = false := by
  have hlt := isA_lt h
  unfold isM
  unfold isA at h
  rw [isS_is (List.getElem?_eq_getElem hlt)] at h ⊢
  rw [isS_is (List.getElem?_eq_getElem hlt)] at h
  rw [isS_is (List.getElem?_eq_getElem hlt), isS_is (List.getElem?_eq_getElem hlt), isS_is (List.getElem?_eq_getElem hlt)]
  simp only [Bool.or_eq_true, Bool.and_eq_true, beq_iff_eq] at h
  rcases h with ⟨h1, h2⟩ | ⟨h1, h2⟩ <;> rw [h1, h2] <;> exact ⟨rfl, rfl⟩

theorem isM_not_shut {L : List Tk} {p : Nat} (h : isM L p = true) : isS L [41] p = false ∧ isA L p = false := by
  have hlt := isM_lt h
  unfold isA
  unfold isM at h
  rw [isS_is (List.getElem?_eq_getElem hlt)] at h ⊢
  rw [isS_is (List.getElem?_eq_getElem hlt)] at h
  rw [isS_is (List.getElem?_eq_getElem hlt)] at h
  rw [isS_is (List.getElem?_eq_getElem hlt), isS_is (List.getElem?_eq_getElem hlt)]
  simp only [Bool.or_eq_true, Bool.and_eq_true, beq_iff_eq] at h
  rcases h with (⟨h1, h2⟩ | ⟨h1, h2⟩) | ⟨h1, h2⟩ <;> rw [h1, h2] <;> exact ⟨rfl, rfl⟩

theorem tick_long {s : RS} (hb : s.bad = 0) (h : s.cnt = 32) : (tickR s).bad = 4 ∧ (tickR s).whr = s.pos := by
  unfold tickR; rw [if_pos hb, if_pos (by omega)]; exact ⟨rfl, rfl⟩

theorem tick_fits {s : RS} (hb : s.bad = 0) (h : s.cnt ≤ 32) (h' : ¬ s.cnt = 32) : tickR s = ⟨s.pos + 1, s.cnt + 1, 0, s.whr⟩ := by
  unfold tickR; rw [if_pos hb, if_neg (by omega)]

theorem sim_long {L : List Tk} {h d : Nat} {sg : List (List UInt8 × Nat)} {dn : List TN} {C : Nat → Prop} {t : TN} {p : Nat} {q : RS} (hb : q.bad = 4) (hw : q.whr = p) : Sim L h d sg dn C (.bad p 4) (t, q) :=
  ⟨fun _ => by simp only; rw [hb, hw], fun h0 => by simp only at h0; rw [hb] at h0; exact absurd h0 (by decide)⟩

theorem sim_form {L : List Tk} {h d : Nat} {sg : List (List UInt8 × Nat)} {dn : List TN} {C : Nat → Prop} {t : TN} {s : RS} (hb : s.bad = 0) : Sim L h d sg dn C (.bad s.pos 2) (t, failR 2 s) := by
  have e : failR 2 s = ⟨s.pos, s.cnt, 2, s.pos⟩ := by unfold failR; rw [if_pos hb]
  rw [e]
  exact ⟨fun _ => rfl, fun h0 => by cases h0⟩

theorem simR_bad {L : List Tk} {h h' d d' : Nat} {sg sg' : List (List UInt8 × Nat)} {dn dn' : List TN} {C C' : Nat → Prop} {R : RunEnd} {x y : TN × RS} (hx : ¬ x.2.bad = 0) (H : Sim L h d sg dn C R x) (hy : y.2 = x.2) : Sim L h' d' sg' dn' C' R y :=
  ⟨fun _ => by rw [hy]; exact H.1 hx, fun h0 => absurd (by rw [← hy]; exact h0) hx⟩

theorem sim (L : List Tk) (hL : ∀ t ∈ L, GoodTk t) : ∀ (f : Nat) (md : Md) (s : RS), need (L.length - s.pos) md ≤ f → s.bad = 0 → s.pos ≤ L.length → s.cnt ≤ 32 → SimAt L s md (pr L f md s)
  | 0, md, s, h, _, _, _ => by cases md <;> simp [need] at h
  | f + 1, .fac, s, h, hb, hp, hc => by
    intro d sg dn hsg
    simp only [need] at h
    rw [pr, if_pos hb, runE_fac hp]
    simp only
    cases e : L[s.pos]? with
    | none =>
      have hge : L.length ≤ s.pos := List.getElem?_eq_none_iff.1 e
      rw [if_neg (by rw [isS_end hge]; decide), if_neg (by rw [isS_end hge]; decide)]
      exact sim_form hb
    | some t =>
      have hlt := (List.getElem?_eq_some_iff.1 e).1
      have hg := hL t (by rw [← (List.getElem?_eq_some_iff.1 e).2]; exact List.getElem_mem hlt)
      simp only
      rw [isS_is e, isS_is e]
      rcases hg with ⟨k1, kg⟩ | ⟨k2, kn, _⟩ | k3
      · rw [k1, show ((1 : Int) == 3) = false from rfl, Bool.false_and, Bool.false_and, if_neg Bool.false_ne_true, if_neg Bool.false_ne_true, if_neg (show ¬ ((1 : Int) = 2 ∧ 0 ≤ t.num) from fun h => absurd h.1 (by decide)), if_pos (⟨rfl, kg⟩ : (1 : Int) = 1 ∧ goodB t.text = true), if_neg (show ¬ (1 : Int) = 2 by decide), if_pos (rfl : (1 : Int) = 1)]
        by_cases h32 : s.cnt = 32
        · rw [if_pos h32]
          exact sim_long (tick_long hb h32).1 (tick_long hb h32).2
        · rw [if_neg h32, tick_fits hb hc h32]
          exact ⟨fun h0 => absurd rfl h0, fun _ => ⟨trivial, by simp only; omega, by simp only; omega, _, _, rfl, rfl⟩⟩
      · rw [k2, show ((2 : Int) == 3) = false from rfl, Bool.false_and, Bool.false_and, if_neg Bool.false_ne_true, if_neg Bool.false_ne_true, if_pos (⟨rfl, kn⟩ : (2 : Int) = 2 ∧ 0 ≤ t.num), if_pos (rfl : (2 : Int) = 2)]
        by_cases h32 : s.cnt = 32
        · rw [if_pos h32]
          exact sim_long (tick_long hb h32).1 (tick_long hb h32).2
        · rw [if_neg h32, tick_fits hb hc h32]
          exact ⟨fun h0 => absurd rfl h0, fun _ => ⟨trivial, by simp only; omega, by simp only; omega, _, _, rfl, rfl⟩⟩
      · rw [k3, if_neg (show ¬ (3 : Int) = 2 by decide), if_neg (show ¬ (3 : Int) = 1 by decide)]
        by_cases h45 : t.text = [45]
        · rw [h45, if_neg (show ¬ ((3 : Int) == 3 && ([45] : List UInt8) == [40]) = true by decide), if_pos (show ((3 : Int) == 3 && ([45] : List UInt8) == [45]) = true by decide), if_pos (rfl : ([45] : List UInt8) = [45])]
          by_cases h32 : s.cnt = 32
          · rw [if_pos h32]
            have ht := tick_long hb h32
            have hst : (pr L f .fac (tickR s)).2 = tickR s := pr_stay L f .fac _ (by rw [ht.1]; decide)
            exact sim_long (by rw [hst]; exact ht.1) (by rw [hst]; exact ht.2)
          · rw [if_neg h32, tick_fits hb hc h32]
            have ih := sim L hL f .fac ⟨s.pos + 1, s.cnt + 1, 0, s.whr⟩ (by simp only [need]; omega) rfl (by simp only; omega) (by simp only; omega) d ((bNeg, 3 + d * 3) :: sg) dn
              (by intro y hy; rcases List.mem_cons.1 hy with rfl | hy
                  · show 3 + d * 3 ≤ _; omega
                  · exact hsg y hy)
            refine ⟨ih.1, fun h0 => ?_⟩
            obtain ⟨c1, c2, c3, sg3, dn3, e1, e2⟩ := ih.2 h0
            refine ⟨c1, c2, c3, sg3, dn3, e1, ?_⟩
            rw [e2, joinS, if_pos (by omega)]
            rfl
        · rw [if_neg h45]
          by_cases h40 : t.text = [40]
          · rw [h40, if_pos (show ((3 : Int) == 3 && ([40] : List UInt8) == [40]) = true by decide), if_pos (rfl : ([40] : List UInt8) = [40])]
            have ih := sim L hL f .sum (stepR s) (by show need (L.length - (s.pos + 1)) _ ≤ f; simp only [need]; omega) hb (by show s.pos + 1 ≤ _; omega) hc (d + 1) sg dn (by intro y hy; have := hsg y hy; omega)
            have hst : (⟨(stepR s).pos, d + 1, (stepR s).cnt, sg, dn⟩ : SR) = ⟨s.pos + 1, d + 1, s.cnt, sg, dn⟩ := rfl
            rw [hst] at ih
            generalize hX : pr L f .sum (stepR s) = X at ih ⊢
            by_cases hx : X.2.bad = 0
            · obtain ⟨⟨cM, cA⟩, c2, c3, sg3, dn3, e1, e2⟩ := ih.2 hx
              rw [e1, runE_beh c2]
              simp only
              by_cases hs : isS L [41] X.2.pos = true
              · have hcl : closeR L X.2 = stepR X.2 := by unfold closeR; rw [hs, Bool.not_true, Bool.and_false, if_neg (by decide)]
                rw [if_pos ⟨by omega, hs⟩, hcl]
                refine ⟨fun h0 => absurd hx h0, fun _ => ⟨trivial, ?_, c3, sg3, dn3, rfl, ?_⟩⟩
                · have := isS_lt hs; show X.2.pos + 1 ≤ _; omega
                · exact join_eq (by omega) e2
              · have hcl : closeR L X.2 = ⟨X.2.pos + 1, X.2.cnt, 2, X.2.pos⟩ := by
                  unfold closeR
                  rw [if_pos (by rw [hx]; simp [hs])]
                  unfold failR stepR
                  rw [if_pos hx]
                have hh : holdsAt L X.2.pos = 0 := by unfold holdsAt; rw [cA, cM]; rfl
                rw [if_neg (fun hh => hs hh.2), if_pos hh, if_pos (by omega), hcl]
                exact ⟨fun _ => rfl, fun h0 => by cases h0⟩
            · have hcl : closeR L X.2 = stepR X.2 := by
                unfold closeR
                rw [if_neg]
                simp [hx]
              rw [hcl]
              refine ⟨fun _ => ih.1 hx, fun h0 => absurd h0 hx⟩
          · rw [if_neg (show ¬ ((3 : Int) == 3 && t.text == [40]) = true by simp [h40]), if_neg (show ¬ ((3 : Int) == 3 && t.text == [45]) = true by simp [h45]), if_neg (show ¬ ((3 : Int) = 2 ∧ 0 ≤ t.num) from fun h => absurd h.1 (by decide)), if_neg (show ¬ ((3 : Int) = 1 ∧ goodB t.text = true) from fun h => absurd h.1 (by decide)), if_neg h40]
            exact sim_form hb
  | f + 1, .prod, s, h, hb, hp, hc => by
    intro d sg dn hsg
    simp only [need] at h
    rw [pr]
    have ih := sim L hL f .fac s (by simp only [need]; omega) hb hp hc d sg dn (by intro y hy; have := hsg y hy; omega)
    have hpos := pr_pos L f .fac s
    generalize pr L f .fac s = X at ih hpos ⊢
    by_cases hx : X.2.bad = 0
    · obtain ⟨-, c2, c3, sg3, dn3, e1, e2⟩ := ih.2 hx
      have ih2 := sim L hL f (.prodL X.1) X.2 (by simp only [need]; omega) hx c2 c3 d sg dn sg3 dn3 hsg (by rw [join_eq (show 3 * d + 2 ≤ 3 * d + 3 by omega) e2, join_low _ hsg])
      rw [e1]
      exact ih2
    · exact simR_bad hx ih (pr_stay L f _ _ hx)
  | f + 1, .prodL n, s, h, hb, hp, hc => by
    intro d sg dn sg2 dn2 hsg hj
    simp only [need] at h
    rw [pr]
    by_cases hm : isM L s.pos = true
    · have hlt := isM_lt hm
      rw [if_pos (by rw [hb, hm]; rfl), runE_beh hp]
      simp only
      obtain ⟨n1, n2⟩ := isM_not_shut hm
      have hh : holdsAt L s.pos = 2 := by unfold holdsAt; rw [n2, hm]; rfl
      rw [if_neg (by rw [n1]; simp), hh, if_neg (by decide)]
      by_cases h32 : s.cnt = 32
      · rw [if_pos h32]
        have ht := tick_long hb h32
        have hst : (pr L f .fac (tickR s)).2 = tickR s := pr_stay L f .fac _ (by rw [ht.1]; decide)
        have hst2 : ∀ md, (pr L f md (tickR s)).2 = tickR s := fun md => pr_stay L f md _ (by rw [ht.1]; decide)
        rw [hst]
        exact sim_long (by rw [hst2]; exact ht.1) (by rw [hst2]; exact ht.2)
      · rw [if_neg h32, tick_fits hb hc h32, show 2 + d * 3 = 3 * d + 2 by omega, hj]
        simp only
        have ih := sim L hL f .fac ⟨s.pos + 1, s.cnt + 1, 0, s.whr⟩ (by simp only [need]; omega) rfl (by simp only; omega) (by simp only; omega) d ((opAt L s.pos, 3 * d + 2) :: sg) (n :: dn)
          (by intro y hy; rcases List.mem_cons.1 hy with rfl | hy
              · show 3 * d + 2 ≤ _; omega
              · have := hsg y hy; omega)
        have hpos := pr_pos L f .fac ⟨s.pos + 1, s.cnt + 1, 0, s.whr⟩
        simp only at ih hpos
        generalize pr L f .fac ⟨s.pos + 1, s.cnt + 1, 0, s.whr⟩ = X at ih hpos ⊢
        by_cases hx : X.2.bad = 0
        · obtain ⟨-, c2, c3, sg3, dn3, e1, e2⟩ := ih.2 hx
          have hop : opAt L s.pos ≠ bNeg := by
            intro hn
            rcases opM hm with h | h | h | h | h <;> rw [h] at hn <;> cases hn
          have e3 : joinS (3 * d + 2) sg3 dn3 = (sg, twoT (opAt L s.pos) n X.1 :: dn) := by
            rw [join_eq (show 3 * d + 2 ≤ 3 * d + 3 by omega) e2, joinS, if_pos (Nat.le_refl _), joinOne, if_neg hop]
            exact join_low _ hsg
          have ih2 := sim L hL f (.prodL (twoT (opAt L s.pos) n X.1)) X.2 (by simp only [need]; omega) hx c2 c3 d sg dn sg3 dn3 hsg e3
          rw [e1]
          exact ih2
        · exact simR_bad hx ih (pr_stay L f _ _ hx)
    · rw [if_neg (by rw [Bool.and_eq_true]; exact fun hh => hm hh.2)]
      refine ⟨fun h0 => absurd hb h0, fun _ => ⟨by simpa using hm, hp, hc, sg2, dn2, rfl, ?_⟩⟩
      rw [hj, join_low _ hsg]
  | f + 1, .sum, s, h, hb, hp, hc => by
    intro d sg dn hsg
    simp only [need] at h
    rw [pr]
    have ih := sim L hL f .prod s (by simp only [need]; omega) hb hp hc d sg dn (by intro y hy; have := hsg y hy; omega)
    have hpos := pr_pos L f .prod s
    generalize pr L f .prod s = X at ih hpos ⊢
    by_cases hx : X.2.bad = 0
    · obtain ⟨c1, c2, c3, sg3, dn3, e1, e2⟩ := ih.2 hx
      have ih2 := sim L hL f (.sumL X.1) X.2 (by simp only [need]; omega) hx c2 c3 c1 d sg dn sg3 dn3 hsg (by rw [join_eq (show 3 * d + 1 ≤ 3 * d + 2 by omega) e2, join_low _ hsg])
      rw [e1]
      exact ih2
    · exact simR_bad hx ih (pr_stay L f _ _ hx)
  | f + 1, .sumL n, s, h, hb, hp, hc => by
    intro hnm d sg dn sg2 dn2 hsg hj
    simp only [need] at h
    rw [pr]
    by_cases hm : isA L s.pos = true
    · have hlt := isA_lt hm
      rw [if_pos (by rw [hb, hm]; rfl), runE_beh hp]
      simp only
      obtain ⟨n1, n2⟩ := isA_not_shut hm
      have hh : holdsAt L s.pos = 1 := by unfold holdsAt; rw [hm]; rfl
      rw [if_neg (by rw [n1]; simp), hh, if_neg (by decide)]
      by_cases h32 : s.cnt = 32
      · rw [if_pos h32]
        have ht := tick_long hb h32
        have hst2 : ∀ md, (pr L f md (tickR s)).2 = tickR s := fun md => pr_stay L f md _ (by rw [ht.1]; decide)
        rw [hst2]
        exact sim_long (by rw [hst2]; exact ht.1) (by rw [hst2]; exact ht.2)
      · rw [if_neg h32, tick_fits hb hc h32, show 1 + d * 3 = 3 * d + 1 by omega, hj]
        simp only
        have ih := sim L hL f .prod ⟨s.pos + 1, s.cnt + 1, 0, s.whr⟩ (by simp only [need]; omega) rfl (by simp only; omega) (by simp only; omega) d ((opAt L s.pos, 3 * d + 1) :: sg) (n :: dn)
          (by intro y hy; rcases List.mem_cons.1 hy with rfl | hy
              · show 3 * d + 1 < _; omega
              · have := hsg y hy; omega)
        have hpos := pr_pos L f .prod ⟨s.pos + 1, s.cnt + 1, 0, s.whr⟩
        simp only at ih hpos
        generalize pr L f .prod ⟨s.pos + 1, s.cnt + 1, 0, s.whr⟩ = X at ih hpos ⊢
        by_cases hx : X.2.bad = 0
        · obtain ⟨c1, c2, c3, sg3, dn3, e1, e2⟩ := ih.2 hx
          have hop : opAt L s.pos ≠ bNeg := by
            intro hn
            rcases opA hm with h | h | h | h | h <;> rw [h] at hn <;> cases hn
          have e3 : joinS (3 * d + 1) sg3 dn3 = (sg, twoT (opAt L s.pos) n X.1 :: dn) := by
            rw [join_eq (show 3 * d + 1 ≤ 3 * d + 2 by omega) e2, joinS, if_pos (Nat.le_refl _), joinOne, if_neg hop]
            exact join_low _ hsg
          have ih2 := sim L hL f (.sumL (twoT (opAt L s.pos) n X.1)) X.2 (by simp only [need]; omega) hx c2 c3 c1 d sg dn sg3 dn3 hsg e3
          rw [e1]
          exact ih2
        · exact simR_bad hx ih (pr_stay L f _ _ hx)
    · rw [if_neg (by rw [Bool.and_eq_true]; exact fun hh => hm hh.2)]
      refine ⟨fun h0 => absurd hb h0, fun _ => ⟨⟨hnm, by simpa using hm⟩, hp, hc, sg2, dn2, rfl, ?_⟩⟩
      rw [hj, join_low _ hsg]

/-- The run answers what Of answers. -/
theorem run_of {L : List Tk} (hL : ∀ t ∈ L, GoodTk t) {p : Nat} (hp : p ≤ L.length) :
    (∀ q e, ofL L p = .bad q e → runE L true ⟨p, 0, 0, [], []⟩ = .bad q e) ∧
    (∀ t q, ofL L p = .ok t q → ∃ s : SR, runE L true ⟨p, 0, 0, [], []⟩ = .ok s ∧ s.pos = q ∧ q ≤ L.length ∧ joinS 0 s.sg s.dn = ([], [t])) := by
  have h := sim L hL (4 * (L.length - p) + 4) .sum ⟨p, 0, 0, 0⟩ (by simp only [need]; omega) rfl hp (by simp only; omega) 0 [] [] (by intro y hy; cases hy)
  have h : Sim L 1 0 [] [] (fun p => isM L p = false ∧ isA L p = false) (runE L true ⟨p, 0, 0, [], []⟩) (pE L .sum ⟨p, 0, 0, 0⟩) := h
  unfold ofL
  generalize pE L .sum ⟨p, 0, 0, 0⟩ = X at h ⊢
  by_cases hx : X.2.bad = 0
  · rw [if_pos hx]
    refine ⟨fun q e h0 => (by cases h0), fun t q h0 => ?_⟩
    cases h0
    obtain ⟨⟨cM, cA⟩, c2, c3, sg3, dn3, e1, e2⟩ := h.2 hx
    have hh : holdsAt L X.2.pos = 0 := by unfold holdsAt; rw [cA, cM]; rfl
    refine ⟨⟨X.2.pos, 0, X.2.cnt, sg3, dn3⟩, ?_, rfl, c2, ?_⟩
    · rw [e1, runE_beh c2]
      simp only
      rw [if_neg (by simp), if_pos hh, if_neg (by decide)]
    · exact join_eq (Nat.zero_le 1) e2
  · rw [if_neg hx]
    refine ⟨fun q e h0 => ?_, fun t q h0 => (by cases h0)⟩
    cases h0
    exact h.1 hx

end

section
open Go.RowKit

set_option maxHeartbeats 4000000 in
theorem kidsOf_any (o : ByteArray) (w : World) : Calls Tryz.prog 40 #[.string o] w fun e w' => e = .returned (.int .i64 (arity o)) ∧ w = w' := by
  have E : arity o = if (o.toList == [110, 117, 109] || o.toList == [110, 97, 109, 101]) = true then 0 else if (o.toList == [110, 101, 103]) = true then 1 else if (o.toList == [43] || o.toList == [45] || o.toList == [42] || o.toList == [47] || o.toList == [37]) = true then 2 else -1 := by
    unfold arity isNum isName isNeg isTwo bNum bName bNeg
    rw [Lib.toList_data]
  cases h0 : (o.toList == [110, 117, 109]) with
  | true =>
    have R := Lib.hid (show arity o = 0 by rw [E]; simp [h0])
    clear E
    go_enter Tryz.func40, Tryz.ntmps40
    go_wp2_with fail
    go_ret
    rw [R.out]
    exact ⟨rfl, rfl⟩
  | false =>
    cases h1 : (o.toList == [110, 97, 109, 101]) with
    | true =>
      have R := Lib.hid (show arity o = 0 by rw [E]; simp [h0, h1])
      clear E
      go_enter Tryz.func40, Tryz.ntmps40
      go_wp2_with fail
      go_ret
      rw [R.out]
      exact ⟨rfl, rfl⟩
    | false =>
      cases h2 : (o.toList == [110, 101, 103]) with
      | true =>
        have R := Lib.hid (show arity o = 1 by rw [E]; simp [h0, h1, h2])
        clear E
        go_enter Tryz.func40, Tryz.ntmps40
        go_wp2_with fail
        go_ret
        rw [R.out]
        exact ⟨rfl, rfl⟩
      | false =>
        cases h3 : (o.toList == [43]) with
        | true =>
          have R := Lib.hid (show arity o = 2 by rw [E]; simp [h0, h1, h2, h3])
          clear E
          go_enter Tryz.func40, Tryz.ntmps40
          go_wp2_with fail
          go_ret
          rw [R.out]
          exact ⟨rfl, rfl⟩
        | false =>
          cases h4 : (o.toList == [45]) with
          | true =>
            have R := Lib.hid (show arity o = 2 by rw [E]; simp [h0, h1, h2, h3, h4])
            clear E
            go_enter Tryz.func40, Tryz.ntmps40
            go_wp2_with fail
            go_ret
            rw [R.out]
            exact ⟨rfl, rfl⟩
          | false =>
            cases h5 : (o.toList == [42]) with
            | true =>
              have R := Lib.hid (show arity o = 2 by rw [E]; simp [h0, h1, h2, h3, h4, h5])
              clear E
              go_enter Tryz.func40, Tryz.ntmps40
              go_wp2_with fail
              go_ret
              rw [R.out]
              exact ⟨rfl, rfl⟩
            | false =>
              cases h6 : (o.toList == [47]) with
              | true =>
                have R := Lib.hid (show arity o = 2 by rw [E]; simp [h0, h1, h2, h3, h4, h5, h6])
                clear E
                go_enter Tryz.func40, Tryz.ntmps40
                go_wp2_with fail
                go_ret
                rw [R.out]
                exact ⟨rfl, rfl⟩
              | false =>
                cases h7 : (o.toList == [37]) with
                | true =>
                  have R := Lib.hid (show arity o = 2 by rw [E]; simp [h0, h1, h2, h3, h4, h5, h6, h7])
                  clear E
                  go_enter Tryz.func40, Tryz.ntmps40
                  go_wp2_with fail
                  go_ret
                  rw [R.out]
                  exact ⟨rfl, rfl⟩
                | false =>
                  have R := Lib.hid (show arity o = -1 by rw [E]; simp [h0, h1, h2, h3, h4, h5, h6, h7])
                  clear E
                  go_enter Tryz.func40, Tryz.ntmps40
                  go_wp2_with fail
                  go_ret
                  rw [R.out]
                  exact ⟨rfl, rfl⟩

set_option maxHeartbeats 4000000 in
theorem isSign_any (k : Int) (X x : ByteArray) (n p : Int) (w : World) :
    Calls Tryz.prog 90 #[.agg #[.int .i64 k, .string X, .int .i64 n, .int .i64 p], .string x] w fun e w' => e = .returned (.bool (k == 3 && X.data.toList == x.data.toList)) ∧ Below w.heap.size w w' := by
  have bl : ∀ o, Below w.heap.size w (w.alloc o) := fun o => (Below.refl _ _).alloc (Nat.le_refl _) _
  have BL := Lib.hid bl
  clear bl
  rw [← Lib.toList_data, ← Lib.toList_data]
  cases hk3 : (k == 3) with
  | true =>
    have z : (k == 3) = true := hk3
    rw [Bool.true_and]
    clear hk3
    go_enter Tryz.func90, Tryz.ntmps90
    go_wp2_with fail
    go_ret
    exact ⟨rfl, BL.out _⟩
  | false =>
    have z : (k == 3) = false := hk3
    rw [Bool.false_and]
    clear hk3
    go_enter Tryz.func90, Tryz.ntmps90
    go_wp2_with fail
    go_ret
    exact ⟨rfl, BL.out _⟩

/-- How fast a token holds what is beside it. -/
def betB (k : Int) (X : List UInt8) : Nat := if (k == 3) = true then (if (X == [43] || X == [45]) = true then 1 else if (X == [42] || X == [47] || X == [37]) = true then 2 else 0) else 0

set_option maxHeartbeats 4000000 in
theorem between_any (k : Int) (X : ByteArray) (n p : Int) (w : World) :
    Calls Tryz.prog 63 #[.agg #[.int .i64 k, .string X, .int .i64 n, .int .i64 p]] w fun e w' => e = .returned (.int .i64 (betB k X.data.toList : Nat)) ∧ Below w.heap.size w w' := by
  have bl : ∀ o, Below w.heap.size w (w.alloc o) := fun o => (Below.refl _ _).alloc (Nat.le_refl _) _
  have BL := Lib.hid bl
  clear bl
  obtain ⟨L, hL⟩ : ∃ L, X.data.toList = L := ⟨_, rfl⟩
  have E : betB k L = betB k L := rfl
  have hX : X.toList = L := by rw [Lib.toList_data, hL]
  rw [hL]
  conv at E => rhs; unfold betB
  cases hk3 : (k == 3) with
  | false =>
    have z : (k == 3) = false := hk3
    have R := Lib.hid (show betB k L = 0 by rw [E, hk3]; rfl)
    clear hk3 E hX
    go_enter Tryz.func63, Tryz.ntmps63
    go_wp2_with fail
    go_ret
    rw [R.out]
    exact ⟨rfl, BL.out _⟩
  | true =>
    have z : (k == 3) = true := hk3
    rw [hk3, if_pos rfl] at E
    clear hk3
    cases h0 : (L == [43]) with
    | true =>
      have R := Lib.hid (show betB k L = 1 by rw [E]; simp [h0])
      rw [← hX] at h0
      clear E hX
      go_enter Tryz.func63, Tryz.ntmps63
      go_wp2_with fail
      go_ret
      rw [R.out]
      exact ⟨rfl, BL.out _⟩
    | false =>
      cases h1 : (L == [45]) with
      | true =>
        have R := Lib.hid (show betB k L = 1 by rw [E]; simp [h0, h1])
        rw [← hX] at h0 h1
        clear E hX
        go_enter Tryz.func63, Tryz.ntmps63
        go_wp2_with fail
        go_ret
        rw [R.out]
        exact ⟨rfl, BL.out _⟩
      | false =>
        cases h2 : (L == [42]) with
        | true =>
          have R := Lib.hid (show betB k L = 2 by rw [E]; simp [h0, h1, h2])
          rw [← hX] at h0 h1 h2
          clear E hX
          go_enter Tryz.func63, Tryz.ntmps63
          go_wp2_with fail
          go_ret
          rw [R.out]
          exact ⟨rfl, BL.out _⟩
        | false =>
          cases h3 : (L == [47]) with
          | true =>
            have R := Lib.hid (show betB k L = 2 by rw [E]; simp [h0, h1, h2, h3])
            rw [← hX] at h0 h1 h2 h3
            clear E hX
            go_enter Tryz.func63, Tryz.ntmps63
            go_wp2_with fail
            go_ret
            rw [R.out]
            exact ⟨rfl, BL.out _⟩
          | false =>
            cases h4 : (L == [37]) with
            | true =>
              have R := Lib.hid (show betB k L = 2 by rw [E]; simp [h0, h1, h2, h3, h4])
              rw [← hX] at h0 h1 h2 h3 h4
              clear E hX
              go_enter Tryz.func63, Tryz.ntmps63
              go_wp2_with fail
              go_ret
              rw [R.out]
              exact ⟨rfl, BL.out _⟩
            | false =>
              have R := Lib.hid (show betB k L = 0 by rw [E]; simp [h0, h1, h2, h3, h4])
              rw [← hX] at h0 h1 h2 h3 h4
              clear E hX
              go_enter Tryz.func63, Tryz.ntmps63
              go_wp2_with fail
              go_ret
              rw [R.out]
              exact ⟨rfl, BL.out _⟩

end

section
open Go.RowKit

/-- The program's reader in memory. -/
def IsG (w : World) (b : Nat) (a : Option Addr) (l c : Nat) (p o n : Nat) (sv dv : Value) : Prop := w.heap[b]? = some (.cells #[.slice a l c, .int .i64 p, .int .i64 o, .int .i64 n, sv, dv] 80 (0, 0))

theorem IsG.cells {w : World} {b : Nat} {a : Option Addr} {l c p o n : Nat} {sv dv : Value} (h : IsG w b a l c p o n sv dv) :
    (w.cell? ⟨b, 0, none⟩ = some (.slice a l c) ∧ w.cell? ⟨b, 1, none⟩ = some (.int .i64 p) ∧ w.cell? ⟨b, 2, none⟩ = some (.int .i64 o) ∧ w.cell? ⟨b, 3, none⟩ = some (.int .i64 n) ∧ w.cell? ⟨b, 4, none⟩ = some sv ∧ w.cell? ⟨b, 5, none⟩ = some dv) ∧
    (w.frozen? ⟨b, 1, none⟩ = false ∧ w.frozen? ⟨b, 2, none⟩ = false ∧ w.frozen? ⟨b, 3, none⟩ = false ∧ w.frozen? ⟨b, 4, none⟩ = false ∧ w.frozen? ⟨b, 5, none⟩ = false) := by
  unfold IsG at h
  refine ⟨⟨?_, ?_, ?_, ?_, ?_, ?_⟩, ?_, ?_, ?_, ?_, ?_⟩ <;> simp [World.cell?, World.frozen?, h]

/-- The reader and its tokens; its numbers are small. -/
structure PG (ts : List Tk) (rb : Nat) (a : Option Addr) (c : Nat) (p o n : Nat) (sv dv : Value) (w : World) : Prop where
  r : IsG w rb a ts.length c p o n sv dv
  t : TokB rb w a ts
  hp : p ≤ ts.length
  hl : ts.length ≤ 100000
  ho : o ≤ 100001
  hn : n ≤ 32

theorem PG.kept {ts : List Tk} {rb : Nat} {a : Option Addr} {c p o n : Nat} {sv dv : Value} {w w' : World} (h : PG ts rb a c p o n sv dv w) {S : Nat → Prop} (hk : Kept S w w') (hS : ∀ k, S k → rb < k) : PG ts rb a c p o n sv dv w' :=
  ⟨hk.heap h.r (fun hs => by have := hS rb hs; omega), h.t.kept hk (fun k hs => by have := hS k hs; omega), h.hp, h.hl, h.ho, h.hn⟩

theorem PG.below {ts : List Tk} {rb : Nat} {a : Option Addr} {c p o n : Nat} {sv dv : Value} {w w' : World} (h : PG ts rb a c p o n sv dv w) (hb : Below w.heap.size w w') : PG ts rb a c p o n sv dv w' :=
  h.kept (kept_below hb (fun _ => False)) (fun _ h => h.elim)

theorem six {w : World} {b : Nat} {v0 v1 v2 v3 v4 v5 : Value} {t : TypeId} (h : w.heap[b]? = some (.cells #[v0, v1, v2, v3, v4, v5] t (0, 0))) (o : Nat) (v : Value) :
    (w.setCell ⟨b, o, none⟩ v).heap[b]? = some (.cells ((#[v0, v1, v2, v3, v4, v5] : Array Value).setIfInBounds o v) t (0, 0)) := heap_setCell_same w b o _ t v h

theorem PG.set {ts : List Tk} {rb : Nat} {a : Option Addr} {c p o n p' o' n' : Nat} {sv dv sv' dv' : Value} {w : World} (h : PG ts rb a c p o n sv dv w) {q : Nat} {v : Value} (hp : p' ≤ ts.length) (ho : o' ≤ 100001) (hn : n' ≤ 32)
    (hv : (#[.slice a ts.length c, .int .i64 p, .int .i64 o, .int .i64 n, sv, dv] : Array Value).setIfInBounds q v = #[.slice a ts.length c, .int .i64 p', .int .i64 o', .int .i64 n', sv', dv']) : PG ts rb a c p' o' n' sv' dv' (w.setCell ⟨rb, q, none⟩ v) := by
  refine ⟨?_, h.t.kept ((Kept.refl (· = rb) w).setCell (p := ⟨rb, q, none⟩) (.inl rfl) v) (fun k hk => by omega), hp, h.hl, ho, hn⟩
  have := six h.r q v
  rw [hv] at this
  exact this

/-- The token that is to be read, as a value. -/
def tkG (t : Tk) : Value := .agg #[.int .i64 t.kind, .string ⟨t.text.toArray⟩, .int .i64 t.num, .int .i64 t.place]

def zTk : Tk := ⟨0, [], 0, 0⟩

def tkAt (L : List Tk) (p : Nat) : Tk := match L[p]? with
  | some t => t
  | none => zTk

theorem tkAt_get {L : List Tk} {p : Nat} (h : p < L.length) : tkAt L p = L[p] := by unfold tkAt; rw [List.getElem?_eq_getElem h]

theorem tkAt_end {L : List Tk} {p : Nat} (h : L.length ≤ p) : tkAt L p = zTk := by unfold tkAt; rw [List.getElem?_eq_none h]

theorem tkAt_isS (L : List Tk) (x : List UInt8) (p : Nat) : ((tkAt L p).kind == 3 && (tkAt L p).text == x) = isS L x p := by
  unfold tkAt isS
  cases L[p]? with
  | none => rfl
  | some t => rfl

theorem tkAt_bet (L : List Tk) (p : Nat) : betB (tkAt L p).kind (tkAt L p).text = holdsAt L p := by
  unfold betB holdsAt isA isM
  rw [← tkAt_isS, ← tkAt_isS, ← tkAt_isS, ← tkAt_isS, ← tkAt_isS]
  cases (tkAt L p).kind == 3 <;> simp

theorem tkAt_op (L : List Tk) (p : Nat) : (tkAt L p).text = opAt L p := by
  unfold tkAt opAt
  cases L[p]? with
  | none => rfl
  | some t => rfl

theorem below_put4 {B b : Nat} {w W : World} (h : Below B w W) (hb : B ≤ b) (hB : B ≤ W.heap.size) (n : Nat) (v0 v1 v2 v3 : Value) : Below B w (((((W.drewN n).setCell ⟨b, 0, none⟩ v0).setCell ⟨b, 1, none⟩ v1).setCell ⟨b, 2, none⟩ v2).setCell ⟨b, 3, none⟩ v3) := by
  have k := (((((Kept.refl (· = b) W).drewN n).setCell (p := ⟨b, 0, none⟩) (.inl rfl) v0).setCell (p := ⟨b, 1, none⟩) (.inl rfl) v1).setCell (p := ⟨b, 2, none⟩) (.inl rfl) v2).setCell (p := ⟨b, 3, none⟩) (.inl rfl) v3
  exact h.trans (k.below (fun i hi => by omega) hB)

set_option maxHeartbeats 4000000 in
theorem next_any (ts : List Tk) (rb : Nat) (a : Option Addr) (c p o n : Nat) (sv dv : Value) (w : World) (h : PG ts rb a c p o n sv dv w) :
    Calls Tryz.prog 64 #[.pointer (some ⟨rb, 0, none⟩)] w fun e w' => e = .returned (tkG (tkAt ts p)) ∧ Below w.heap.size w w' := by
  have hpos := h.hp
  have hn := h.hl
  have BA := (Below.refl w.heap.size w).alloc (Nat.le_refl _) (tkO 0 ⟨#[]⟩ 0 0)
  have NB := heap_alloc_new w (tkO 0 ⟨#[]⟩ 0 0)
  have hP := h.below BA
  have hsz : (w.alloc (tkO 0 ⟨#[]⟩ 0 0)).heap.size = w.heap.size + 1 := World.size_alloc _ _
  obtain ⟨⟨c0, c1, c2, c3, c4, c5⟩, -⟩ := hP.r.cells
  obtain ⟨⟨x0, x1, x2, x3⟩, f0, f1, f2, f3⟩ := four NB
  by_cases hlt : p < ts.length
  · obtain ⟨b, off, ha, -, p0, p1, p2, p3⟩ := tok_cells hP.t hlt
    subst ha
    obtain ⟨X, hX⟩ : ∃ X, tkG (tkAt ts p) = X := ⟨_, rfl⟩
    have hX' := hX
    rw [tkAt_get hlt] at hX'
    unfold tkG at hX'
    rw [hX]
    generalize ts[p] = t at p0 p1 p2 p3 hX'
    obtain ⟨k, s, nn, pp⟩ := t
    simp only at p0 p1 p2 p3 hX'
    have a1 : ((p : Int) == (ts.length : Int)) = false := by rw [beq_eq_false_iff_ne]; omega
    have a2 : (p : Int) < (ts.length : Int) := by omega
    have a4 : (0 : Int) ≤ (p : Int) := by omega
    have a3 : ((p : Int)).toNat = p := by omega
    subst hX'
    clear hX h hP
    have HN := Lib.hid NB
    have HB := Lib.hid BA
    clear NB BA
    go_enter Tryz.func64, Tryz.ntmps64
    go_upto_region 1 with fail
    generalize w.alloc (tkO 0 ⟨#[]⟩ 0 0) = W at *
    go_upto_region 3 with (go_quiet (fail))
    go_region
    go_wp2_with fail
    obtain ⟨⟨d0, d1, d2, d3⟩, -⟩ := four (four_set (W := W.drewN (nq + 1)) HN.out (.int .i64 k) (.string ⟨s.toArray⟩) (.int .i64 nn) (.int .i64 pp))
    exact bodyPost_ret (v := .agg #[.int .i64 k, .string ⟨s.toArray⟩, .int .i64 nn, .int .i64 pp]) (by simp [results, Tryz.results64, go_sem, d0, d1, d2, d3]) rfl ⟨rfl, below_put4 HB.out (Nat.le_refl _) (by omega) (nq + 1) _ _ _ _⟩
  · obtain rfl : p = ts.length := by omega
    rw [tkAt_end (Nat.le_refl _)]
    clear h hP
    have HN := Lib.hid NB
    have HB := Lib.hid BA
    clear NB BA
    go_enter Tryz.func64, Tryz.ntmps64
    go_upto_region 1 with fail
    generalize w.alloc (tkO 0 ⟨#[]⟩ 0 0) = W at *
    go_upto_region 2 with (go_quiet (fail))
    go_wp2_with fail
    obtain ⟨⟨d0, d1, d2, d3⟩, -⟩ := four (four_set (W := W.drewN nq) HN.out (.int .i64 0) (.string ⟨#[]⟩) (.int .i64 0) (.int .i64 0))
    exact bodyPost_ret (v := .agg #[.int .i64 0, .string ⟨#[]⟩, .int .i64 0, .int .i64 0]) (by simp [results, Tryz.results64, go_sem, d0, d1, d2, d3]) rfl ⟨rfl, below_put4 HB.out (Nat.le_refl _) (by omega) nq _ _ _ _⟩

set_option maxHeartbeats 4000000 in
theorem count_any (ts : List Tk) (rb : Nat) (a : Option Addr) (c p o n : Nat) (sv dv : Value) (w : World) (h : PG ts rb a c p o n sv dv w) (hlt : p < ts.length) :
    Calls Tryz.prog 93 #[.pointer (some ⟨rb, 0, none⟩)] w fun e w' =>
      (n = 32 → e = .returned (.int .i64 4) ∧ w' = w) ∧ (¬ n = 32 → e = .returned (.int .i64 0) ∧ PG ts rb a c (p + 1) o (n + 1) sv dv w' ∧ Kept (· = rb) w w') := by
  obtain ⟨⟨c0, c1, c2, c3, c4, c5⟩, f1, f2, f3, f4, f5⟩ := h.r.cells
  have hpos := h.hp
  have hl := h.hl
  have hnn := h.hn
  have ho := h.ho
  by_cases h32 : n = 32
  · have a1 : ((n : Int) == 32) = true := by rw [h32]; rfl
    have H := Lib.hid h32
    clear h h32
    go_enter Tryz.func93, Tryz.ntmps93
    go_wp2_with fail
    go_ret
    exact ⟨fun _ => ⟨rfl, rfl⟩, fun hn => absurd H.out hn⟩
  · have a1 : ((n : Int) == 32) = false := by rw [beq_eq_false_iff_ne]; omega
    have H1 : PG ts rb a c p o (n + 1) sv dv (w.setCell ⟨rb, 3, none⟩ (.int .i64 ((n : Int) + 1))) := h.set hpos ho (by omega) rfl
    have H2 := Lib.hid (show PG ts rb a c (p + 1) o (n + 1) sv dv ((w.setCell ⟨rb, 3, none⟩ (.int .i64 ((n : Int) + 1))).setCell ⟨rb, 1, none⟩ (.int .i64 ((p : Int) + 1))) from H1.set (by omega) (by omega) (by omega) rfl)
    have K := Lib.hid (kept_set (kept_set (Kept.refl (· = rb) w) 3 (.int .i64 ((n : Int) + 1))) 1 (.int .i64 ((p : Int) + 1)))
    have H := Lib.hid h32
    clear h h32 H1
    go_enter Tryz.func93, Tryz.ntmps93
    go_wp2_with fail
    go_ret
    exact ⟨fun hn => absurd hn H.out, fun _ => ⟨rfl, H2.out, K.out⟩⟩

theorem end_any (ts : List Tk) (rb : Nat) (a : Option Addr) (c p o n : Nat) (sv dv : Value) (w : World) (h : PG ts rb a c p o n sv dv w) :
    Calls Tryz.prog 65 #[.pointer (some ⟨rb, 0, none⟩)] w fun e w' => e = .returned (.int .i64 (if 0 < o then 2 else 0)) ∧ w' = w := by
  obtain ⟨⟨c0, c1, c2, c3, c4, c5⟩, f1, f2, f3, f4, f5⟩ := h.r.cells
  clear h
  by_cases h0 : 0 < o
  · have a1 : (0 : Int) < (o : Int) := by omega
    rw [if_pos h0]
    go_enter Tryz.func65, Tryz.ntmps65
    go_wp2_with fail
    go_ret
    exact ⟨rfl, rfl⟩
  · have a1 : ¬ (0 : Int) < (o : Int) := by omega
    rw [if_neg h0]
    go_enter Tryz.func65, Tryz.ntmps65
    go_wp2_with fail
    go_ret
    exact ⟨rfl, rfl⟩

end

end Go.Proofs.YtcmcnmmhkpolcaaGreatDoor
