/-
  No statement: tokens that lie in memory; the contract of Text of package lex.
-/
import Derived.Test.YtjkjjpoeegpkaaaDoorLTokens
import Derived.Test.YtjkjjpoeegpkaaaDoorWBuild
namespace Go.Proofs.YtjkjjpoeegpkaaaDoor
open Go.RowKit

/-- Tokens lie one behind the other. -/
def ReadsT (w : World) (a : Option Addr) (ts : List Tk) : Prop :=
  ts = [] ∨ ∃ b off, a = some ⟨b, off, none⟩ ∧ b < w.heap.size ∧ ∀ j (h : j < ts.length), w.cell? ⟨b, off + j * 4, none⟩ = some (.int .i64 ts[j].kind) ∧ w.cell? ⟨b, off + j * 4 + 1, none⟩ = some (.string ⟨ts[j].text.toArray⟩) ∧
    w.cell? ⟨b, off + j * 4 + 2, none⟩ = some (.int .i64 ts[j].num) ∧ w.cell? ⟨b, off + j * 4 + 3, none⟩ = some (.int .i64 ts[j].place)

theorem ReadsT.kept {w w' : World} {a : Option Addr} {ts : List Tk} (h : ReadsT w a ts) (hb : Below w.heap.size w w') : ReadsT w' a ts := by
  rcases h with h | ⟨b, off, rfl, hlt, hc⟩
  · exact .inl h
  · refine .inr ⟨b, off, rfl, Nat.lt_of_lt_of_le hlt hb.size, fun j hj => ?_⟩
    obtain ⟨c0, c1, c2, c3⟩ := hc j hj
    exact ⟨(hb.cell (p := ⟨b, _, none⟩) hlt).trans c0, (hb.cell (p := ⟨b, _, none⟩) hlt).trans c1, (hb.cell (p := ⟨b, _, none⟩) hlt).trans c2, (hb.cell (p := ⟨b, _, none⟩) hlt).trans c3⟩

theorem readsT_own {w : World} {B : Nat} {E : TypeId} {a : Option Addr} {c : Nat} {ts : List Tk} (h : w.ownsRow B E 4 (.slice a ts.length c) ts.length (tksL ts)) : ReadsT w a ts := by
  have h0 := h
  rcases h.2 with ⟨hs, hn⟩ | ⟨g, cap, cur, hs, _, hg, _⟩
  · exact .inl (List.length_eq_zero_iff.1 hn)
  · simp only [Value.slice.injEq] at hs
    obtain ⟨rfl, _, rfl⟩ := hs
    have cell : ∀ j i u, j < ts.length → i < 4 → (tksL ts)[j * 4 + i]? = some u → w.cell? ⟨g, 0 + j * 4 + i, none⟩ = some u := fun j i u hj hi hu => by
      obtain ⟨g', hg', hc⟩ := owns_at h0 hu
      simp only [Addr.mk.injEq, and_true] at hg'
      subst hg'
      rw [Nat.zero_add]
      exact hc
    refine .inr ⟨g, 0, rfl, lt_block hg, fun j hj => ?_⟩
    have at4 : ∀ i, i < 4 → (tksL ts)[j * 4 + i]? = (tkL ts[j])[i]? := fun i hi => tksL_at ts hj hi
    exact ⟨cell j 0 _ hj (by omega) (at4 0 (by omega)), cell j 1 _ hj (by omega) (at4 1 (by omega)), cell j 2 _ hj (by omega) (at4 2 (by omega)), cell j 3 _ hj (by omega) (at4 3 (by omega))⟩

theorem Bd.kept {B b : Nat} {bs : List Value} {w w' : World} (h : Bd B b bs w) (hb : Below w.heap.size w w') : Bd B b bs w' := by
  have one : ∀ p, Lib.BuilderAt 48 5 B b p bs w → Lib.BuilderAt 48 5 B b p bs w' := fun p ⟨hB, v, hk, ho, hne⟩ =>
    ⟨hB, v, (hb.block b (lt_block hk)).trans hk, ho.kept (row := none) ⟨hb.os, hb.tape, hb.output, hb.size, fun k hk _ => hb.block k hk⟩ (by cases v.ownBlock <;> simp), hne⟩
  rcases h with h | h
  · exact .inl (one _ h)
  · exact .inr (one _ h)

theorem Bd.lt {B b : Nat} {bs : List Value} {w : World} (h : Bd B b bs w) : b < w.heap.size := by
  rcases h with h | h
  · exact h.lt
  · exact h.lt

theorem byteCells_add (l : List UInt8) (s : ByteArray) : Lib.byteCells l ++ Lib.strCells s = Lib.byteCells (l ++ s.data.toList) := by simp [Lib.byteCells, Lib.strCells]

/-- What the walk keeps: the builder's text; nothing older turned. -/
structure TxL (w0 : World) (l : List UInt8) (w : World) : Prop where
  bd : Bd w0.heap.size w0.heap.size (Lib.byteCells l) w
  bel : Below w0.heap.size w0 w

theorem TxL.sz {w0 w : World} {l : List UInt8} (h : TxL w0 l w) : w0.heap.size < w.heap.size := h.bd.lt
theorem TxL.alloc {w0 w : World} {l : List UInt8} (h : TxL w0 l w) (o : Obj) : TxL w0 l (w.alloc o) := ⟨h.bd.kept ((Below.refl _ w).alloc (Nat.le_refl _) _), h.bel.alloc (by have := h.sz; omega) _⟩

theorem TxL.str {w0 w : World} {l : List UInt8} (h : TxL w0 l w) (s : ByteArray) (hl : l.length + s.size ≤ 1000000) :
    Calls Tryd.prog 19 #[.pointer (some ⟨w0.heap.size, 0, none⟩), .string s] w fun e w' => e = .returned (.tuple #[.int .i64 s.size, .nilIface]) ∧ TxL w0 (l ++ s.data.toList) w' ∧ Oth w0.heap.size w w' :=
  (bdString_any _ _ _ s w h.bd (by rw [Lib.byteCells_length]; omega) (by have := h.sz; omega)).mono fun e w' ⟨he, hb, hw, hoth⟩ =>
    ⟨he, ⟨by rwa [byteCells_add] at hb, h.bel.trans hw⟩, hoth⟩

theorem TxL.done {w0 w : World} {l : List UInt8} (h : TxL w0 l w) :
    Calls Tryd.prog 20 #[.pointer (some ⟨w0.heap.size, 0, none⟩)] w fun e w' => e = .returned (.string ⟨l.toArray⟩) ∧ Below w0.heap.size w0 w' :=
  (Tryd.Builder_String_any _ _ l w h.bd (by have := h.sz; omega)).mono fun e w' ⟨he, hb⟩ => ⟨he, h.bel.trans hb⟩

/-- What was written ahead of the k-th token. -/
def preT (ts : List Tk) (k : Nat) : List UInt8 := textsT (ts.take k)

theorem preT_succ (ts : List Tk) {k : Nat} (h : k < ts.length) : preT ts (k + 1) = if k = 0 then ts[k].text else preT ts k ++ [32] ++ ts[k].text := by
  unfold preT textsT
  rw [List.take_succ_eq_append_getElem h, List.map_append]
  show joinB (_ ++ [ts[k].text]) = _
  rw [join_snoc]
  by_cases h0 : k = 0
  · subst h0; rfl
  · rw [if_neg h0, if_neg (by
      intro e
      have := congrArg List.length e
      rw [List.length_map, List.length_take, List.length_nil] at this
      omega)]
    simp

theorem preT_all (ts : List Tk) : preT ts ts.length = textsT ts := by unfold preT; rw [List.take_length]

theorem preT_len (ts : List Tk) (k : Nat) : (preT ts k).length ≤ (ts.map fun t => t.text.length).sum + ts.length := by
  have h := join_len ((ts.take k).map (·.text))
  rw [List.map_map, List.length_map] at h
  have e : (List.length ∘ fun t : Tk => t.text) = fun t : Tk => t.text.length := rfl
  rw [e, List.length_take] at h
  have h2 : ((ts.take k).map fun t => t.text.length).sum ≤ (ts.map fun t => t.text.length).sum := by
    conv => rhs; rw [← List.take_append_drop k ts]
    rw [List.map_append, List.sum_append]
    omega
  unfold preT textsT
  omega

set_option maxRecDepth 100000 in
set_option maxHeartbeats 4000000 in
theorem lText_any (ts : List Tk) (a : Option Addr) (c : Nat) (hs : (ts.map fun t => t.text.length).sum + ts.length ≤ 100000) (w : World) (hr : ReadsT w a ts) :
    Calls Tryd.prog 10 #[.slice a ts.length c] w fun e w' => e = .returned (.string ⟨(textsT ts).toArray⟩) ∧ Below w.heap.size w w' := by
  have HL := Lib.hid (p := ∀ k, (preT ts k).length ≤ 100000) (fun k => Nat.le_trans (preT_len ts k) hs)
  have R := Lib.hid hr
  have hn : ts.length ≤ 100000 := by omega
  clear hr hs
  go_enter Tryd.func10, Tryd.ntmps10
  go_wp2_with fail
  generalize hW : World.alloc w _ = W
  have K0 : Hid (TxL w (preT ts 0) W) := Lib.hid (by
    refine ⟨?_, ?_⟩
    · rw [← hW]; exact Lib.fresh_isBuilder 48 5 w
    · rw [← hW]; exact (Below.refl _ _).alloc (Nat.le_refl _) _)
  clear hW
  go_wp2_with fail
  go_loopw [8] (fun i wr => ∃ k : Nat, k ≤ ts.length ∧ i = .int .i64 k ∧ Hid (TxL w (preT ts k) wr)) (fun i _ => ts.length - (intOf i).toNat)
  case atStart => exact ⟨0, by omega, rfl, K0⟩
  case round =>
    obtain ⟨k, hk, rfl, hK⟩ := hrel
    by_cases hlt : k < ts.length
    · have hr := R.out.kept hK.out.bel
      obtain ⟨b, off, rfl, -, hc⟩ := hr.resolve_left (by intro e; rw [e] at hlt; simp at hlt)
      obtain ⟨p0, p1, p2, p3⟩ := hc k hlt
      obtain ⟨t, ht⟩ : ∃ t, ts[k] = t := ⟨_, rfl⟩
      obtain ⟨X, hX⟩ : ∃ X : ByteArray, ⟨t.text.toArray⟩ = X := ⟨_, rfl⟩
      have hXl : X.data.toList = t.text := by rw [← hX]
      have hp := preT_succ ts hlt
      rw [ht] at p0 p1 p2 p3 hp
      rw [hX] at p1
      have HP := Lib.hid hp
      have L0 := HL.out k
      have L1 := HL.out (k + 1)
      have hXs : X.size = t.text.length := by rw [← hXl]; simp
      have tl : t.text.length ≤ 100000 := by
        rw [HP.out] at L1
        split at L1
        · exact L1
        · simp at L1; omega
      clear hr hc hp ht hX
      by_cases h0 : k = 0
      · have g0 : ¬ (0 : Int) < (k : Int) := by omega
        have HP1 := Lib.hid (show preT ts (k + 1) = [] ++ t.text by rw [HP.out, if_pos h0]; rfl)
        have K1 : Hid (TxL w [] wr) := Lib.hid (by have := hK.out; rw [h0] at this; exact this)
        clear h0 HP
        have KA := Lib.hid (K1.out.alloc (tkO t.kind X t.num t.place))
        go_wp2_with fail
        refine (KA.out.str X (by rw [hXs, List.length_nil]; omega)).mono ?_
        rintro e w2 ⟨rfl, h, -⟩
        have K2 := Lib.hid (show TxL w (preT ts (k + 1)) w2 by rw [HP1.out, ← hXl]; exact h)
        clear h KA K1 hK
        go_wp2_with fail
        go_roundw
        case rel => exact ⟨k + 1, by omega, by go_num, K2⟩
        case measure => simp [intOf]; omega
      · have g0 : (0 : Int) < (k : Int) := by omega
        have HP1 := Lib.hid (show preT ts (k + 1) = (preT ts k ++ [32]) ++ t.text by rw [HP.out, if_neg h0])
        clear h0 HP
        have KA := Lib.hid (hK.out.alloc (tkO t.kind X t.num t.place))
        have hsz := hK.out.sz
        go_wp2_with fail
        refine (KA.out.str ⟨#[32]⟩ (by show (preT ts k).length + 1 ≤ 1000000; omega)).mono ?_
        rintro e w1 ⟨rfl, h, hoth⟩
        have K1 := Lib.hid (show TxL w (preT ts k ++ [32]) w1 from h)
        have BX : w1.heap[wr.heap.size]? = some (tkO t.kind X t.num t.place) := hoth _ _ _ (by omega) (by decide) (heap_alloc_new wr _)
        obtain ⟨⟨m0, m1, m2, m3⟩, -⟩ := four BX
        clear h hoth BX
        go_wp2_with fail
        refine (K1.out.str X (by rw [hXs, List.length_append]; show (preT ts k).length + 1 + _ ≤ _; omega)).mono ?_
        rintro e w2 ⟨rfl, h, -⟩
        have K2 := Lib.hid (show TxL w (preT ts (k + 1)) w2 by rw [HP1.out, ← hXl]; exact h)
        clear h K1 hK KA
        go_wp2_with fail
        go_roundw
        case rel => exact ⟨k + 1, by omega, by go_num, K2⟩
        case measure => simp [intOf]; omega
    · obtain rfl : k = ts.length := by omega
      go_wp2_with fail
      refine (hK.out.done).mono ?_
      rintro e w1 ⟨rfl, h⟩
      have B := Lib.hid h
      clear h
      go_wp2_with fail
      go_ret
      rw [preT_all]
      exact ⟨rfl, B.out⟩

end Go.Proofs.YtjkjjpoeegpkaaaDoor
