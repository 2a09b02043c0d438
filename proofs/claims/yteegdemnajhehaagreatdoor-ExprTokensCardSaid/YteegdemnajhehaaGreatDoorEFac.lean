/-
  No statement: the contract of factor of the document's reader, one token deeper by hypothesis.
-/
import Derived.Test.YteegdemnajhehaaGreatDoorERead
import Derived.Deep.RegionHeld3
namespace Go.Proofs.YteegdemnajhehaaGreatDoor
open Go.RowKit

/-- What a reader's method answers: a tree, the reader behind it. -/
def PE (ts : List Tk) (rb : Nat) (a : Option Addr) (c : Nat) (q : TN × RS) (w0 : World) (e : Ending) (w' : World) : Prop :=
  ∃ ad cc, e = .returned (nodeV q.1.op q.1.nm q.1.n ad q.1.ks.len cc) ∧ PW ts rb a c q.2 w' ∧ Kept (· = rb) w0 w' ∧ ReadsK w0.heap.size w' ad q.1.ks

abbrev ndO (o m : ByteArray) (n : Int) (a : Option Addr) (l c : Nat) : Obj := .cells #[.string o, .string m, .int .i64 n, .slice a l c] 31

theorem PE.zero {ts : List Tk} {rb : Nat} {a : Option Addr} {c : Nat} {s : RS} {w0 w' : World} (h : PW ts rb a c s w') (hk : Kept (· = rb) w0 w') : PE ts rb a c (zeroT, s) w0 (.returned (nodeV ⟨#[]⟩ ⟨#[]⟩ 0 none 0 0)) w' :=
  ⟨none, 0, rfl, h, hk, .inl rfl⟩

/-- The four stores of a node into a block. -/
abbrev put4 (w : World) (B : Nat) (o m : ByteArray) (n : Int) (a : Option Addr) (l c : Nat) : World :=
  (((w.setCell ⟨B, 0, none⟩ (.string o)).setCell ⟨B, 1, none⟩ (.string m)).setCell ⟨B, 2, none⟩ (.int .i64 n)).setCell ⟨B, 3, none⟩ (.slice a l c)

theorem kept_put4 (w : World) (B : Nat) (o m : ByteArray) (n : Int) (a : Option Addr) (l c : Nat) : Kept (· = B) w (put4 w B o m n a l c) :=
  ((((Kept.refl (· = B) w).setCell (p := ⟨B, 0, none⟩) (.inl rfl) _).setCell (p := ⟨B, 1, none⟩) (.inl rfl) _).setCell (p := ⟨B, 2, none⟩) (.inl rfl) _).setCell (p := ⟨B, 3, none⟩) (.inl rfl) _

theorem PW.other {ts : List Tk} {rb B : Nat} {a : Option Addr} {c : Nat} {s : RS} {w w' : World} (h : PW ts rb a c s w) (hk : Kept (· = B) w w') (hB : rb < B) : PW ts rb a c s w' :=
  ⟨hk.heap h.r (fun h => by omega), h.t.kept hk (fun k hk => by omega), h.f⟩

theorem PE.put {ts : List Tk} {rb : Nat} {a : Option Addr} {c : Nat} {q : TN × RS} {w0 w1 : World} {ad : Option Addr} {cc : Nat} (hrb : rb < w0.heap.size) (h : PW ts rb a c q.2 w1) (hk : Kept (· = rb) w0 w1) (hr : ReadsK (w0.heap.size + 1) w1 ad q.1.ks) :
    PE ts rb a c q w0 (.returned (nodeV q.1.op q.1.nm q.1.n ad q.1.ks.len cc)) (put4 w1 w0.heap.size q.1.op q.1.nm q.1.n ad q.1.ks.len cc) :=
  ⟨ad, cc, rfl, h.other (kept_put4 _ _ _ _ _ _ _ _) hrb, hk.trans (kept_put4 w1 w0.heap.size _ _ _ _ _ _) (fun i hi hlt => by omega), (hr.keptS (kept_put4 _ _ _ _ _ _ _ _) (fun k hk => by omega)).mono (Nat.le_succ _)⟩

/-- Where the reader has failed, factor answers nothing. -/
theorem fac_stay (ts : List Tk) (rb : Nat) (a : Option Addr) (c : Nat) (s : RS) (w : World) (h : PW ts rb a c s w) (hb : ¬ s.bad = 0) :
    Calls Tryz.prog 86 #[.pointer (some ⟨rb, 0, none⟩)] w (PE ts rb a c (pE ts .fac s) w) := by
  have e : pE ts .fac s = (zeroT, s) := by rw [pE_fac, if_neg hb]
  rw [e]
  have q : ((s.bad : Int) != 0) = true := by simpa using hb
  have K1 := kept_below ((Below.refl w.heap.size w).alloc (Nat.le_refl _) (ndO ⟨#[]⟩ ⟨#[]⟩ 0 none 0 0)) (· = rb)
  have H1 := h.below ((Below.refl _ w).alloc (Nat.le_refl _) (ndO ⟨#[]⟩ ⟨#[]⟩ 0 none 0 0))
  obtain ⟨⟨c0, c1, c2, c3, c4⟩, f1, f2, f3, f4⟩ := H1.r.cells
  have P := Lib.hid (PE.zero (w0 := w) H1 K1)
  clear h e hb H1 K1
  go_enter Tryz.func86, Tryz.ntmps86
  go_wp2_with fail
  exact bodyPost_ret (v := nodeV ⟨#[]⟩ ⟨#[]⟩ 0 none 0 0) (by simp [results, Tryz.results86, go_sem]) rfl P.out

set_option maxHeartbeats 2000000 in
/-- At the tokens' end factor fails. -/
theorem fac_end (ts : List Tk) (rb : Nat) (a : Option Addr) (c : Nat) (s : RS) (w : World) (h : PW ts rb a c s w) (hb : s.bad = 0) (hp : ¬ s.pos < ts.length) :
    Calls Tryz.prog 86 #[.pointer (some ⟨rb, 0, none⟩)] w (PE ts rb a c (pE ts .fac s) w) := by
  have e : pE ts .fac s = (zeroT, failR 2 s) := by rw [pE_fac, if_pos hb, List.getElem?_eq_none (by omega)]
  rw [e]
  have q : ((s.bad : Int) != 0) = false := by rw [hb]; rfl
  have K1 := kept_below ((Below.refl w.heap.size w).alloc (Nat.le_refl _) (ndO ⟨#[]⟩ ⟨#[]⟩ 0 none 0 0)) (· = rb)
  have H1 := h.below ((Below.refl _ w).alloc (Nat.le_refl _) (ndO ⟨#[]⟩ ⟨#[]⟩ 0 none 0 0))
  obtain ⟨⟨c0, c1, c2, c3, c4⟩, f1, f2, f3, f4⟩ := H1.r.cells
  have H := Lib.hid H1
  have K := Lib.hid K1
  have hrb := h.r.lt
  have NB := heap_alloc_new w (ndO ⟨#[]⟩ ⟨#[]⟩ 0 none 0 0)
  generalize hW : w.alloc (ndO ⟨#[]⟩ ⟨#[]⟩ 0 none 0 0) = W at *
  have a1 : decide (ts.length ≤ s.pos) = true := decide_eq_true (by omega)
  have a2 : decide ((ts.length : Int) ≤ (s.pos : Int)) = true := decide_eq_true (by omega)
  have C := Lib.hid (p := ∀ n, Calls Tryz.prog 87 #[.pointer (some ⟨rb, 0, none⟩), .int .i64 2] (W.drewN n) fun x w' => x = .returned (.tuple #[]) ∧ PW ts rb a c (failR 2 s) w' ∧ Kept (· = rb) (W.drewN n) w') (fun n => fail_any ts rb a c s 2 (by decide) _ (H.out.kept ((Kept.refl _ W).drewN n)))
  have NB := Lib.hid NB
  clear h e hb H1 K1
  go_enter Tryz.func86, Tryz.ntmps86
  go_wp2_with fail
  have KW := Lib.hid (show Below w.heap.size w W by rw [← hW]; exact (Below.refl _ w).alloc (Nat.le_refl _) _)
  clear hW
  go_wp2_with (go_quiet (fail))
  refine (C.out _).mono ?_
  rintro e w1 ⟨rfl, h1, hk⟩
  have K2 := Lib.hid (show Kept (· = rb) w w1 from (K.out.drewN nq).trans hk (fun i hi _ => hi))
  have NB2 : w1.heap[w.heap.size]? = some (ndO ⟨#[]⟩ ⟨#[]⟩ 0 none 0 0) := hk.heap (k := w.heap.size) NB.out (by show ¬ w.heap.size = rb; omega)
  have H2 := Lib.hid h1
  obtain ⟨⟨k0, k1, k2, k3⟩, g0, g1, g2, g3⟩ := four NB2
  have c9 := Lib.hid NB2
  clear h1 hk NB2 C c0 c1 c2 c3 c4 f1 f2 f3 f4
  go_wp2_with fail
  obtain ⟨⟨d0, d1, d2, d3⟩, -⟩ := four (four_set c9.out (.string ⟨#[]⟩) (.string ⟨#[]⟩) (.int .i64 0) (.slice none 0 0))
  exact bodyPost_ret (v := nodeV ⟨#[]⟩ ⟨#[]⟩ 0 none 0 0) (by simp [results, Tryz.results86, go_sem, d0, d1, d2, d3]) rfl (PE.put (q := (zeroT, failR 2 s)) (cc := 0) hrb H2.out K2.out (.inl rfl))

end Go.Proofs.YteegdemnajhehaaGreatDoor
