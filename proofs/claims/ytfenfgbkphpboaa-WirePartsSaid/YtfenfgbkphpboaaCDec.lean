/-
  No statement: a Dec of package codec, as it lies in memory; fail, number.
-/
import Derived.Test.YtfenfgbkphpboaaCBuf
import Derived.Test.YtfenfgbkphpboaaCFold
import Derived.Test.YtfenfgbkphpboaaCFirst
import Derived.Test.YtfenfgbkphpboaaMapDef
namespace Go.Proofs.Ytfenfgbkphpboaa
open Go.RowKit

/-- At block p lies a Dec with what is left and its error; its blocks are among F. -/
def DecH (w : World) (p : Nat) (F : Nat → Prop) (d : DS) : Prop :=
  ∃ a c, w.heap[p]? = some (.cells #[.slice a d.1.length c, .int .i64 d.2] 91 (0, 0)) ∧ BR w a c d.1 ∧ (∀ x, a = some x → x.block ≠ p ∧ F x.block ∧ ∃ b off, x = ⟨b, off, none⟩) ∧ F p

theorem BR.keptS {w w' : World} {a : Option Addr} {c : Nat} {l : List UInt8} {S : Nat → Prop} (h : BR w a c l) (hk : Kept S w w') (hS : ∀ x, a = some x → ¬ S x.block) : BR w' a c l := by
  refine ⟨h.1, h.2.1, ?_⟩
  rcases h.2.2 with h | h | ⟨b, off, rfl, hc⟩
  · exact .inl h
  · exact .inr (.inl h)
  · exact .inr (.inr ⟨b, off, rfl, fun j hj => hk.cell (hc j hj) (show ¬ S b from hS ⟨b, off, none⟩ rfl)⟩)

theorem DecH.kept {w w' : World} {p : Nat} {F S : Nat → Prop} {d : DS} (h : DecH w p F d) (hk : Kept S w w') (hS : ∀ k, F k → ¬ S k) : DecH w' p F d := by
  obtain ⟨a, c, h0, h1, h2, h3⟩ := h
  exact ⟨a, c, hk.heap h0 (hS p h3), h1.keptS hk (fun x hx => hS _ (h2 x hx).2.1), h2, h3⟩

/-- What a call of a Dec leaves: an answer, and the Dec. -/
def DPost (w : World) (p : Nat) (F : Nat → Prop) (r : Value) (d : DS) (e : Ending) (w' : World) : Prop := e = .returned r ∧ DecH w' p F d ∧ Kept (· = p) w w'

theorem two_set0 {w : World} {p : Nat} {x y : Value} {T : TypeId} (h : w.heap[p]? = some (.cells #[x, y] T (0, 0))) (u : Value) : (w.setCell ⟨p, 0, none⟩ u).heap[p]? = some (.cells #[u, y] T (0, 0)) := by
  have := heap_setCell_same w p 0 #[x, y] T u h
  simpa using this
theorem two_set1 {w : World} {p : Nat} {x y : Value} {T : TypeId} (h : w.heap[p]? = some (.cells #[x, y] T (0, 0))) (u : Value) : (w.setCell ⟨p, 1, none⟩ u).heap[p]? = some (.cells #[x, u] T (0, 0)) := by
  have := heap_setCell_same w p 1 #[x, y] T u h
  simpa using this

theorem kept_p (w : World) (p i : Nat) (u : Value) : Kept (· = p) w (w.setCell ⟨p, i, none⟩ u) := (Kept.refl (· = p) w).setCell (p := ⟨p, i, none⟩) (.inl rfl) u

/-- The Dec behind a new field left. -/
theorem DecH.put0 {w : World} {p c : Nat} {F : Nat → Prop} {a : Option Addr} {l : List UInt8} {E : Int} {x : Value} (h0 : w.heap[p]? = some (.cells #[x, .int .i64 E] 91 (0, 0))) (h1 : BR w a c l) (h2 : ∀ x, a = some x → x.block ≠ p ∧ F x.block ∧ ∃ b off, x = ⟨b, off, none⟩) (h3 : F p) :
    DecH (w.setCell ⟨p, 0, none⟩ (.slice a l.length c)) p F (l, E) :=
  ⟨a, c, two_set0 h0 _, h1.keptS (kept_p w p 0 _) (fun x hx h => (h2 x hx).1 h), h2, h3⟩

theorem BR.nil (w : World) : BR w none 0 [] := ⟨Nat.le_refl _, Nat.zero_le _, .inl ⟨rfl, rfl⟩⟩

theorem BR.drop_end {w : World} {b off c k : Nat} {l : List UInt8} (h : BR w (some ⟨b, off, none⟩) c l) (hk : k ≤ l.length) (hc : c = k) : BR w (some ⟨b, off, none⟩) 0 (l.drop k) := by
  have := h.1
  have h0 : l.drop k = [] := List.drop_of_length_le (by omega)
  rw [h0]
  exact ⟨Nat.le_refl _, Nat.zero_le _, .inr (.inl ⟨rfl, _, rfl⟩)⟩

theorem BR.drop {w : World} {b off c k : Nat} {l : List UInt8} (h : BR w (some ⟨b, off, none⟩) c l) (hk : k ≤ l.length) : BR w (some ⟨b, off + k, none⟩) (c - k) (l.drop k) := by
  have hc := h.1
  refine ⟨by rw [List.length_drop]; omega, Nat.le_trans (Nat.sub_le _ _) h.2.1, ?_⟩
  rcases h.2.2 with ⟨h, _⟩ | ⟨h0, _⟩ | ⟨b', off', hx, hc'⟩
  · cases h
  · subst h0; exact .inr (.inl ⟨by simp, _, rfl⟩)
  · simp only [Option.some.injEq, Addr.mk.injEq, and_true] at hx
    obtain ⟨rfl, rfl⟩ := hx
    refine .inr (.inr ⟨b, off + k, rfl, fun j hj => ?_⟩)
    rw [List.length_drop] at hj
    have := hc' (k + j) (by omega)
    rw [List.getElem_drop, Nat.add_assoc]
    exact this

set_option maxHeartbeats 1000000 in
theorem fail_any (p : Nat) (F : Nat → Prop) (d : DS) (e0 : Int) (w : World) (h : DecH w p F d) : Calls Try.prog 70 #[.pointer (some ⟨p, 0, none⟩), .int .i64 e0] w (DPost w p F (.tuple #[]) (failD d e0)) := by
  obtain ⟨L, E⟩ := d
  have H := Lib.hid h
  obtain ⟨a, c, h0, h1, h2, h3⟩ := h
  have c0 := cell0_of_two h0
  have c1 := cell1_of_two h0
  have f0 := free_of_two h0 0
  have f1 := free_of_two h0 1
  simp only at c0 c1 f0 f1
  by_cases hE : E = 0
  · subst hE
    have P := Lib.hid (show DPost w p F (.tuple #[]) (failD (L, 0) e0) (.returned (.tuple #[])) ((w.setCell ⟨p, 1, none⟩ (.int .i64 e0)).setCell ⟨p, 0, none⟩ (.slice none 0 0)) from
      ⟨rfl, ⟨none, 0, two_set0 (two_set1 h0 _) _, BR.nil _, fun x hx => by simp at hx, h3⟩, (kept_p w p 1 _).trans (kept_p _ p 0 _) (fun _ h _ => h)⟩)
    clear h0 h1 h2 h3 H
    go_enter Try.func70, Try.ntmps70
    go_wp2_with fail
    go_end0
    exact P.out
  · have P := Lib.hid (show DPost w p F (.tuple #[]) (failD (L, E) e0) (.returned (.tuple #[])) w from ⟨rfl, by unfold failD; rw [if_neg hE]; exact H.out, Kept.refl _ _⟩)
    have hE' : (E == 0) = false := by simpa using hE
    clear h0 h1 h2 h3 H hE
    go_enter Try.func70, Try.ntmps70
    go_wp2_with fail
    go_end0
    exact P.out

set_option maxHeartbeats 2000000 in
set_option maxRecDepth 100000 in
theorem numberI_any (p : Nat) (F : Nat → Prop) (d : DS) (lo hi : Int) (hlo : -9223372036854775808 ≤ lo ∧ lo ≤ 9223372036854775807) (hhi : -9223372036854775808 ≤ hi ∧ hi ≤ 9223372036854775807) (w : World) (h : DecH w p F d) :
    Calls Try.prog 69 #[.pointer (some ⟨p, 0, none⟩), .int .i64 lo, .int .i64 hi] w (DPost w p F (.int .i64 (dNum lo hi d).1) (dNum lo hi d).2) := by
  obtain ⟨L, E⟩ := d
  have H := Lib.hid h
  obtain ⟨a, c, h0, h1, h2, h3⟩ := h
  simp only at h0 h1
  have hcm : c ≤ 9223372036854775807 := by have := h1.2.1; unfold maxLen at this; omega
  have hLc := h1.1
  have c0 := cell0_of_two h0
  have c1 := cell1_of_two h0
  have f0 := free_of_two h0 0
  have FI := Lib.hid (first_any a c L w h1)
  have HB := Lib.hid (And.intro h0 (And.intro h1 (And.intro h2 h3)))
  have hok := fst_ok L
  have FA := Lib.hid (fun e0 => fail_any p F (L, E) e0 w H.out)
  have hD : dNum lo hi (L, E) = if (fstF 0 0 L).2.2 = 0 then (if lo ≤ Lib.unzigzag (fstF 0 0 L).1 ∧ Lib.unzigzag (fstF 0 0 L).1 ≤ hi then (Lib.unzigzag (fstF 0 0 L).1, L.drop (fstF 0 0 L).2.1, E) else (0, failD (L, E) 2))
    else (0, failD (L, E) (fstF 0 0 L).2.2) := rfl
  rw [hD]
  obtain ⟨⟨u, sz, er⟩, hf⟩ : ∃ f, fstF 0 0 L = f := ⟨_, rfl⟩
  rw [hf] at hok FI
  rw [hf]
  simp only at hok ⊢
  unfold FstPost at FI
  simp only at FI
  clear hf hD h0 h1 h2 h3 H
  obtain ⟨hu, -, hs⟩ := hok
  by_cases he : er = 0
  · subst he
    simp only [if_true]
    obtain ⟨hs0, hs1⟩ := hs rfl
    have UN := Lib.hid (fun w' => unfold_any u hu w')
    have hui := unz_in hu
    obtain ⟨n, hn⟩ : ∃ n, Lib.unzigzag u = n := ⟨_, rfl⟩
    rw [hn] at UN hui ⊢
    obtain ⟨hn0, hn1⟩ := hui
    obtain ⟨hlo0, hlo1⟩ := hlo
    obtain ⟨hhi0, hhi1⟩ := hhi
    clear hn hs
    by_cases hin : lo ≤ n ∧ n ≤ hi
    · rw [if_pos hin]
      obtain ⟨hin0, hin1⟩ := hin
      obtain ⟨b, off, rfl, -⟩ := HB.out.2.1.cells (by omega)
      by_cases hcs : c = sz
      · subst hcs
        have hLs : L.length = c := by omega
        have P := Lib.hid (show DPost w p F (.int .i64 n) (L.drop c, E) (.returned (.int .i64 n)) (w.setCell ⟨p, 0, none⟩ (.slice (some ⟨b, off, none⟩) 0 0)) from ⟨rfl, by
          have := DecH.put0 (F := F) HB.out.1 (HB.out.2.1.drop_end hs1 rfl) HB.out.2.2.1 HB.out.2.2.2
          rw [List.length_drop, hLs, Nat.sub_self] at this
          exact this, kept_p w p 0 _⟩)
        have HLs := Lib.hid hLs
        rw [hLs] at FI c0
        clear hLs HB FA
        go_enter Try.func69, Try.ntmps69
        go_wp2_with fail
        refine FI.out.mono ?_
        rintro e w2 ⟨rfl, rfl⟩
        go_wp2_with fail
        refine (UN.out _).mono ?_
        rintro e w3 ⟨rfl, rfl⟩
        go_wp2_with fail
        go_ret
        exact P.out
      · have P := Lib.hid (show DPost w p F (.int .i64 n) (L.drop sz, E) (.returned (.int .i64 n)) (w.setCell ⟨p, 0, none⟩ (.slice (some ⟨b, off + sz, none⟩) (L.length - sz) (c - sz))) from ⟨rfl, by
          have := DecH.put0 (F := F) HB.out.1 (HB.out.2.1.drop hs1) (fun x hx => by cases hx; have h := HB.out.2.2.1 ⟨b, off, none⟩ rfl; exact ⟨h.1, h.2.1, _, _, rfl⟩) HB.out.2.2.2
          rw [List.length_drop] at this
          exact this, kept_p w p 0 _⟩)
        clear HB FA
        go_enter Try.func69, Try.ntmps69
        go_wp2_with fail
        refine FI.out.mono ?_
        rintro e w2 ⟨rfl, rfl⟩
        go_wp2_with fail
        refine (UN.out _).mono ?_
        rintro e w3 ⟨rfl, rfl⟩
        go_wp2_with fail
        go_ret
        exact P.out
    · rw [if_neg hin]
      have FA2 := Lib.hid (FA.out 2)
      obtain ⟨D, hD⟩ : ∃ D, failD (L, E) 2 = D := ⟨_, rfl⟩
      rw [hD] at FA2 ⊢
      clear FA HB hD
      by_cases hl : n < lo
      · clear hin
        go_enter Try.func69, Try.ntmps69
        go_wp2_with fail
        refine FI.out.mono ?_
        rintro e w2 ⟨rfl, rfl⟩
        go_wp2_with fail
        refine (UN.out _).mono ?_
        rintro e w3 ⟨rfl, rfl⟩
        go_wp2_with fail
        refine FA2.out.mono ?_
        rintro e w4 ⟨rfl, hd⟩
        have P := Lib.hid (show DPost w3 p F (.int .i64 0) D (.returned (.int .i64 0)) w4 from ⟨rfl, hd⟩)
        clear hd
        go_wp2_with fail
        go_ret
        exact P.out
      · have hh : hi < n := by omega
        clear hin
        go_enter Try.func69, Try.ntmps69
        go_wp2_with fail
        refine FI.out.mono ?_
        rintro e w2 ⟨rfl, rfl⟩
        go_wp2_with fail
        refine (UN.out _).mono ?_
        rintro e w3 ⟨rfl, rfl⟩
        go_wp2_with fail
        refine FA2.out.mono ?_
        rintro e w4 ⟨rfl, hd⟩
        have P := Lib.hid (show DPost w3 p F (.int .i64 0) D (.returned (.int .i64 0)) w4 from ⟨rfl, hd⟩)
        clear hd
        go_wp2_with fail
        go_ret
        exact P.out
  · rw [if_neg he]
    have he' : (er == 0) = false := by simpa using he
    have FA2 := Lib.hid (FA.out er)
    obtain ⟨D, hD⟩ : ∃ D, failD (L, E) er = D := ⟨_, rfl⟩
    rw [hD] at FA2 ⊢
    clear FA HB hD hs he
    go_enter Try.func69, Try.ntmps69
    go_wp2_with fail
    refine FI.out.mono ?_
    rintro e w2 ⟨rfl, rfl⟩
    go_wp2_with fail
    refine FA2.out.mono ?_
    rintro e w4 ⟨rfl, hd⟩
    have P := Lib.hid (show DPost w2 p F (.int .i64 0) D (.returned (.int .i64 0)) w4 from ⟨rfl, hd⟩)
    clear hd
    go_wp2_with fail
    go_ret
    exact P.out

set_option maxHeartbeats 2000000 in
set_option maxRecDepth 100000 in
theorem numberN_any (p : Nat) (F : Nat → Prop) (d : DS) (lo hi : Int) (hlo : -9223372036854775808 ≤ lo ∧ lo ≤ 9223372036854775807) (hhi : -9223372036854775808 ≤ hi ∧ hi ≤ 9223372036854775807) (w : World) (h : DecH w p F d) :
    Calls Try.prog 88 #[.pointer (some ⟨p, 0, none⟩), .int .i64 lo, .int .i64 hi] w (DPost w p F (.int .i64 (dNum lo hi d).1) (dNum lo hi d).2) := by
  obtain ⟨L, E⟩ := d
  have H := Lib.hid h
  obtain ⟨a, c, h0, h1, h2, h3⟩ := h
  simp only at h0 h1
  have hcm : c ≤ 9223372036854775807 := by have := h1.2.1; unfold maxLen at this; omega
  have hLc := h1.1
  have c0 := cell0_of_two h0
  have c1 := cell1_of_two h0
  have f0 := free_of_two h0 0
  have FI := Lib.hid (first_any a c L w h1)
  have HB := Lib.hid (And.intro h0 (And.intro h1 (And.intro h2 h3)))
  have hok := fst_ok L
  have FA := Lib.hid (fun e0 => fail_any p F (L, E) e0 w H.out)
  have hD : dNum lo hi (L, E) = if (fstF 0 0 L).2.2 = 0 then (if lo ≤ Lib.unzigzag (fstF 0 0 L).1 ∧ Lib.unzigzag (fstF 0 0 L).1 ≤ hi then (Lib.unzigzag (fstF 0 0 L).1, L.drop (fstF 0 0 L).2.1, E) else (0, failD (L, E) 2))
    else (0, failD (L, E) (fstF 0 0 L).2.2) := rfl
  rw [hD]
  obtain ⟨⟨u, sz, er⟩, hf⟩ : ∃ f, fstF 0 0 L = f := ⟨_, rfl⟩
  rw [hf] at hok FI
  rw [hf]
  simp only at hok ⊢
  unfold FstPost at FI
  simp only at FI
  clear hf hD h0 h1 h2 h3 H
  obtain ⟨hu, -, hs⟩ := hok
  by_cases he : er = 0
  · subst he
    simp only [if_true]
    obtain ⟨hs0, hs1⟩ := hs rfl
    have UN := Lib.hid (fun w' => unfold_any u hu w')
    have hui := unz_in hu
    obtain ⟨n, hn⟩ : ∃ n, Lib.unzigzag u = n := ⟨_, rfl⟩
    rw [hn] at UN hui ⊢
    obtain ⟨hn0, hn1⟩ := hui
    obtain ⟨hlo0, hlo1⟩ := hlo
    obtain ⟨hhi0, hhi1⟩ := hhi
    clear hn hs
    by_cases hin : lo ≤ n ∧ n ≤ hi
    · rw [if_pos hin]
      obtain ⟨hin0, hin1⟩ := hin
      obtain ⟨b, off, rfl, -⟩ := HB.out.2.1.cells (by omega)
      by_cases hcs : c = sz
      · subst hcs
        have hLs : L.length = c := by omega
        have P := Lib.hid (show DPost w p F (.int .i64 n) (L.drop c, E) (.returned (.int .i64 n)) (w.setCell ⟨p, 0, none⟩ (.slice (some ⟨b, off, none⟩) 0 0)) from ⟨rfl, by
          have := DecH.put0 (F := F) HB.out.1 (HB.out.2.1.drop_end hs1 rfl) HB.out.2.2.1 HB.out.2.2.2
          rw [List.length_drop, hLs, Nat.sub_self] at this
          exact this, kept_p w p 0 _⟩)
        have HLs := Lib.hid hLs
        rw [hLs] at FI c0
        clear hLs HB FA
        go_enter Try.func88, Try.ntmps88
        go_wp2_with fail
        refine FI.out.mono ?_
        rintro e w2 ⟨rfl, rfl⟩
        go_wp2_with fail
        refine (UN.out _).mono ?_
        rintro e w3 ⟨rfl, rfl⟩
        go_wp2_with fail
        go_ret
        exact P.out
      · have P := Lib.hid (show DPost w p F (.int .i64 n) (L.drop sz, E) (.returned (.int .i64 n)) (w.setCell ⟨p, 0, none⟩ (.slice (some ⟨b, off + sz, none⟩) (L.length - sz) (c - sz))) from ⟨rfl, by
          have := DecH.put0 (F := F) HB.out.1 (HB.out.2.1.drop hs1) (fun x hx => by cases hx; have h := HB.out.2.2.1 ⟨b, off, none⟩ rfl; exact ⟨h.1, h.2.1, _, _, rfl⟩) HB.out.2.2.2
          rw [List.length_drop] at this
          exact this, kept_p w p 0 _⟩)
        clear HB FA
        go_enter Try.func88, Try.ntmps88
        go_wp2_with fail
        refine FI.out.mono ?_
        rintro e w2 ⟨rfl, rfl⟩
        go_wp2_with fail
        refine (UN.out _).mono ?_
        rintro e w3 ⟨rfl, rfl⟩
        go_wp2_with fail
        go_ret
        exact P.out
    · rw [if_neg hin]
      have FA2 := Lib.hid (FA.out 2)
      obtain ⟨D, hD⟩ : ∃ D, failD (L, E) 2 = D := ⟨_, rfl⟩
      rw [hD] at FA2 ⊢
      clear FA HB hD
      by_cases hl : n < lo
      · clear hin
        go_enter Try.func88, Try.ntmps88
        go_wp2_with fail
        refine FI.out.mono ?_
        rintro e w2 ⟨rfl, rfl⟩
        go_wp2_with fail
        refine (UN.out _).mono ?_
        rintro e w3 ⟨rfl, rfl⟩
        go_wp2_with fail
        refine FA2.out.mono ?_
        rintro e w4 ⟨rfl, hd⟩
        have P := Lib.hid (show DPost w3 p F (.int .i64 0) D (.returned (.int .i64 0)) w4 from ⟨rfl, hd⟩)
        clear hd
        go_wp2_with fail
        go_ret
        exact P.out
      · have hh : hi < n := by omega
        clear hin
        go_enter Try.func88, Try.ntmps88
        go_wp2_with fail
        refine FI.out.mono ?_
        rintro e w2 ⟨rfl, rfl⟩
        go_wp2_with fail
        refine (UN.out _).mono ?_
        rintro e w3 ⟨rfl, rfl⟩
        go_wp2_with fail
        refine FA2.out.mono ?_
        rintro e w4 ⟨rfl, hd⟩
        have P := Lib.hid (show DPost w3 p F (.int .i64 0) D (.returned (.int .i64 0)) w4 from ⟨rfl, hd⟩)
        clear hd
        go_wp2_with fail
        go_ret
        exact P.out
  · rw [if_neg he]
    have he' : (er == 0) = false := by simpa using he
    have FA2 := Lib.hid (FA.out er)
    obtain ⟨D, hD⟩ : ∃ D, failD (L, E) er = D := ⟨_, rfl⟩
    rw [hD] at FA2 ⊢
    clear FA HB hD hs he
    go_enter Try.func88, Try.ntmps88
    go_wp2_with fail
    refine FI.out.mono ?_
    rintro e w2 ⟨rfl, rfl⟩
    go_wp2_with fail
    refine FA2.out.mono ?_
    rintro e w4 ⟨rfl, hd⟩
    have P := Lib.hid (show DPost w2 p F (.int .i64 0) D (.returned (.int .i64 0)) w4 from ⟨rfl, hd⟩)
    clear hd
    go_wp2_with fail
    go_ret
    exact P.out

end Go.Proofs.Ytfenfgbkphpboaa
