/-
  No statement: contracts of fail, tick, is of the document's reader.
-/
import Derived.Test.YteegdemnajhehaaGreatDoorAMem
import Derived.Test.YteegdemnajhehaaGreatDoorLRef
namespace Go.Proofs.YteegdemnajhehaaGreatDoor
open Go.RowKit

/-- Tokens that lie below a block. -/
def TokB (lim : Nat) (w : World) (a : Option Addr) (ts : List Tk) : Prop :=
  ts = [] ∨ ∃ b off, a = some ⟨b, off, none⟩ ∧ b < lim ∧ ∀ j (h : j < ts.length), w.cell? ⟨b, off + j * 4, none⟩ = some (.int .i64 ts[j].kind) ∧ w.cell? ⟨b, off + j * 4 + 1, none⟩ = some (.string ⟨ts[j].text.toArray⟩) ∧
    w.cell? ⟨b, off + j * 4 + 2, none⟩ = some (.int .i64 ts[j].num) ∧ w.cell? ⟨b, off + j * 4 + 3, none⟩ = some (.int .i64 ts[j].place)

theorem TokB.kept {lim : Nat} {S : Nat → Prop} {w w' : World} {a : Option Addr} {ts : List Tk} (h : TokB lim w a ts) (hk : Kept S w w') (hS : ∀ k, S k → lim ≤ k) : TokB lim w' a ts := by
  rcases h with h | ⟨b, off, rfl, hlt, hc⟩
  · exact .inl h
  · have hb : ¬ S b := fun hs => by have := hS b hs; omega
    refine .inr ⟨b, off, rfl, hlt, fun j hj => ?_⟩
    obtain ⟨c0, c1, c2, c3⟩ := hc j hj
    exact ⟨hk.cell c0 hb, hk.cell c1 hb, hk.cell c2 hb, hk.cell c3 hb⟩

theorem tokB_of {w : World} {a : Option Addr} {ts : List Tk} (h : ReadsT w a ts) : TokB w.heap.size w a ts := h.imp id fun ⟨b, off, e, hlt, hc⟩ => ⟨b, off, e, hlt, hc⟩

/-- A reader's numbers are small. -/
def FineR (n : Nat) (s : RS) : Prop := (s.bad = 0 → s.pos ≤ n) ∧ s.pos ≤ 2 * n + 1 ∧ s.cnt ≤ 33 ∧ n ≤ 100000

/-- What a reader's methods keep: the reader, its tokens. -/
structure PW (ts : List Tk) (rb : Nat) (a : Option Addr) (c : Nat) (s : RS) (w : World) : Prop where
  r : IsR w rb a ts.length c s
  t : TokB rb w a ts
  f : FineR ts.length s

theorem PW.kept {ts : List Tk} {rb : Nat} {a : Option Addr} {c : Nat} {s : RS} {w w' : World} (h : PW ts rb a c s w) (hk : Kept (fun _ => False) w w') : PW ts rb a c s w' :=
  ⟨hk.heap h.r (fun h => h), h.t.kept hk (fun _ h => h.elim), h.f⟩
theorem PW.below {ts : List Tk} {rb : Nat} {a : Option Addr} {c : Nat} {s : RS} {w w' : World} (h : PW ts rb a c s w) (hb : Below w.heap.size w w') : PW ts rb a c s w' := h.kept (kept_below hb _)

theorem five {w : World} {b : Nat} {v0 v1 v2 v3 v4 : Value} {t : TypeId} (h : w.heap[b]? = some (.cells #[v0, v1, v2, v3, v4] t (0, 0))) (o : Nat) (v : Value) :
    (w.setCell ⟨b, o, none⟩ v).heap[b]? = some (.cells ((#[v0, v1, v2, v3, v4] : Array Value).setIfInBounds o v) t (0, 0)) := heap_setCell_same w b o _ t v h

theorem PW.set {ts : List Tk} {rb : Nat} {a : Option Addr} {c : Nat} {s s' : RS} {w : World} {o : Nat} {v : Value} (h : PW ts rb a c s w) (hf : FineR ts.length s')
    (hv : (#[.slice a ts.length c, .int .i64 s.pos, .int .i64 s.cnt, .int .i64 s.bad, .int .i64 s.whr] : Array Value).setIfInBounds o v = #[.slice a ts.length c, .int .i64 s'.pos, .int .i64 s'.cnt, .int .i64 s'.bad, .int .i64 s'.whr]) : PW ts rb a c s' (w.setCell ⟨rb, o, none⟩ v) := by
  refine ⟨?_, h.t.kept ((Kept.refl (· = rb) w).setCell (p := ⟨rb, o, none⟩) (.inl rfl) v) (fun k hk => by omega), hf⟩
  have := five h.r o v
  rw [hv] at this
  exact this

theorem kept_set {rb : Nat} {w0 w : World} (h : Kept (· = rb) w0 w) (o : Nat) (v : Value) : Kept (· = rb) w0 (w.setCell ⟨rb, o, none⟩ v) := h.setCell (p := ⟨rb, o, none⟩) (.inl rfl) v

set_option maxHeartbeats 2000000 in
theorem fail_any (ts : List Tk) (rb : Nat) (a : Option Addr) (c : Nat) (s : RS) (e : Int) (he : ¬ e = 0) (w : World) (h : PW ts rb a c s w) :
    Calls Tryz.prog 87 #[.pointer (some ⟨rb, 0, none⟩), .int .i64 e] w fun x w' => x = .returned (.tuple #[]) ∧ PW ts rb a c (failR e s) w' ∧ Kept (· = rb) w w' := by
  obtain ⟨⟨c0, c1, c2, c3, c4⟩, f1, f2, f3, f4⟩ := h.r.cells
  have H := Lib.hid h
  by_cases hb : s.bad = 0
  · have q : ((s.bad : Int) == 0) = true := by rw [hb]; rfl
    have F : failR e s = ⟨s.pos, s.cnt, e, s.pos⟩ := by unfold failR; rw [if_pos hb]
    rw [F]
    clear hb h
    go_enter Tryz.func87, Tryz.ntmps87
    go_wp2_with fail
    go_end0
    have H1 : PW ts rb a c ⟨s.pos, s.cnt, e, s.whr⟩ (w.setCell ⟨rb, 3, none⟩ (.int .i64 e)) := H.out.set ⟨fun x => absurd x he, H.out.f.2⟩ rfl
    exact ⟨rfl, H1.set ⟨fun x => absurd x he, H.out.f.2⟩ rfl, kept_set (kept_set (Kept.refl _ _) 3 _) 4 _⟩
  · have q : ((s.bad : Int) == 0) = false := beq_eq_false_iff_ne.2 hb
    have F : failR e s = s := by unfold failR; rw [if_neg hb]
    rw [F]
    clear hb h
    go_enter Tryz.func87, Tryz.ntmps87
    go_wp2_with fail
    go_end0
    exact ⟨rfl, H.out, Kept.refl _ _⟩

theorem tick_fine {n : Nat} {s : RS} (h : FineR n s) (hlt : s.bad = 0 → s.pos < n ∧ s.cnt ≤ 32) (hp : s.pos + 1 ≤ 2 * n + 1) : FineR n (tickR s) := by
  obtain ⟨h1, h2, h3, h4⟩ := h
  unfold tickR
  by_cases hb : s.bad = 0
  · rw [if_pos hb]
    have := hlt hb
    have := h1 hb
    by_cases h32 : 32 < s.cnt + 1
    · rw [if_pos h32]
      exact ⟨fun x => absurd x (by show ¬ (4 : Int) = 0; decide), hp, by show s.cnt + 1 ≤ 33; omega, h4⟩
    · rw [if_neg h32]
      exact ⟨fun _ => by show s.pos + 1 ≤ n; omega, hp, by show s.cnt + 1 ≤ 33; omega, h4⟩
  · rw [if_neg hb]
    exact ⟨fun x => absurd x hb, hp, h3, h4⟩

set_option maxHeartbeats 4000000 in
theorem tick_any (ts : List Tk) (rb : Nat) (a : Option Addr) (c : Nat) (s : RS) (w : World) (h : PW ts rb a c s w) (hlt : s.bad = 0 → s.pos < ts.length ∧ s.cnt ≤ 32) (hp : s.pos + 1 ≤ 2 * ts.length + 1) :
    Calls Tryz.prog 66 #[.pointer (some ⟨rb, 0, none⟩)] w fun x w' => x = .returned (.tuple #[]) ∧ PW ts rb a c (tickR s) w' ∧ Kept (· = rb) w w' := by
  have HF := tick_fine h.f hlt hp
  obtain ⟨⟨c0, c1, c2, c3, c4⟩, f1, f2, f3, f4⟩ := h.r.cells
  have H := Lib.hid h
  have hcnt := h.f.2.2.1
  have hpos := h.f.2.1
  have hn := h.f.2.2.2
  clear h
  by_cases hb : s.bad = 0
  · have q : ((s.bad : Int) == 0) = true := by rw [hb]; rfl
    obtain ⟨hpn, hc32⟩ := hlt hb
    have H1 := Lib.hid (show PW ts rb a c ⟨s.pos, s.cnt + 1, s.bad, s.whr⟩ (w.setCell ⟨rb, 2, none⟩ (.int .i64 ((s.cnt : Int) + 1))) from
      H.out.set ⟨fun _ => by show s.pos ≤ _; omega, hpos, by show s.cnt + 1 ≤ 33; omega, hn⟩ rfl)
    have K1 := Lib.hid (kept_set (Kept.refl (· = rb) w) 2 (.int .i64 ((s.cnt : Int) + 1)))
    by_cases h32 : 32 < s.cnt + 1
    · have F : tickR s = ⟨s.pos + 1, s.cnt + 1, 4, s.pos⟩ := by unfold tickR; rw [if_pos hb, if_pos h32]
      have F2 : failR 4 ⟨s.pos, s.cnt + 1, s.bad, s.whr⟩ = ⟨s.pos, s.cnt + 1, 4, s.pos⟩ := by unfold failR; rw [if_pos hb]
      have C := Lib.hid (fail_any ts rb a c ⟨s.pos, s.cnt + 1, s.bad, s.whr⟩ 4 (by decide) _ H1.out)
      rw [F2] at C
      rw [F] at HF ⊢
      have hq : (32 : Int) < (s.cnt : Int) + 1 := by omega
      clear hb hlt F F2
      go_enter Tryz.func66, Tryz.ntmps66
      go_wp2_with fail
      refine C.out.mono ?_
      rintro e w1 ⟨rfl, h1, hk⟩
      have H2 := Lib.hid h1
      have K2 := Lib.hid (show Kept (· = rb) w w1 from K1.out.trans hk (fun i hi _ => hi))
      obtain ⟨⟨d0, d1, d2, d3, d4⟩, g1, g2, g3, g4⟩ := h1.r.cells
      clear h1 hk C c0 c1 c2 c3 c4 f1 f2 f3 f4
      go_wp2_with fail
      go_end0
      exact ⟨rfl, H2.out.set HF rfl, kept_set K2.out 1 _⟩
    · have F : tickR s = ⟨s.pos + 1, s.cnt + 1, 0, s.whr⟩ := by unfold tickR; rw [if_pos hb, if_neg h32]
      rw [F] at HF ⊢
      have hq : ¬ (32 : Int) < (s.cnt : Int) + 1 := by omega
      have hs0 := Lib.hid hb
      clear hb hlt F
      go_enter Tryz.func66, Tryz.ntmps66
      go_wp2_with fail
      go_end0
      have H2 : PW ts rb a c ⟨s.pos + 1, s.cnt + 1, 0, s.whr⟩ ((w.setCell ⟨rb, 2, none⟩ (.int .i64 ((s.cnt : Int) + 1))).setCell ⟨rb, 1, none⟩ (.int .i64 ((s.pos : Int) + 1))) :=
        H1.out.set HF (by rw [← hs0.out]; rfl)
      exact ⟨rfl, H2, kept_set K1.out 1 _⟩
  · have q : ((s.bad : Int) == 0) = false := beq_eq_false_iff_ne.2 hb
    have F : tickR s = ⟨s.pos + 1, s.cnt, s.bad, s.whr⟩ := by unfold tickR; rw [if_neg hb]
    rw [F] at HF ⊢
    clear hb hlt F
    go_enter Tryz.func66, Tryz.ntmps66
    go_wp2_with fail
    go_end0
    exact ⟨rfl, H.out.set HF rfl, kept_set (Kept.refl _ _) 1 _⟩

theorem tok_cells {ts : List Tk} {rb : Nat} {a : Option Addr} {w : World} (h : TokB rb w a ts) {p : Nat} (hp : p < ts.length) : ∃ b off, a = some ⟨b, off, none⟩ ∧ b < rb ∧ w.cell? ⟨b, off + p * 4, none⟩ = some (.int .i64 ts[p].kind) ∧ w.cell? ⟨b, off + p * 4 + 1, none⟩ = some (.string ⟨ts[p].text.toArray⟩) ∧
    w.cell? ⟨b, off + p * 4 + 2, none⟩ = some (.int .i64 ts[p].num) ∧ w.cell? ⟨b, off + p * 4 + 3, none⟩ = some (.int .i64 ts[p].place) := by
  rcases h with h | ⟨b, off, e, hlt, hc⟩
  · rw [h] at hp; simp at hp
  · exact ⟨b, off, e, hlt, hc p hp⟩

theorem isS_get {ts : List Tk} {x : List UInt8} {p : Nat} (hp : p < ts.length) : isS ts x p = (ts[p].kind == 3 && ts[p].text == x) := by
  unfold isS; rw [List.getElem?_eq_getElem hp]

theorem kept_drewN {S : Nat → Prop} {w w' : World} (h : Kept S w w') (n : Nat) : Kept S w (w'.drewN n) := h.drewN n

set_option maxHeartbeats 4000000 in
theorem is_any (ts : List Tk) (rb : Nat) (a : Option Addr) (c : Nat) (s : RS) (x : ByteArray) (w : World) (h : PW ts rb a c s w) :
    Calls Tryz.prog 65 #[.pointer (some ⟨rb, 0, none⟩), .string x] w fun e w' => e = .returned (.bool (isS ts x.data.toList s.pos)) ∧ Kept (fun _ => False) w w' := by
  obtain ⟨⟨c0, c1, c2, c3, c4⟩, f1, f2, f3, f4⟩ := h.r.cells
  have hpos := h.f.2.1
  have hn := h.f.2.2.2
  have K := Lib.hid (Kept.refl (fun _ => False) w)
  by_cases hlt : s.pos < ts.length
  · obtain ⟨b, off, ha, -, p0, p1, -, -⟩ := tok_cells h.t hlt
    subst ha
    rw [isS_get hlt]
    obtain ⟨k, hk⟩ : ∃ k, ts[s.pos].kind = k := ⟨_, rfl⟩
    obtain ⟨X, hX⟩ : ∃ X : ByteArray, ⟨ts[s.pos].text.toArray⟩ = X := ⟨_, rfl⟩
    have hXl : ts[s.pos].text = X.data.toList := by rw [← hX]
    rw [hk] at p0 ⊢
    rw [hX] at p1
    rw [hXl, ← Lib.toList_data, ← Lib.toList_data]
    have a1 : (s.pos : Int) < (ts.length : Int) := by omega
    have a2 : (0 : Int) ≤ (s.pos : Int) := by omega
    have a3 : ((s.pos : Int)).toNat = s.pos := by omega
    clear hk hX hXl h
    cases hk3 : (k == 3) with
    | true =>
      have z : (k == 3) = true := hk3
      rw [Bool.true_and]
      clear hk3
      go_enter Tryz.func65, Tryz.ntmps65
      go_wp2_with (go_quiet (fail))
      go_ret
      exact ⟨rfl, K.out.drewN _⟩
    | false =>
      have z : (k == 3) = false := hk3
      rw [Bool.false_and]
      clear hk3
      go_enter Tryz.func65, Tryz.ntmps65
      go_wp2_with (go_quiet (fail))
      go_ret
      exact ⟨rfl, K.out.drewN _⟩
  · rw [isS_end (by omega)]
    have a1 : decide (s.pos < ts.length) = false := decide_eq_false hlt
    have a2 : decide ((s.pos : Int) < (ts.length : Int)) = false := decide_eq_false (by omega)
    clear h
    go_enter Tryz.func65, Tryz.ntmps65
    go_wp2_with (go_quiet (fail))
    go_ret
    exact ⟨rfl, K.out.drewN _⟩

end Go.Proofs.YteegdemnajhehaaGreatDoor
