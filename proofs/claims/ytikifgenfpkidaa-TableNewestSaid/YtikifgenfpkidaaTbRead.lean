/-
  No statement: what sorted.Map[string, value.Value] does that only reads it, where it lies in a table.
-/
import Derived.Test.YtikifgenfpkidaaTbMapH
import Derived.Test.YtikifgenfpkidaaSearchS
import Derived.Test.YtikifgenfpkidaaInsR
import Derived.Deep.QuietTactic
import Derived.BigQuiet
import Derived.StillTailTactics
import Derived.Deep.RegionHeld3
import Derived.Test.YtikifgenfpkidaaVCheck
import Derived.Test.YtikifgenfpkidaaFour
namespace Go.Proofs.Ytikifgenfpkidaa
open Go.RowKit

/-- The six cells of a row. -/
structure RC where
  key : ByteArray
  t : Int
  i : Int
  q : Int
  o : ByteArray
  a : Option Addr
  len : Nat
  c : Nat

def RC.cs (v : RC) : List Value := [.string v.key, .int .i64 v.t, .int .i64 v.i, .int .i64 v.q, .string v.o, .slice v.a v.len v.c]
def RC.v (v : RC) : Value := .agg #[.string v.key, .int .i64 v.t, .int .i64 v.i, .int .i64 v.q, .string v.o, .slice v.a v.len v.c]

/-- The cells of values, one behind the other. -/
def flatR : List RC → List Value
  | [] => []
  | v :: r => v.cs ++ flatR r

theorem flatR_len : ∀ l : List RC, (flatR l).length = l.length * 6
  | [] => rfl
  | v :: r => by rw [flatR, List.length_append, flatR_len r]; show 6 + _ = (r.length + 1) * 6; omega

theorem flatR_append : ∀ a b : List RC, flatR (a ++ b) = flatR a ++ flatR b
  | [], b => rfl
  | v :: r, b => by rw [List.cons_append, flatR, flatR_append r b, flatR, List.append_assoc]

theorem flatR_take : ∀ (l : List RC) (i : Nat), flatR (l.take i) = (flatR l).take (i * 6)
  | [], i => by simp [flatR]
  | v :: r, 0 => by simp [flatR]
  | v :: r, i + 1 => by
    rw [List.take_succ_cons, flatR, flatR, flatR_take r i, show (i + 1) * 6 = i * 6 + 1 + 1 + 1 + 1 + 1 + 1 by omega]
    rfl

theorem flatR_drop : ∀ (l : List RC) (i : Nat), flatR (l.drop i) = (flatR l).drop (i * 6)
  | [], i => by simp [flatR]
  | v :: r, 0 => by simp [flatR]
  | v :: r, i + 1 => by
    rw [List.drop_succ_cons, flatR, flatR_drop r i, show (i + 1) * 6 = i * 6 + 1 + 1 + 1 + 1 + 1 + 1 by omega]
    rfl

theorem flatR_at {l : List RC} {i r : Nat} {v : RC} (h : l[i]? = some v) (hr : r < 6) : (flatR l)[i * 6 + r]? = v.cs[r]? := by
  obtain ⟨hi, hv⟩ := List.getElem?_eq_some_iff.1 h
  have e : l = l.take i ++ v :: l.drop (i + 1) := by rw [← hv]; exact (List.take_append_drop i l).symm.trans (by rw [List.drop_eq_getElem_cons hi])
  have hl : (flatR (l.take i)).length = i * 6 := by rw [flatR_len, List.length_take, Nat.min_eq_left (by omega)]
  conv => lhs; rw [e, flatR_append]
  rw [List.getElem?_append_right (by omega), hl, show i * 6 + r - i * 6 = r by omega, flatR, List.getElem?_append_left (by show r < 6; omega)]

theorem flatR_one (l : List RC) : ∀ u ∈ flatR l, u.oneCell' = true := by
  induction l with
  | nil => intro u hu; cases hu
  | cons v r ih =>
    intro u hu
    rw [flatR, List.mem_append] at hu
    rcases hu with hu | hu
    · simp only [RC.cs, List.mem_cons, List.not_mem_nil, or_false] at hu
      rcases hu with rfl | rfl | rfl | rfl | rfl | rfl <;> rfl
    · exact ih u hu

/-- This seat's map. -/
def MSR (w : World) (p : Nat) (most : Int) (F : Nat → Prop) (ks : List ByteArray) (vs : List RC) : Prop :=
  MapInH 6 w 78 9 39 p (.int .i64 most) F (ks.map Value.string) (flatR vs)

theorem MSR.kept {w w' : World} {p : Nat} {most : Int} {F S : Nat → Prop} {ks : List ByteArray} {vs : List RC} (h : MSR w p most F ks vs) (hk : Kept S w w') (hS : ∀ k, F k → ¬ S k) : MSR w' p most F ks vs := MapInH.kept h hk hS
theorem MSR.lt {w : World} {p : Nat} {most : Int} {F : Nat → Prop} {ks : List ByteArray} {vs : List RC} (h : MSR w p most F ks vs) : ∀ k, F k → k < w.heap.size := MapInH.lt h
theorem MSR.len {w : World} {p : Nat} {most : Int} {F : Nat → Prop} {ks : List ByteArray} {vs : List RC} (h : MSR w p most F ks vs) : vs.length = ks.length := by
  have := MapInH.len h
  rw [flatR_len, List.length_map] at this
  omega

set_option maxHeartbeats 1000000 in
theorem lenSR (w : World) (p : Nat) (most : Int) (F : Nat → Prop) (ks : List ByteArray) (vs : List RC) (h : MSR w p most F ks vs) : Calls Try.prog 47 #[.pointer (some ⟨p, 1, none⟩)] w fun e w' =>
    e = .returned (.int .i64 (ks.length : Nat)) ∧ w = w' := by
  obtain ⟨kv, vv, h0, h1, h2, _⟩ := h
  obtain ⟨ka, kc, rfl⟩ := owns_slice h1
  have c0 := cell1_of_three h0
  simp only [List.length_map] at c0
  clear h0 h1 h2
  go_enter Try.func47, Try.ntmps47
  go_wp2
  go_ret
  exact ⟨rfl, rfl⟩

set_option maxHeartbeats 1000000 in
theorem keyInSR (w : World) (p : Nat) (most : Int) (F : Nat → Prop) (ks : List ByteArray) (vs : List RC) (i : Nat) (k : ByteArray) (hn : ks.length ≤ 1000000) (hk : ks[i]? = some k) (h : MSR w p most F ks vs) :
    Calls Try.prog 82 #[.pointer (some ⟨p, 1, none⟩), .int .i64 i] w fun e w' => e = .returned (.tuple #[.string k, .bool true]) ∧ w = w' := by
  obtain ⟨kv, vv, h0, h1, h2, _⟩ := h
  have hi := (List.getElem?_eq_some_iff.1 hk).1
  obtain ⟨g, c, cur, rfl, hg, hs, hnc, hm, ht, hx⟩ := owns_block h1 (by simp; omega)
  have c0 := cell1_of_three h0
  simp only [List.length_map] at c0
  have ci : w.cell? ⟨g, i, none⟩ = some (.string k) := owns_cell hg ht (by rw [List.getElem?_map, hk]; rfl)
  have hi' : (i : Int) < (ks.length : Int) := by omega
  generalize ks.length = n at *
  have h0i : (0 : Int) ≤ (i : Int) := by omega
  clear h0 h1 h2 hk hg hs ht hx hnc hm
  go_enter Try.func82, Try.ntmps82
  go_wp2
  go_ret2
  exact ⟨rfl, rfl⟩

/-- The search over a map's keys, under names. -/
theorem lookSR {w : World} {p : Nat} {most : Int} {F : Nat → Prop} {ks : List ByteArray} {vs : List RC} (h : MSR w p most F ks vs) (hn : ks.length ≤ 1000000) (hr : Rising lsS ks) (x : ByteArray) :
    ∃ ka kc, w.cell? ⟨p, 1, none⟩ = some (.slice ka ks.length kc) ∧ ∀ (I : Nat) (B : Bool), pos lsS ks x = I → has ks x = B →
      Calls Try.prog 58 #[.slice ka ks.length kc, .string x] w fun e w' => e = .returned (.tuple #[.int .i64 I, .bool B]) ∧ ∃ q, w' = w.drewN q := by
  obtain ⟨kv, vv, h0, h1, h2, _⟩ := h
  obtain ⟨ka, kc, rfl⟩ := owns_slice h1
  have c0 := cell1_of_three h0
  simp only [List.length_map] at c0 h1
  exact ⟨ka, kc, c0, fun I B hI hB => by rw [← hI, ← hB]; exact searchS _ _ ks x w hn h1 hr⟩

theorem six {w : World} {b : Nat} {v0 v1 v2 v3 v4 v5 : Value} {t : TypeId} (h : w.heap[b]? = some (.cells #[v0, v1, v2, v3, v4, v5] t (0, 0))) :
    (w.cell? ⟨b, 0, none⟩ = some v0 ∧ w.cell? ⟨b, 1, none⟩ = some v1 ∧ w.cell? ⟨b, 2, none⟩ = some v2 ∧ w.cell? ⟨b, 3, none⟩ = some v3 ∧ w.cell? ⟨b, 4, none⟩ = some v4 ∧ w.cell? ⟨b, 5, none⟩ = some v5) ∧
    (w.frozen? ⟨b, 0, none⟩ = false ∧ w.frozen? ⟨b, 1, none⟩ = false ∧ w.frozen? ⟨b, 2, none⟩ = false ∧ w.frozen? ⟨b, 3, none⟩ = false ∧ w.frozen? ⟨b, 4, none⟩ = false ∧ w.frozen? ⟨b, 5, none⟩ = false) := by
  refine ⟨⟨?_, ?_, ?_, ?_, ?_, ?_⟩, ⟨?_, ?_, ?_, ?_, ?_, ?_⟩⟩ <;> simp [World.cell?, World.frozen?, h]

theorem six_set {w : World} {b : Nat} {a0 a1 a2 a3 a4 a5 : Value} {t : TypeId} (h : w.heap[b]? = some (.cells #[a0, a1, a2, a3, a4, a5] t (0, 0))) (v0 v1 v2 v3 v4 v5 : Value) :
    ((((((w.setCell ⟨b, 0, none⟩ v0).setCell ⟨b, 1, none⟩ v1).setCell ⟨b, 2, none⟩ v2).setCell ⟨b, 3, none⟩ v3).setCell ⟨b, 4, none⟩ v4).setCell ⟨b, 5, none⟩ v5).heap[b]? = some (.cells #[v0, v1, v2, v3, v4, v5] t (0, 0)) := by
  rw [heap_setCell_same _ b 5 _ t v5 (heap_setCell_same _ b 4 _ t v4 (heap_setCell_same _ b 3 _ t v3 (heap_setCell_same _ b 2 _ t v2 (heap_setCell_same _ b 1 _ t v1 (heap_setCell_same _ b 0 _ t v0 h)))))]
  rfl

theorem six_below {b : Nat} {A W : World} {B : Nat} (h : Below b A W) (hB : b ≤ B) (v0 v1 v2 v3 v4 v5 : Value) :
    Below b A ((((((W.setCell ⟨B, 0, none⟩ v0).setCell ⟨B, 1, none⟩ v1).setCell ⟨B, 2, none⟩ v2).setCell ⟨B, 3, none⟩ v3).setCell ⟨B, 4, none⟩ v4).setCell ⟨B, 5, none⟩ v5) :=
  (((((h.setCell (p := ⟨B, 0, none⟩) hB v0).setCell (p := ⟨B, 1, none⟩) hB v1).setCell (p := ⟨B, 2, none⟩) hB v2).setCell (p := ⟨B, 3, none⟩) hB v3).setCell (p := ⟨B, 4, none⟩) hB v4).setCell (p := ⟨B, 5, none⟩) hB v5

set_option maxRecDepth 100000 in
set_option maxHeartbeats 4000000 in
theorem atInSR (w : World) (p : Nat) (most : Int) (F : Nat → Prop) (ks : List ByteArray) (vs : List RC) (i : Nat) (k : ByteArray) (v : RC) (hk : ks[i]? = some k) (hv : vs[i]? = some v) (hn : ks.length ≤ 1000000) (h : MSR w p most F ks vs) :
    Calls Try.prog 64 #[.pointer (some ⟨p, 1, none⟩), .int .i64 i] w fun e w' => e = .returned (.tuple #[.string k, .agg #[.string v.key, .int .i64 v.t, .int .i64 v.i, .int .i64 v.q, .string v.o, .slice v.a v.len v.c], .bool true]) ∧ Below w.heap.size w w' := by
  have bl : ∀ o, Kept (fun _ => False) w (w.alloc o) := fun o => (Kept.refl _ w).alloc o
  have HK := Lib.hid (fun o => keyInSR (w.alloc o) p most F ks vs i k hn hk (h.kept (bl o) (fun _ _ h => h)))
  have hi := (List.getElem?_eq_some_iff.1 hk).1
  have hpl := h.lt
  obtain ⟨kv, vv, h0, h1, h2, _, _, _, f0, _, f2, _⟩ := h
  obtain ⟨g, c, cur, rfl, hg, hs, hnc, hm, ht, hx2⟩ := ownsM_block h2 (by simp; omega)
  have c1 := cell2_of_three h0
  simp only [List.length_map] at c1
  have fl : ∀ r u, r < 6 → v.cs[r]? = some u → w.cell? ⟨g, i * 6 + r, none⟩ = some u := fun r u hr hu => owns_cell hg ht (by rw [flatR_at hv hr]; exact hu)
  have e0 := fl 0 _ (by omega) rfl
  have e1 := fl 1 _ (by omega) rfl
  have e2 := fl 2 _ (by omega) rfl
  have e3 := fl 3 _ (by omega) rfl
  have e4 := fl 4 _ (by omega) rfl
  have e5 := fl 5 _ (by omega) rfl
  have hi' : (i : Int) < (ks.length : Int) := by omega
  have h0i : (0 : Int) ≤ (i : Int) := by omega
  have hpw := hpl p f0
  have hgw := lt_of_block hg
  clear h0 h1 h2 hv hg hs ht hnc hm hi hx2 hk fl bl hpl f0 f2
  generalize ks.length = n at *
  go_enter Try.func64, Try.ntmps64
  go_wp2_with (go_at_call 82; refine (HK.out _).mono ?_; rintro e w' ⟨rfl, rfl⟩)
  generalize hW : World.alloc w _ = W
  have hs : W.heap.size = w.heap.size + 1 := by rw [← hW]; simp
  have bl : Below w.heap.size w W := by rw [← hW]; exact (Below.refl _ _).alloc (Nat.le_refl _) _
  have hres : W.heap[w.heap.size]? = some (.cells #[.string ⟨#[]⟩, .int .i64 0, .int .i64 0, .int .i64 0, .string ⟨#[]⟩, .slice none 0 0] 39 (0, 0)) := by rw [← hW]; exact heap_alloc_new w _
  have c1' := (bl.cell (p := ⟨p, 2, none⟩) hpw).trans c1
  have e0' := (bl.cell (p := ⟨g, i * 6 + 0, none⟩) hgw).trans e0
  have e1' := (bl.cell (p := ⟨g, i * 6 + 1, none⟩) hgw).trans e1
  have e2' := (bl.cell (p := ⟨g, i * 6 + 2, none⟩) hgw).trans e2
  have e3' := (bl.cell (p := ⟨g, i * 6 + 3, none⟩) hgw).trans e3
  have e4' := (bl.cell (p := ⟨g, i * 6 + 4, none⟩) hgw).trans e4
  have e5' := (bl.cell (p := ⟨g, i * 6 + 5, none⟩) hgw).trans e5
  rw [Nat.add_zero] at e0'
  have BL := Lib.hid bl
  obtain ⟨⟨y0, y1, y2, y3, y4, y5⟩, ⟨z0, z1, z2, z3, z4, z5⟩⟩ := six hres
  have hp1 : p ≠ w.heap.size := by omega
  have hg1 : g ≠ w.heap.size := by omega
  have HRES := Lib.hid hres
  clear hW bl c1 e0 e1 e2 e3 e4 e5 HK hres
  go_region_with (fail)
  all_goals
    clear y0 y1 y2 y3 y4 y5 e0' e1' e2' e3' e4' e5' c1' z0 z1 z2 z3 z4 z5
    have hb6 := six_below (W := W) BL.out (Nat.le_refl _) (.string v.key) (.int .i64 v.t) (.int .i64 v.i) (.int .i64 v.q) (.string v.o) (.slice v.a v.len v.c)
    have h6 := six_set HRES.out (.string v.key) (.int .i64 v.t) (.int .i64 v.i) (.int .i64 v.q) (.string v.o) (.slice v.a v.len v.c)
    generalize World.setCell _ (⟨w.heap.size, 5, none⟩ : Addr) _ = W6 at h6 hb6 ⊢
    have P := Lib.hid (hb6.trans (show Below w.heap.size W6 W6.drew from ⟨rfl, rfl, rfl, Nat.le_refl _, fun _ _ => rfl⟩))
    obtain ⟨⟨y0, y1, y2, y3, y4, y5⟩, -⟩ := six (show W6.drew.heap[w.heap.size]? = _ from h6)
    clear hb6 h6 BL HRES
    go_wp2
    exact bodyPost_ret (v := .tuple #[.string k, .agg #[.string v.key, .int .i64 v.t, .int .i64 v.i, .int .i64 v.q, .string v.o, .slice v.a v.len v.c], .bool true]) (by simp [results, Try.results64, go_sem, y0, y1, y2, y3, y4, y5]) rfl ⟨rfl, P.out⟩

end Go.Proofs.Ytikifgenfpkidaa
