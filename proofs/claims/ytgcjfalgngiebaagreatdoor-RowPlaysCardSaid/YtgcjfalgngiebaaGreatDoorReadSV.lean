/-
  No statement: what sorted.Map[string, value.Value] does that only reads it.
-/
import Derived.Test.YtgcjfalgngiebaaGreatDoorMapM
import Derived.Test.YtgcjfalgngiebaaGreatDoorSearchS
import Derived.Test.YtgcjfalgngiebaaGreatDoorInsV
import Derived.Deep.QuietTactic
import Derived.BigQuiet
import Derived.StillTailTactics
import Derived.Deep.RegionHeld3
import Derived.Test.YtgcjfalgngiebaaGreatDoorVCheck
namespace Go.Proofs.YtgcjfalgngiebaaGreatDoor
open Go.RowKit

/-- The four cells of a value. -/
structure VC where
  k : Int
  n : Int
  s : ByteArray
  y : Option Addr
  len : Nat
  c : Nat

def VC.cs (v : VC) : List Value := [.int .i64 v.k, .int .i64 v.n, .string v.s, .slice v.y v.len v.c]
def VC.v (v : VC) : Value := .agg #[.int .i64 v.k, .int .i64 v.n, .string v.s, .slice v.y v.len v.c]

/-- The cells of values, one behind the other. -/
def flatV : List VC → List Value
  | [] => []
  | v :: r => v.cs ++ flatV r

theorem flatV_len : ∀ l : List VC, (flatV l).length = l.length * 4
  | [] => rfl
  | v :: r => by rw [flatV, List.length_append, flatV_len r]; show 4 + _ = (r.length + 1) * 4; omega

theorem flatV_append : ∀ a b : List VC, flatV (a ++ b) = flatV a ++ flatV b
  | [], b => rfl
  | v :: r, b => by rw [List.cons_append, flatV, flatV_append r b, flatV, List.append_assoc]

theorem flatV_take : ∀ (l : List VC) (i : Nat), flatV (l.take i) = (flatV l).take (i * 4)
  | [], i => by simp [flatV]
  | v :: r, 0 => by simp [flatV]
  | v :: r, i + 1 => by
    rw [List.take_succ_cons, flatV, flatV, flatV_take r i, show (i + 1) * 4 = i * 4 + 1 + 1 + 1 + 1 by omega]
    rfl

theorem flatV_drop : ∀ (l : List VC) (i : Nat), flatV (l.drop i) = (flatV l).drop (i * 4)
  | [], i => by simp [flatV]
  | v :: r, 0 => by simp [flatV]
  | v :: r, i + 1 => by
    rw [List.drop_succ_cons, flatV, flatV_drop r i, show (i + 1) * 4 = i * 4 + 1 + 1 + 1 + 1 by omega]
    rfl

theorem flatV_at {l : List VC} {i r : Nat} {v : VC} (h : l[i]? = some v) (hr : r < 4) : (flatV l)[i * 4 + r]? = v.cs[r]? := by
  obtain ⟨hi, hv⟩ := List.getElem?_eq_some_iff.1 h
  have e : l = l.take i ++ v :: l.drop (i + 1) := by rw [← hv]; exact (List.take_append_drop i l).symm.trans (by rw [List.drop_eq_getElem_cons hi])
  have hl : (flatV (l.take i)).length = i * 4 := by rw [flatV_len, List.length_take, Nat.min_eq_left (by omega)]
  conv => lhs; rw [e, flatV_append]
  rw [List.getElem?_append_right (by omega), hl, show i * 4 + r - i * 4 = r by omega, flatV, List.getElem?_append_left (by show r < 4; omega)]

theorem flatV_one (l : List VC) : ∀ u ∈ flatV l, u.oneCell' = true := by
  induction l with
  | nil => intro u hu; cases hu
  | cons v r ih =>
    intro u hu
    rw [flatV, List.mem_append] at hu
    rcases hu with hu | hu
    · simp only [VC.cs, List.mem_cons, List.not_mem_nil, or_false] at hu
      rcases hu with rfl | rfl | rfl | rfl <;> rfl
    · exact ih u hu

/-- This seat's map. -/
def MSV (w : World) (p : Nat) (F : Nat → Prop) (ks : List ByteArray) (vs : List VC) : Prop :=
  MapInM 4 w 103 9 28 p F (ks.map Value.string) (flatV vs)

theorem MSV.kept {w w' : World} {p : Nat} {F S : Nat → Prop} {ks : List ByteArray} {vs : List VC} (h : MSV w p F ks vs) (hk : Kept S w w') (hS : ∀ k, F k → ¬ S k) : MSV w' p F ks vs := MapInM.kept h hk hS
theorem MSV.lt {w : World} {p : Nat} {F : Nat → Prop} {ks : List ByteArray} {vs : List VC} (h : MSV w p F ks vs) : ∀ k, F k → k < w.heap.size := MapInM.lt h
theorem MSV.len {w : World} {p : Nat} {F : Nat → Prop} {ks : List ByteArray} {vs : List VC} (h : MSV w p F ks vs) : vs.length = ks.length := by
  have := MapInM.len h
  rw [flatV_len, List.length_map] at this
  omega

set_option maxHeartbeats 1000000 in
theorem newSV (w : World) : Calls Tryz.prog 49 #[] w fun e w' =>
    e = .returned (.pointer (some ⟨w.heap.size, 0, none⟩)) ∧ MSV w' w.heap.size (fun k => k = w.heap.size) [] [] ∧ Kept (fun _ => False) w w' := by
  have H : Calls Tryz.prog 49 #[] w fun e w' => e = .returned (.pointer (some ⟨w.heap.size, 0, none⟩)) ∧ w' = w.alloc (.cells #[.slice none 0 0, .slice none 0 0] 103) := by
    go_enter Tryz.func49, Tryz.ntmps49
    go_wp2
    go_ret
    exact ⟨rfl, rfl⟩
  refine H.mono ?_
  rintro e w' ⟨rfl, rfl⟩
  refine ⟨rfl, ⟨_, _, heap_alloc_new w _, World.ownsRow_nil _ _ _ _, World.ownsRow_nil _ _ _ _, ?_, ?_, ?_, rfl, ?_, ?_, ?_⟩, (Kept.refl _ w).alloc _⟩
  · simp [Value.ownBlock]
  · simp [Value.ownBlock]
  · simp [Value.ownBlock]
  · simp [Value.ownBlock]
  · simp [Value.ownBlock]
  · intro k hk; subst hk; simp

set_option maxHeartbeats 1000000 in
theorem lenSV (w : World) (p : Nat) (F : Nat → Prop) (ks : List ByteArray) (vs : List VC) (h : MSV w p F ks vs) : Calls Tryz.prog 26 #[.pointer (some ⟨p, 0, none⟩)] w fun e w' =>
    e = .returned (.int .i64 (ks.length : Nat)) ∧ w = w' := by
  obtain ⟨kv, vv, h0, h1, h2, _⟩ := h
  obtain ⟨ka, kc, rfl⟩ := owns_slice h1
  have c0 := cell0_of_two h0
  simp only [List.length_map] at c0
  clear h0 h1 h2
  go_enter Tryz.func26, Tryz.ntmps26
  go_wp2
  go_ret
  exact ⟨rfl, rfl⟩

set_option maxHeartbeats 1000000 in
theorem keyInSV (w : World) (p : Nat) (F : Nat → Prop) (ks : List ByteArray) (vs : List VC) (i : Nat) (k : ByteArray) (hn : ks.length ≤ 1000000) (hk : ks[i]? = some k) (h : MSV w p F ks vs) :
    Calls Tryz.prog 74 #[.pointer (some ⟨p, 0, none⟩), .int .i64 i] w fun e w' => e = .returned (.tuple #[.string k, .bool true]) ∧ w = w' := by
  obtain ⟨kv, vv, h0, h1, h2, _⟩ := h
  have hi := (List.getElem?_eq_some_iff.1 hk).1
  obtain ⟨g, c, cur, rfl, hg, hs, hnc, hm, ht, hx⟩ := owns_block h1 (by simp; omega)
  have c0 := cell0_of_two h0
  simp only [List.length_map] at c0
  have ci : w.cell? ⟨g, i, none⟩ = some (.string k) := owns_cell hg ht (by rw [List.getElem?_map, hk]; rfl)
  have hi' : (i : Int) < (ks.length : Int) := by omega
  generalize ks.length = n at *
  have h0i : (0 : Int) ≤ (i : Int) := by omega
  clear h0 h1 h2 hk hg hs ht hx hnc hm
  go_enter Tryz.func74, Tryz.ntmps74
  go_wp2
  go_ret2
  exact ⟨rfl, rfl⟩

/-- The search over a map's keys, under names. -/
theorem lookSV {w : World} {p : Nat} {F : Nat → Prop} {ks : List ByteArray} {vs : List VC} (h : MSV w p F ks vs) (hn : ks.length ≤ 1000000) (hr : Rising lsS ks) (x : ByteArray) :
    ∃ ka kc, w.cell? ⟨p, 0, none⟩ = some (.slice ka ks.length kc) ∧ ∀ (I : Nat) (B : Bool), pos lsS ks x = I → has ks x = B →
      Calls Tryz.prog 50 #[.slice ka ks.length kc, .string x] w fun e w' => e = .returned (.tuple #[.int .i64 I, .bool B]) ∧ ∃ q, w' = w.drewN q := by
  obtain ⟨kv, vv, h0, h1, h2, _⟩ := h
  obtain ⟨ka, kc, rfl⟩ := owns_slice h1
  have c0 := cell0_of_two h0
  simp only [List.length_map] at c0 h1
  exact ⟨ka, kc, c0, fun I B hI hB => by rw [← hI, ← hB]; exact searchS _ _ ks x w hn h1 hr⟩

theorem four_below4 {b : Nat} {A W : World} {B : Nat} (h : Below b A W) (hB : b ≤ B) (v0 v1 v2 v3 : Value) :
    Below b A ((((W.setCell ⟨B, 0, none⟩ v0).setCell ⟨B, 1, none⟩ v1).setCell ⟨B, 2, none⟩ v2).setCell ⟨B, 3, none⟩ v3) :=
  (((h.setCell (p := ⟨B, 0, none⟩) hB v0).setCell (p := ⟨B, 1, none⟩) hB v1).setCell (p := ⟨B, 2, none⟩) hB v2).setCell (p := ⟨B, 3, none⟩) hB v3

theorem cell_four {W : World} {B p : Nat} (hp : p ≠ B) (o : Nat) (v0 v1 v2 v3 : Value) :
    ((((W.setCell ⟨B, 0, none⟩ v0).setCell ⟨B, 1, none⟩ v1).setCell ⟨B, 2, none⟩ v2).setCell ⟨B, 3, none⟩ v3).cell? ⟨p, o, none⟩ = W.cell? ⟨p, o, none⟩ := by
  have hne : ∀ k, (⟨B, k, none⟩ : Addr) ≠ ⟨p, o, none⟩ := fun k e => hp (by cases e; rfl)
  rw [World.cell?_setCell_other _ _ _ _ (hne 3), World.cell?_setCell_other _ _ _ _ (hne 2), World.cell?_setCell_other _ _ _ _ (hne 1), World.cell?_setCell_other _ _ _ _ (hne 0)]

set_option maxRecDepth 100000 in
set_option maxHeartbeats 4000000 in
theorem atInSV (w : World) (p : Nat) (F : Nat → Prop) (ks : List ByteArray) (vs : List VC) (i : Nat) (k : ByteArray) (v : VC) (hk : ks[i]? = some k) (hv : vs[i]? = some v) (hn : ks.length ≤ 1000000) (h : MSV w p F ks vs) :
    Calls Tryz.prog 54 #[.pointer (some ⟨p, 0, none⟩), .int .i64 i] w fun e w' => e = .returned (.tuple #[.string k, .agg #[.int .i64 v.k, .int .i64 v.n, .string v.s, .slice v.y v.len v.c], .bool true]) ∧ Below w.heap.size w w' := by
  have bl : ∀ o, Kept (fun _ => False) w (w.alloc o) := fun o => (Kept.refl _ w).alloc o
  have HK := Lib.hid (fun o => keyInSV (w.alloc o) p F ks vs i k hn hk (h.kept (bl o) (fun _ _ h => h)))
  have hi := (List.getElem?_eq_some_iff.1 hk).1
  have hpl := h.lt
  obtain ⟨kv, vv, h0, h1, h2, _, _, _, f0, _, f2, _⟩ := h
  obtain ⟨g, c, cur, rfl, hg, hs, hnc, hm, ht, hx2⟩ := ownsM_block h2 (by simp; omega)
  have c1 := cell1_of_two h0
  simp only [List.length_map] at c1
  have fl : ∀ r u, r < 4 → v.cs[r]? = some u → w.cell? ⟨g, i * 4 + r, none⟩ = some u := fun r u hr hu => owns_cell hg ht (by rw [flatV_at hv hr]; exact hu)
  have e0 := fl 0 _ (by omega) rfl
  have e1 := fl 1 _ (by omega) rfl
  have e2 := fl 2 _ (by omega) rfl
  have e3 := fl 3 _ (by omega) rfl
  have hi' : (i : Int) < (ks.length : Int) := by omega
  have h0i : (0 : Int) ≤ (i : Int) := by omega
  have hpw := hpl p f0
  have hgw := lt_of_block hg
  clear h0 h1 h2 hv hg hs ht hnc hm hi hx2 hk fl bl hpl f0 f2
  generalize ks.length = n at *
  go_enter Tryz.func54, Tryz.ntmps54
  go_wp2_with (go_at_call 74; refine (HK.out _).mono ?_; rintro e w' ⟨rfl, rfl⟩)
  generalize hW : World.alloc w _ = W
  have hs : W.heap.size = w.heap.size + 1 := by rw [← hW]; simp
  have bl : Below w.heap.size w W := by rw [← hW]; exact (Below.refl _ _).alloc (Nat.le_refl _) _
  have hres : W.heap[w.heap.size]? = some (.cells #[.int .i64 0, .int .i64 0, .string ⟨#[]⟩, .slice none 0 0] 28 (0, 0)) := by rw [← hW]; exact heap_alloc_new w _
  have c1' := (bl.cell (p := ⟨p, 1, none⟩) hpw).trans c1
  have e0' := (bl.cell (p := ⟨g, i * 4 + 0, none⟩) hgw).trans e0
  have e1' := (bl.cell (p := ⟨g, i * 4 + 1, none⟩) hgw).trans e1
  have e2' := (bl.cell (p := ⟨g, i * 4 + 2, none⟩) hgw).trans e2
  have e3' := (bl.cell (p := ⟨g, i * 4 + 3, none⟩) hgw).trans e3
  rw [Nat.add_zero] at e0'
  have BL := Lib.hid bl
  obtain ⟨⟨y0, y1, y2, y3⟩, ⟨z0, z1, z2, z3⟩⟩ := four hres
  have hp1 : p ≠ w.heap.size := by omega
  have hg1 : g ≠ w.heap.size := by omega
  have cc : W.drew.cell? ⟨p, 1, none⟩ = some (.slice (some ⟨g, 0, none⟩) n c) ∧ W.drew.cell? ⟨g, i * 4, none⟩ = some (.int .i64 v.k) ∧ W.drew.cell? ⟨g, i * 4 + 1, none⟩ = some (.int .i64 v.n) ∧ W.drew.cell? ⟨g, i * 4 + 2, none⟩ = some (.string v.s) ∧ W.drew.cell? ⟨g, i * 4 + 3, none⟩ = some (.slice v.y v.len v.c) := ⟨c1', e0', e1', e2', e3'⟩
  clear hW bl c1 e0 e1 e2 e3 HK hres
  clear cc
  go_region_with (fail)
  all_goals
    have P := Lib.hid (p := Below w.heap.size w ((((W.drew.setCell ⟨w.heap.size, 0, none⟩ (.int .i64 v.k)).setCell ⟨w.heap.size, 1, none⟩ (.int .i64 v.n)).setCell ⟨w.heap.size, 2, none⟩ (.string v.s)).setCell ⟨w.heap.size, 3, none⟩ (.slice v.y v.len v.c))) (four_below4 (W := W.drew) (BL.out.trans (show Below w.heap.size W W.drew from ⟨rfl, rfl, rfl, Nat.le_refl _, fun _ _ => rfl⟩)) (Nat.le_refl _) _ _ _ _)
    go_wp2
    exact bodyPost_ret (v := .tuple #[.string k, .agg #[.int .i64 v.k, .int .i64 v.n, .string v.s, .slice v.y v.len v.c], .bool true]) (by simp [results, Tryz.results54, go_sem, *]) rfl ⟨rfl, P.out⟩

end Go.Proofs.YtgcjfalgngiebaaGreatDoor
