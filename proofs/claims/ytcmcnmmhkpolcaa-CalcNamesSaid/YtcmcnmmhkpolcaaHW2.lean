/-
  No statement: what these walks need, of earlier texts: WTwin, WMapD, WCheck, WByName, WText, RCheck, Texts.
-/
import Derived.Test.YtcmcnmmhkpolcaaHW1
import Derived.LoopTactic
import Derived.Deep.QuietTactic
import Derived.BigQuiet
import Derived.StillTailTactics
import Derived.Deep.RegionHeld3
import Derived.Lib.SliceRun
import Derived.Deep.LoopGhost
import Derived.Deep.Cut
import Derived.Test.YtcmcnmmhkpolcaaProg
import Derived.WalkKit
import Derived.WalkSpells
import Derived.IntWalk
import Derived.Lib.Hide
import Derived.RangeFuncBox
import Derived.Maps.AppendAt
import Derived.Laws.IdiomStrings
import Derived.RangeFuncRecord
import Derived.Deep.Slices
import Derived.Test.YtcmcnmmhkpolcaaShelf
import Derived.Deep.Fields
import Derived.ChangeSame
namespace Go.Proofs.Ytcmcnmmhkpolcaa.Wr
section
open Go.RowKit

/-- A list of numbers made anew. -/
def ClonePost (w : World) (len : Nat) (z : Nat → Int) (e : Ending) (w' : World) : Prop :=
  (∃ a c, e = .returned (.slice a len c) ∧ Reads w' a len z ∧ ∀ b, a = some b → w.heap.size ≤ b.block) ∧ Below w.heap.size w w'

theorem cloneInfo : (Try.prog.info? 2).map (fun i => (i.zero, i.size, i.bytes)) = some (some (.int .i64 0), 1, 8) := by kernel_rfl

theorem numsOf (z : Nat → Int) (len : Nat) : ∀ u ∈ (List.range len).map (fun j => Value.int .i64 (z j)), u.oneCell' = true := by
  intro u hu
  obtain ⟨j, _, rfl⟩ := List.mem_map.1 hu
  rfl

theorem reads_own {w : World} {base : Nat} {a : Option Addr} {len l c : Nat} {z : Nat → Int} (h : w.ownsRow base 2 1 (.slice a l c) len ((List.range len).map (fun j => Value.int .i64 (z j)))) : l = len ∧ Reads w a len z ∧ ∀ b, a = some b → base ≤ b.block := by
  rcases h.2 with ⟨h, h'⟩ | ⟨g, cap, cur, hv, hb, hg, hnc, hm, _, ht⟩
  · simp only [Value.slice.injEq] at h
    obtain ⟨rfl, rfl, rfl⟩ := h
    subst h'
    exact ⟨rfl, ⟨Nat.zero_le _, .inl rfl⟩, fun b hb => by cases hb⟩
  · simp only [Value.slice.injEq] at hv
    obtain ⟨rfl, rfl, rfl⟩ := hv
    refine ⟨rfl, ⟨Nat.le_trans hnc hm, .inr ⟨g, 0, rfl, fun j hj => ?_⟩⟩, fun b hb' => by cases hb'; exact hb⟩
    have hjj : ((List.range l).map (fun j => Value.int .i64 (z j)))[j]? = some (.int .i64 (z j)) := by simp [hj]
    rw [Nat.zero_add, cell_of_row w g j cur _ (0, 0) hg]
    rw [Nat.mul_one] at ht
    rw [← ht, List.getElem?_take, if_pos hj] at hjj
    simpa using hjj

set_option maxRecDepth 100000 in
set_option maxHeartbeats 2000000 in
theorem clone_any (a : Option Addr) (len cap : Nat) (z : Nat → Int) (hl : len ≤ 1000000) (w : World) (hr : Reads w a len z) :
    Calls Try.prog 89 #[.slice a len cap] w (ClonePost w len z) := by
  obtain ⟨i0, hi, hz0, hz1, hz2⟩ := info_parts cloneInfo
  have und : Try.prog.underlying 43 = some (.slice 2) := Try.underlying43
  cases a with
  | none =>
    have h0 : len = 0 := by
      rcases hr.2 with h | ⟨b, off, h, _⟩
      · exact h
      · cases h
    subst h0
    have P := Lib.hid (show ClonePost w 0 z (.returned (.slice none 0 0)) w from ⟨⟨none, 0, rfl, ⟨Nat.zero_le _, .inl rfl⟩, fun b h => by cases h⟩, Below.refl _ _⟩)
    clear hr
    go_enter Try.func89, Try.ntmps89
    go_wp2
    rw [Lib.run_eql_slice_nil w _ _ _ _ _ _ _ und]
    simp only [Result.andThen]
    rw [Oper.upon_value]
    go_wp2_with fail
    go_ret
    exact P.out
  | some x =>
    have F := Lib.hid (p := ∀ w', Below w.heap.size w w' → From w' (.slice (some x) len cap) len ((List.range len).map (fun j => Value.int .i64 (z j)))) (fun w' hb => by
      refine .inr ⟨x, cap, rfl, by simp, fun j u hj => ?_⟩
      rcases (hr.kept hb).2 with h0 | ⟨b, off, hx, hc⟩
      · subst h0; simp at hj
      · obtain rfl : x = ⟨b, off, none⟩ := by simpa using hx
        have hjl : j < len := by
          rcases Nat.lt_or_ge j len with h | h
          · exact h
          · rw [List.getElem?_eq_none (by simpa using h)] at hj; cases hj
        rw [Addr.add_lit, hc j hjl]
        simpa [hjl] using hj)
    clear hr
    go_enter Try.func89, Try.ntmps89
    have bA : Below w.heap.size w (w.alloc (.cells #[] 2)) := (Below.refl _ _).alloc (Nat.le_refl _) _
    have BA := Lib.hid bA
    have OA := Lib.hid (show (w.alloc (.cells #[] 2)).ownsRow w.heap.size 2 1 (.slice (some ⟨w.heap.size, 0, none⟩) 0 0) 0 [] from ⟨rfl, .inr ⟨w.heap.size, 0, #[], rfl, Nat.le_refl _, heap_alloc_new w _, Nat.le_refl _, Nat.zero_le _, rfl, rfl⟩⟩)
    clear bA
    go_wp2
    rw [Lib.run_eql_slice_nil w _ _ _ _ _ _ _ und]
    simp only [Result.andThen]
    rw [Oper.upon_value]
    go_wp2_with (at_builtin; refine wpList_append_from rfl _ _ 43 rfl und hi hz0 hz1 hz2 rfl _ _ 0 len [] _ rfl rfl OA.out (F.out _ BA.out) (numsOf z len) (by unfold maxLen; omega) (by omega) (by simp) ?_)
    intro v' w2 ho hg _
    obtain ⟨va, vl, vc, rfl⟩ : ∃ a l c, v' = .slice a l c := by
      rcases ho.2 with ⟨h, _⟩ | ⟨g, cap, _, h, _⟩
      · exact ⟨_, _, _, h⟩
      · exact ⟨_, _, _, h⟩
    obtain ⟨rfl, hrd, hbl⟩ := reads_own ho
    have P := Lib.hid (show ClonePost w vl z (.returned (.slice va vl vc)) w2 from ⟨⟨va, vc, rfl, hrd, hbl⟩, BA.out.grown hg (by simp) (fun k hk => by simp [Value.ownBlock] at hk; omega)⟩)
    clear ho hg hrd hbl
    go_wp2
    go_ret
    exact P.out

theorem four_kept (W : World) (B : Nat) (v0 v1 v2 v3 : Value) : Kept (fun k => k = B) W ((((W.setCell ⟨B, 0, none⟩ v0).setCell ⟨B, 1, none⟩ v1).setCell ⟨B, 2, none⟩ v2).setCell ⟨B, 3, none⟩ v3) :=
  ((((Kept.refl (fun k => k = B) W).setCell (S := fun k => k = B) (p := ⟨B, 0, none⟩) (.inl rfl) v0).setCell (S := fun k => k = B) (p := ⟨B, 1, none⟩) (.inl rfl) v1).setCell (S := fun k => k = B) (p := ⟨B, 2, none⟩) (.inl rfl) v2).setCell (S := fun k => k = B) (p := ⟨B, 3, none⟩) (.inl rfl) v3

theorem Reads.keptS {S : Nat → Prop} {w w' : World} {a : Option Addr} {len : Nat} {z : Nat → Int} (h : Reads w a len z) (hk : Kept S w w') (hS : ∀ b, a = some b → ¬ S b.block) : Reads w' a len z := by
  refine ⟨h.1, ?_⟩
  rcases h.2 with h0 | ⟨b, off, rfl, hc⟩
  · exact .inl h0
  · exact .inr ⟨b, off, rfl, fun j hj => hk.cell (hc j hj) (show ¬ S b from hS ⟨b, off, none⟩ rfl)⟩

/-- What a twin holds of an attribute's value: what its Kind names. -/
def twN (k n : Int) : Int := if k = 1 then n else 0

def twS (k : Int) (s : ByteArray) : ByteArray := if k = 2 then s else ⟨#[]⟩

def twL (k : Int) (len : Nat) : Nat := if k = 3 then len else 0

/-- A value made anew. -/
def TwPost (w : World) (k n : Int) (s : ByteArray) (len : Nat) (z : Nat → Int) (e : Ending) (w' : World) : Prop :=
  (∃ a c, e = .returned (.agg #[.int .i64 k, .int .i64 (twN k n), .string (twS k s), .slice a (twL k len) c]) ∧ (∀ b, a = some b → w.heap.size ≤ b.block) ∧ ∀ w3, Kept (fun b => b = w.heap.size + 1) w' w3 → Reads w3 a (twL k len) z) ∧ Below w.heap.size w w'

theorem nil_reads (w : World) (z : Nat → Int) : Reads w none 0 z := ⟨Nat.zero_le _, .inl rfl⟩

theorem two_boxes (w : World) (o1 o2 : Obj) : Below w.heap.size w ((w.alloc o1).alloc o2) ∧ ((w.alloc o1).alloc o2).heap[w.heap.size]? = some o1 ∧ ((w.alloc o1).alloc o2).heap[w.heap.size + 1]? = some o2 ∧ ((w.alloc o1).alloc o2).heap.size = w.heap.size + 2 := by
  refine ⟨((Below.refl _ _).alloc (Nat.le_refl _) _).alloc (by simp) _, (Below.heap_alloc _ _ _ (by simp)).trans (heap_alloc_new w _), ?_, by simp⟩
  have := heap_alloc_new (w.alloc o1) o2
  rwa [World.size_alloc] at this

set_option maxRecDepth 100000 in
set_option maxHeartbeats 4000000 in
theorem twin_any (k n : Int) (s : ByteArray) (a : Option Addr) (len cap : Nat) (z : Nat → Int) (hl : len ≤ 1000000) (w : World) (hr : Reads w a len z) :
    Calls Try.prog 78 #[.agg #[.int .i64 k, .int .i64 n, .string s, .slice a len cap]] w (TwPost w k n s len z) := by
  have HB := Lib.hid (two_boxes w (.cells #[.int .i64 k, .int .i64 n, .string s, .slice a len cap] 49) (.cells #[.int .i64 0, .int .i64 0, .string ⟨#[]⟩, .slice none 0 0] 49))
  have R := Lib.hid hr
  clear hr
  by_cases h1 : k = 1
  · subst h1
    have P := Lib.hid (p := ∀ W, Below w.heap.size w W → TwPost w 1 n s len z (.returned (.agg #[.int .i64 1, .int .i64 n, .string ⟨#[]⟩, .slice none 0 0])) W) (fun W h => ⟨⟨none, 0, rfl, (fun b h => by cases h), fun w3 _ => nil_reads w3 z⟩, h⟩)
    go_enter Try.func78, Try.ntmps78
    go_wp2_with fail
    exact bodyPost_ret (v := .agg #[.int .i64 1, .int .i64 n, .string ⟨#[]⟩, .slice none 0 0]) (by simp [results, Try.results78, go_sem]) rfl (P.out _ (two_boxes w _ _).1)
  have q1 : (k == 1) = false := by simpa using h1
  by_cases h2 : k = 2
  · subst h2
    have P := Lib.hid (p := ∀ W, Below w.heap.size w W → TwPost w 2 n s len z (.returned (.agg #[.int .i64 2, .int .i64 0, .string s, .slice none 0 0])) W) (fun W h => ⟨⟨none, 0, rfl, (fun b h => by cases h), fun w3 _ => nil_reads w3 z⟩, h⟩)
    clear h1 q1
    go_enter Try.func78, Try.ntmps78
    go_wp2_with fail
    exact bodyPost_ret (v := .agg #[.int .i64 2, .int .i64 0, .string s, .slice none 0 0]) (by simp [results, Try.results78, go_sem]) rfl (P.out _ (two_boxes w _ _).1)
  have q2 : (k == 2) = false := by simpa using h2
  by_cases h3 : k = 3
  · subst h3
    clear h1 q1 h2 q2
    go_enter Try.func78, Try.ntmps78
    go_wp2_with fail
    generalize hW : World.alloc (World.alloc w _) _ = W
    rw [hW] at HB
    have hdr : Below W.heap.size W W.drew := ⟨rfl, rfl, rfl, Nat.le_refl _, fun _ _ => rfl⟩
    have C := Lib.hid (clone_any a len cap z hl W.drew (R.out.kept (HB.out.1.trans ⟨rfl, rfl, rfl, Nat.le_refl _, fun _ _ => rfl⟩)))
    have hs := HB.out.2.2.2
    obtain ⟨⟨x0, x1, x2, x3⟩, -⟩ := four HB.out.2.1
    clear hW hdr
    go_region_with (first
      | (go_at_call 89
         with_reducible refine C.out.mono ?_
         rintro e w2 ⟨⟨a2, c2, rfl, hr2, hb2⟩, hb⟩
         have hz2 := hb.size
         have hres := (hb.block (w.heap.size + 1) (by show _ < W.heap.size; omega)).trans HB.out.2.2.1
         clear x0 x1 x2 x3
         obtain ⟨⟨x0, x1, x2, x3⟩, -⟩ := four ((hb.block w.heap.size (by show _ < W.heap.size; omega)).trans HB.out.2.1)
         obtain ⟨⟨y0, y1, y2, y3⟩, ⟨z0, z1, z2, z3⟩⟩ := four hres
         have H2 := Lib.hid (And.intro hr2 (And.intro hb2 (HB.out.1.trans ((show Below w.heap.size W W.drew from ⟨rfl, rfl, rfl, Nat.le_refl _, fun _ _ => rfl⟩).trans (hb.mono (by show _ ≤ W.heap.size; omega))))))
         clear hr2 hb2 hb hres)
      | fail)
    all_goals
      have P := Lib.hid (p := TwPost w 3 n s len z (.returned (.agg #[.int .i64 3, .int .i64 0, .string ⟨#[]⟩, .slice a2 len c2])) ((((w2.setCell ⟨w.heap.size + 1, 0, none⟩ (.int .i64 3)).setCell ⟨w.heap.size + 1, 1, none⟩ (.int .i64 0)).setCell ⟨w.heap.size + 1, 2, none⟩ (.string ⟨#[]⟩)).setCell ⟨w.heap.size + 1, 3, none⟩ (.slice a2 len c2)))
        ⟨⟨a2, c2, rfl, (fun b hb => by have := H2.out.2.1 b hb; have hW' : W.drew.heap.size = w.heap.size + 2 := hs; omega), fun w3 k3 => H2.out.1.keptS ((four_kept w2 (w.heap.size + 1) _ _ _ _).trans k3 (fun _ h _ => h)) (fun b hb h => by have := H2.out.2.1 b hb; have h' : b.block = w.heap.size + 1 := h; have hW' : W.drew.heap.size = w.heap.size + 2 := hs; omega)⟩, four_below4 H2.out.2.2 (Nat.le_succ _) _ _ _ _⟩
      go_wp2
      exact bodyPost_ret (v := .agg #[.int .i64 3, .int .i64 0, .string ⟨#[]⟩, .slice a2 len c2]) (by simp [results, Try.results78, go_sem, *]) rfl P.out
  have q3 : (k == 3) = false := by simpa using h3
  have P := Lib.hid (p := ∀ W, Below w.heap.size w W → TwPost w k n s len z (.returned (.agg #[.int .i64 k, .int .i64 0, .string ⟨#[]⟩, .slice none 0 0])) W) (fun W h => ⟨⟨none, 0, by unfold twN twS twL; rw [if_neg h1, if_neg h2, if_neg h3], (fun b h => by cases h), fun w3 _ => by unfold twL; rw [if_neg h3]; exact nil_reads w3 z⟩, h⟩)
  clear h1 h2 h3
  go_enter Try.func78, Try.ntmps78
  go_wp2_with fail
  exact bodyPost_ret (v := .agg #[.int .i64 k, .int .i64 0, .string ⟨#[]⟩, .slice none 0 0]) (by simp [results, Try.results78, go_sem]) rfl (P.out _ (two_boxes w _ _).1)

end

section
open Go.RowKit

/-- A value that reads as data, its list apart from F. -/
def RO (w : World) (F : Nat → Prop) (e : AD × VC) : Prop :=
  e.2.k = e.1.k ∧ e.2.n = e.1.n ∧ e.2.s = e.1.s ∧ e.2.len = e.1.len ∧ Reads w e.2.y e.1.len e.1.z ∧ (e.1.len = 0 ∨ ∀ b, e.2.y = some b → ¬ F b.block)

theorem RO.kept {w w' : World} {F F' S : Nat → Prop} {e : AD × VC} (h : RO w F e) (hk : Kept S w w') (hS : ∀ k, S k → k < w.heap.size → F k) (hg : ∀ k, F' k → k < w.heap.size → F k) : RO w' F' e := by
  obtain ⟨h1, h2, h3, h4, hr, hF⟩ := h
  refine ⟨h1, h2, h3, h4, ?_, ?_⟩
  · refine ⟨hr.1, ?_⟩
    rcases hr.2 with h0 | ⟨b, off, hy, hc⟩
    · exact .inl h0
    · rcases hF with h0 | hF
      · exact .inl h0
      · refine .inr ⟨b, off, hy, fun j hj => hk.cell (hc j hj) (fun hs => hF _ hy (hS b hs (by have := World.block_lt_of_cell? w _ (hc j hj); simpa using this)))⟩
  · rcases hF with h0 | hF
    · exact .inl h0
    · rcases hr.2 with h0 | ⟨b, off, hy, hc⟩
      · exact .inl h0
      · by_cases hl : e.1.len = 0
        · exact .inl hl
        · refine .inr fun b' hb' h' => ?_
          rw [hy] at hb'
          cases hb'
          exact hF _ hy (hg _ h' (by have := World.block_lt_of_cell? w _ (hc 0 (by omega)); simpa using this))

/-- The data of an attribute that is made anew. -/
def twA (x : AD) : AD := ⟨x.m, x.k, twN x.k x.n, twS x.k x.s, twL x.k x.len, x.z⟩

end

section
open Go.RowKit

theorem leqS_yes {p m : ByteArray} (h : lsS p m = false) : (Op.bytesLess m.toList p.toList || m.toList == p.toList) = true := by
  by_cases e : lsS m p = true
  · have e' : Op.bytesLess m.toList p.toList = true := e
    rw [e']; rfl
  · rw [strictS.total m p (by simpa using e) h]; simp

theorem leqS_no {p m : ByteArray} (h : lsS p m = true) : Op.bytesLess m.toList p.toList = false ∧ (m.toList == p.toList) = false := by
  constructor
  · cases e : Op.bytesLess m.toList p.toList with
    | false => rfl
    | true => have := strictS.trans _ _ _ h e; rw [strictS.irrefl] at this; cases this
  · rw [beq_eq_false_iff_ne]
    intro e
    rw [bytes_eq e, strictS.irrefl] at h; cases h

end

section
open Go.RowKit

/-- The first k attributes, as twins. -/
def twsA (A : Nat → AD) (k : Nat) : List AD := (List.range k).map fun j => twA (A j)

/-- Names rise. -/
def RiseA (A : Nat → AD) (n : Nat) : Prop := ∀ i j, i < j → j < n → lsS (A i).m (A j).m = true

end

section
open Go.RowKit

theorem six {w : World} {b : Nat} {v0 v1 v2 v3 v4 v5 : Value} {t : TypeId} (h : w.heap[b]? = some (.cells #[v0, v1, v2, v3, v4, v5] t (0, 0))) :
    w.cell? ⟨b, 0, none⟩ = some v0 ∧ w.cell? ⟨b, 1, none⟩ = some v1 ∧ w.cell? ⟨b, 2, none⟩ = some v2 ∧ w.cell? ⟨b, 3, none⟩ = some v3 ∧ w.cell? ⟨b, 4, none⟩ = some v4 ∧ w.cell? ⟨b, 5, none⟩ = some v5 := by
  refine ⟨?_, ?_, ?_, ?_, ?_, ?_⟩ <;> simp [World.cell?, h]

end

section
open Go.RowKit

set_option maxRecDepth 100000 in
set_option maxHeartbeats 2000000 in
theorem rCheck_any (k n : Int) (s : ByteArray) (hm : s.size ≤ 281474976710656) (a : Option Addr) (len cap : Nat) (z : Nat → Int) (w : World) (hr : Reads w a len z) :
    Calls Try.prog 40 #[val k n s (.slice a len cap)] w fun e w' => e = .returned (.int .i64 (errV k s len z)) ∧ Below w.heap.size w w' := by
  unfold val
  by_cases h1 : k = 1
  · subst h1
    go_enter Try.func40, Try.ntmps40
    go_wp2_with fail
    go_ret
    exact ⟨rfl, (Below.refl _ _).alloc (Nat.le_refl _) _⟩
  have h1' : (k == 1) = false := by simpa using h1
  by_cases h2 : k = 2
  · subst h2
    have hlen : s.data.toList.length = s.size := by simp
    rw [show errV 2 s len z = errT s.data.toList from rfl]
    by_cases hl : 64 < s.size
    · have R := Lib.hid (show errT s.data.toList = 4 by unfold errT; rw [hlen, if_pos hl])
      clear hr hlen h1 h1'
      go_enter Try.func40, Try.ntmps40
      go_wp2
      go_ret
      exact ⟨ret_i64 R.out.symm, (Below.refl _ _).alloc (Nat.le_refl _) _⟩
    · have R := Lib.hid (show errT s.data.toList = if s.data.toList.any badB then 2 else 0 by unfold errT; rw [hlen, if_neg hl])
      clear hlen hr h1 h1'
      go_enter Try.func40, Try.ntmps40
      go_wp2
      go_loop [3] (fun i => ∃ k : Nat, k ≤ s.size ∧ i = .int .i64 k ∧ Hid (∀ j (hj : j < s.size), j < k → badB s[j] = false)) (fun i => s.size - (intOf i).toNat)
      case atStart => exact ⟨0, Nat.zero_le _, rfl, Lib.hid (fun j _ h => by omega)⟩
      case round =>
        obtain ⟨k, hk, rfl, hok⟩ := hrel
        by_cases hlt : k < s.size
        · obtain ⟨c, hc⟩ : ∃ c : Int, (s[k].toNat : Int) = c := ⟨_, rfl⟩
          have hb : badB s[k] = (decide (c < 32) || decide (126 < c) || decide (c = 34)) := by unfold badB; rw [hc]
          have hcase : c < 32 ∨ 126 < c ∨ c = 34 ∨ (32 ≤ c ∧ c ≤ 126 ∧ ¬ c = 34) := by omega
          rcases hcase with h1 | h1 | h1 | ⟨h1, h2, h3⟩
          · have h2 := h1
            have R2 := Lib.hid (R.out.trans (by rw [if_pos (anyT_yes hlt (by rw [hb]; first | (simp; done) | (simp; omega)))]))
            clear hb R hok
            go_wp2
            go_ret
            exact ⟨ret_i64 R2.out.symm, (Below.refl _ _).alloc (Nat.le_refl _) _⟩
          · have h2 : ¬ c < 32 := by omega
            have R2 := Lib.hid (R.out.trans (by rw [if_pos (anyT_yes hlt (by rw [hb]; first | (simp; done) | (simp; omega)))]))
            clear hb R hok
            go_wp2
            go_ret
            exact ⟨ret_i64 R2.out.symm, (Below.refl _ _).alloc (Nat.le_refl _) _⟩
          · subst h1
            have R2 := Lib.hid (R.out.trans (by rw [if_pos (anyT_yes hlt (by rw [hb]; first | (simp; done) | (simp; omega)))]))
            clear hb R hok
            go_wp2
            go_ret
            exact ⟨ret_i64 R2.out.symm, (Below.refl _ _).alloc (Nat.le_refl _) _⟩
          · have hok1 := Lib.hid (show ∀ j (hj : j < s.size), j < k + 1 → badB s[j] = false from fun j hj hjk => by
              by_cases e : j = k
              · subst e; rw [hb]; simp; omega
              · exact hok.out j hj (by omega))
            have h4 : (c == 34) = false := by simpa using h3
            clear hb h3
            go_wp2
            go_round
            case rel => exact ⟨k + 1, by omega, by go_num, hok1⟩
            case measure => simp [intOf]; omega
        · go_wp2
          go_ret
          exact ⟨ret_i64 (by rw [R.out, anyT fun j hj => hok.out j hj (by omega)]; rfl), (Below.refl _ _).alloc (Nat.le_refl _) _⟩
  have h2' : (k == 2) = false := by simpa using h2
  by_cases h3 : k = 3
  · subst h3
    rw [show errV 3 s len z = errL (upTo z len) from rfl]
    obtain ⟨hmax, hr⟩ := hr
    unfold maxLen at hmax
    have hlen := upTo_len z len
    by_cases hl : 16 < len
    · have R := Lib.hid (show errL (upTo z len) = 4 by unfold errL; rw [hlen, if_pos hl])
      clear hr hlen h1 h1' h2 h2'
      go_enter Try.func40, Try.ntmps40
      go_wp2
      go_ret
      exact ⟨ret_i64 R.out.symm, (Below.refl _ _).alloc (Nat.le_refl _) _⟩
    · have R := Lib.hid (show errL (upTo z len) = if risesB (upTo z len) then 0 else 2 by unfold errL; rw [hlen, if_neg hl])
      clear hlen h1 h1' h2 h2'
      obtain ⟨W0, hW0⟩ : ∃ W0, w.alloc (.cells #[.int .i64 3, .int .i64 n, .string s, .slice a len cap] 62) = W0 := ⟨_, rfl⟩
      have hbl : Below w.heap.size w W0 := by rw [← hW0]; exact (Below.refl _ _).alloc (Nat.le_refl _) _
      have BL := Lib.hid hbl
      rcases hr with rfl | ⟨b, off, rfl, hc⟩
      · clear hbl hW0
        go_enter Try.func40, Try.ntmps40
        go_wp2
        go_loop [4] (fun i => i = .int .i64 1) (fun _ => 0)
        case atStart => rfl
        case round =>
          subst hrel
          go_wp2
          go_ret
          exact ⟨ret_i64 (by rw [R.out]; rfl), (Below.refl _ _).alloc (Nat.le_refl _) _⟩
      · have hcc := Lib.hid (show ∀ j, j < len → W0.cell? ⟨b, off + j, none⟩ = some (.int .i64 (z j)) from fun j hj => (hbl.cell (p := ⟨b, off + j, none⟩) (World.block_lt_of_cell? w _ (hc j hj))).trans (hc j hj))
        subst hW0
        clear hc hbl
        go_enter Try.func40, Try.ntmps40
        go_wp2
        go_loopw [4] (fun i wr => ∃ k : Nat, 1 ≤ k ∧ (k ≤ len ∨ k = 1) ∧ i = .int .i64 k ∧ Hid (∀ j, j + 1 < k → j + 1 < len → z j < z (j + 1)) ∧ Hid (∃ n0, wr = (w.alloc (.cells #[.int .i64 3, .int .i64 n, .string s, .slice (some ⟨b, off, none⟩) len cap] 62)).drewN n0)) (fun i _ => len - (intOf i).toNat)
        case atStart => exact ⟨1, Nat.le_refl _, .inr rfl, rfl, Lib.hid (fun j h => by omega), Lib.hid ⟨0, rfl⟩⟩
        case round =>
          obtain ⟨k, h1, hk, rfl, hok, hw⟩ := hrel
          obtain ⟨n0, rfl⟩ := hw.out
          by_cases hlt : k < len
          · have c1 := hcc.out k hlt
            have c0 := hcc.out (k - 1) (by omega)
            have e1 : IntKind.i64.wrap ((k : Int) - 1) = (k : Int) - 1 := IntWalk.i64_in _ (by omega)
            have e2 : 0 ≤ (k : Int) - 1 := by omega
            have e3 : ((k : Int) - 1).toNat = k - 1 := by omega
            have e4 : (k : Int) - 1 < len := by omega
            by_cases hz : z k ≤ z (k - 1)
            · have hno := Lib.hid (show ¬ risesB (upTo z len) = true from fun h => by
                have := rises_upTo.1 h (k - 1) (by omega)
                rw [show k - 1 + 1 = k by omega] at this
                omega)
              go_wp2
              go_quiet (fail)
              clear e1 e2 e3 e4
              go_wp2
              go_ret
              exact ⟨ret_i64 (by rw [R.out, if_neg hno.out]), BL.out.trans ⟨rfl, rfl, rfl, Nat.le_refl _, fun _ _ => rfl⟩⟩
            · have hok1 := Lib.hid (show ∀ j, j + 1 < k + 1 → j + 1 < len → z j < z (j + 1) from fun j hj hl => by
                by_cases e : j + 1 = k
                · rw [e, show j = k - 1 by omega]; omega
                · exact hok.out j (by omega) hl)
              go_wp2
              go_quiet (fail)
              clear e1 e2 e3 e4
              go_wp2
              go_roundw
              case rel => exact ⟨k + 1, by omega, .inl (by omega), by go_num, hok1, Lib.hid ⟨_, rfl⟩⟩
              case measure => simp [intOf]; omega
          · go_wp2
            go_ret
            exact ⟨ret_i64 (by rw [R.out, if_pos (rises_upTo.2 fun j hj => hok.out j (by omega) hj)]), BL.out.trans ⟨rfl, rfl, rfl, Nat.le_refl _, fun _ _ => rfl⟩⟩
  have h3' : (k == 3) = false := by simpa using h3
  have R := Lib.hid (show errV k s len z = 7 by unfold errV; rw [if_neg h1, if_neg h2, if_neg h3])
  clear h1 h2 h3 hr
  go_enter Try.func40, Try.ntmps40
  go_wp2_with fail
  go_ret
  exact ⟨ret_i64 R.out.symm, (Below.refl _ _).alloc (Nat.le_refl _) _⟩

end

section
open Go.RowKit

/-- A text as a value. -/
abbrev tv (l : List UInt8) : Value := .string ⟨l.toArray⟩

theorem own_set {w : World} {e : TypeId} {B g n c : Nat} {xs : List Value} (h : w.ownsRow B e 1 (.slice (some ⟨g, 0, none⟩) n c) n xs) (i : Nat) (_hi : i < n) (u : Value) :
    (w.setCell ⟨g, i, none⟩ u).ownsRow B e 1 (.slice (some ⟨g, 0, none⟩) n c) n (xs.set i u) ∧ B ≤ g := by
  refine ⟨⟨by rw [List.length_set]; exact h.1, ?_⟩, ?_⟩
  · rcases h.2 with ⟨h1, _⟩ | ⟨g', cap', cur, h1, hb, hg, hn, hm, hs, ht⟩
    · simp at h1
    · simp only [Value.slice.injEq, Option.some.injEq, Addr.mk.injEq] at h1
      obtain ⟨⟨rfl, -⟩, -, rfl⟩ := h1
      refine .inr ⟨g, c, cur.setIfInBounds i u, rfl, hb, heap_setCell_same w g i cur e u hg, hn, hm, by simpa using hs, ?_⟩
      rw [← ht]
      simp [List.take_set]
  · rcases h.2 with ⟨h1, _⟩ | ⟨g', cap', cur, h1, hb, _⟩
    · simp at h1
    · simp only [Value.slice.injEq, Option.some.injEq, Addr.mk.injEq] at h1
      obtain ⟨⟨rfl, -⟩, -, rfl⟩ := h1
      exact hb

theorem own_cell {w : World} {e : TypeId} {B g n c : Nat} {xs : List Value} (h : w.ownsRow B e 1 (.slice (some ⟨g, 0, none⟩) n c) n xs) {j : Nat} {v : Value} (hj : xs[j]? = some v) : w.cell? ⟨g, j, none⟩ = some v ∧ w.frozen? ⟨g, j, none⟩ = false := by
  rcases h.2 with ⟨h1, _⟩ | ⟨g', cap', cur, h1, hb, hg, hn, hm, hs, ht⟩
  · simp at h1
  · simp only [Value.slice.injEq, Option.some.injEq, Addr.mk.injEq] at h1
    obtain ⟨⟨rfl, -⟩, -, rfl⟩ := h1
    rw [Nat.mul_one] at ht
    exact ⟨owns_cell hg ht hj, frozen_of_row w g j _ _ hg⟩

theorem row_slice' {W : World} {base : Nat} {e : TypeId} {size : Nat} {v : Value} {k : Nat} {xs : List Value} (h : W.ownsRow base e size v k xs) : ∃ a cap, v = .slice a k cap := by
  rcases h.2 with ⟨rfl, rfl⟩ | ⟨g, cap, _, rfl, _⟩
  · exact ⟨_, _, rfl⟩
  · exact ⟨_, _, rfl⟩

theorem infoStr : (Try.prog.info? 9).map (fun i => (i.zero, i.size, i.bytes)) = some (some (.string ⟨#[]⟩), 1, 16) := by kernel_rfl

/-- A byte behind a text. -/
theorem text_more (a : List UInt8) (s : ByteArray) (k : Nat) (hk : k < s.size) : (⟨a.toArray⟩ : ByteArray) ++ s.extract k (k + 1) = ⟨(a ++ [s[k]]).toArray⟩ := by
  apply text_eq
  have h : (s.extract k (k + 1)).data.toList = [s[k]] := by
    rw [ByteArray.data_extract, Array.toList_extract]
    show (s.data.toList.drop k).take (k + 1 - k) = _
    rw [List.drop_eq_getElem_cons (by simpa using hk), show k + 1 - k = 1 by omega]
    rfl
  show (_ ++ _ : ByteArray).data.toList = _
  rw [ByteArray.data_append, Array.toList_append, h]

end

end Go.Proofs.Ytcmcnmmhkpolcaa.Wr
