/-
  No statement: a map of attributes: its values' lists lie apart from it; what Put and Drop do to it.
-/
import Derived.Test.YtgcjfalgngiebaaGreatDoorDropSV
import Derived.Test.YtgcjfalgngiebaaGreatDoorWTwin
namespace Go.Proofs.YtgcjfalgngiebaaGreatDoor
open Go.RowKit

/-- A value that reads as data, its list apart from F. -/
def RO (w : World) (F : Nat → Prop) (e : AD × VC) : Prop :=
  e.2.k = e.1.k ∧ e.2.n = e.1.n ∧ e.2.s = e.1.s ∧ e.2.len = e.1.len ∧ Reads w e.2.y e.1.len e.1.z ∧ (e.1.len = 0 ∨ ∀ b, e.2.y = some b → ¬ F b.block)

theorem RO.kept {w w' : World} {F F' S : Nat → Prop} {e : AD × VC} (h : RO w F e) (hk : Kept S w w') (hS : ∀ k, S k → k < w.heap.size → F k) (hg : ∀ k, F' k → k < w.heap.size → F k) : RO w' F' e := by
  obtain ⟨h1, h2, h3, h4, hr, hF⟩ := h
  refine ⟨h1, h2, h3, h4, ?_, ?_⟩
  · refine ⟨hr.1, ?_⟩
    rcases hr.2 with h0 | ⟨b, off, hy, hc⟩
    · exact .inl h0
    · rcases hF with h0 | hF
      · exact .inl h0
      · refine .inr ⟨b, off, hy, fun j hj => hk.cell (hc j hj) (fun hs => hF _ hy (hS b hs (by have := World.block_lt_of_cell? w _ (hc j hj); simpa using this)))⟩
  · rcases hF with h0 | hF
    · exact .inl h0
    · rcases hr.2 with h0 | ⟨b, off, hy, hc⟩
      · exact .inl h0
      · by_cases hl : e.1.len = 0
        · exact .inl hl
        · refine .inr fun b' hb' h' => ?_
          rw [hy] at hb'
          cases hb'
          exact hF _ hy (hg _ h' (by have := World.block_lt_of_cell? w _ (hc 0 (by omega)); simpa using this))

def nmE (E : List (AD × VC)) : List ByteArray := E.map (fun e => e.1.m)

/-- At block p lies a map of these attributes. -/
def MapE (w : World) (p : Nat) (F : Nat → Prop) (E : List (AD × VC)) : Prop :=
  Rising lsS (nmE E) ∧ MSV w p F (nmE E) (E.map (·.2)) ∧ ∀ e ∈ E, RO w F e

theorem MapE.kept {w w' : World} {p : Nat} {F : Nat → Prop} {E : List (AD × VC)} (h : MapE w p F E) (hk : Kept (fun _ => False) w w') : MapE w' p F E :=
  ⟨h.1, h.2.1.kept hk (fun _ _ h => h), fun e he => (h.2.2 e he).kept hk (fun _ h _ => h.elim) (fun _ h _ => h)⟩

def putE (E : List (AD × VC)) (e : AD × VC) : List (AD × VC) := if has (nmE E) e.1.m = true then E.set (pos lsS (nmE E) e.1.m) e else E.take (pos lsS (nmE E) e.1.m) ++ e :: E.drop (pos lsS (nmE E) e.1.m)
def dropE (E : List (AD × VC)) (x : ByteArray) : List (AD × VC) := if has (nmE E) x = true then E.eraseIdx (pos lsS (nmE E) x) else E

theorem nmE_put {E : List (AD × VC)} (hr : Rising lsS (nmE E)) (e : AD × VC) : nmE (putE E e) = putK lsS (nmE E) e.1.m := by
  unfold putE putK
  by_cases h : has (nmE E) e.1.m = true
  · rw [if_pos h, if_pos h]
    have hp := (mem_iff_pos strictS hr).1 ((has_iff _ _).1 h)
    unfold nmE at *
    rw [List.map_set]
    apply List.ext_getElem?
    intro j
    rw [List.getElem?_set]
    split
    · rename_i hj
      subst hj
      rw [hp, if_pos (List.getElem?_eq_some_iff.1 hp).1]
    · rfl
  · rw [if_neg h, if_neg h]
    simp [nmE, List.map_take, List.map_drop]

theorem vsE_put (E : List (AD × VC)) (e : AD × VC) : (putE E e).map (·.2) = putV lsS (nmE E) (E.map (·.2)) e.1.m e.2 := by
  unfold putE putV
  by_cases h : has (nmE E) e.1.m = true
  · rw [if_pos h, if_pos h, List.map_set]
  · rw [if_neg h, if_neg h]; simp [List.map_take, List.map_drop]

theorem mem_putE {E : List (AD × VC)} {e x : AD × VC} (h : x ∈ putE E e) : x ∈ E ∨ x = e := by
  unfold putE at h
  split at h
  · exact List.mem_or_eq_of_mem_set h
  · rcases List.mem_append.1 h with h | h
    · exact .inl (List.mem_of_mem_take h)
    · rcases List.mem_cons.1 h with h | h
      · exact .inr h
      · exact .inl (List.mem_of_mem_drop h)

theorem putE_any (w : World) (p : Nat) (F : Nat → Prop) (E : List (AD × VC)) (e : AD × VC) (hn : E.length ≤ 1000000) (h : MapE w p F E) (he : RO w F e) :
    Calls Tryz.prog 24 #[.pointer (some ⟨p, 0, none⟩), .string e.1.m, .agg #[.int .i64 e.2.k, .int .i64 e.2.n, .string e.2.s, .slice e.2.y e.2.len e.2.c]] w fun r w' =>
      r = .returned (.bool (!has (nmE E) e.1.m)) ∧ ∃ F', MapE w' p F' (putE E e) ∧ Grew w F F' ∧ Kept F w w' := by
  refine (putSV w p F (nmE E) (E.map (·.2)) e.1.m e.2 (by simpa [nmE] using hn) h.1 h.2.1).mono fun r w' ⟨hr, F', hm, hg, hk⟩ => ⟨hr, F', ⟨?_, ?_, ?_⟩, hg, hk⟩
  · rw [nmE_put h.1]; exact rising_putK strictS h.1 _
  · rw [nmE_put h.1, vsE_put]; exact hm
  · intro x hx
    have hgg : ∀ k, F' k → k < w.heap.size → F k := fun k hf hl => (hg k hf).elim (fun h => h) (fun h => by omega)
    rcases mem_putE hx with hx | rfl
    · exact (h.2.2 x hx).kept hk (fun _ h _ => h) hgg
    · exact he.kept hk (fun _ h _ => h) hgg

theorem nmE_drop (E : List (AD × VC)) (x : ByteArray) : nmE (dropE E x) = dropK lsS (nmE E) x := by
  unfold dropE dropK
  by_cases h : has (nmE E) x = true
  · rw [if_pos h, if_pos h]; simp [nmE, List.eraseIdx_eq_take_drop_succ, List.map_take, List.map_drop]
  · rw [if_neg h, if_neg h]

theorem vsE_drop (E : List (AD × VC)) (x : ByteArray) : (dropE E x).map (·.2) = dropV lsS (nmE E) (E.map (·.2)) x := by
  unfold dropE dropV
  by_cases h : has (nmE E) x = true
  · rw [if_pos h, if_pos h]; simp [List.eraseIdx_eq_take_drop_succ, List.map_take, List.map_drop]
  · rw [if_neg h, if_neg h]

theorem mem_dropE {E : List (AD × VC)} {y : ByteArray} {x : AD × VC} (h : x ∈ dropE E y) : x ∈ E := by
  unfold dropE at h
  split at h
  · exact List.mem_of_mem_eraseIdx h
  · exact h

theorem dropE_any (w : World) (p : Nat) (F : Nat → Prop) (E : List (AD × VC)) (x : ByteArray) (hn : E.length ≤ 1000000) (h : MapE w p F E) :
    Calls Tryz.prog 30 #[.pointer (some ⟨p, 0, none⟩), .string x] w fun r w' =>
      r = .returned (.bool (has (nmE E) x)) ∧ ∃ F', MapE w' p F' (dropE E x) ∧ Grew w F F' ∧ Kept F w w' := by
  refine (dropSV w p F (nmE E) (E.map (·.2)) x (by simpa [nmE] using hn) h.1 h.2.1).mono fun r w' ⟨hr, F', hm, hg, hk⟩ => ⟨hr, F', ⟨?_, ?_, ?_⟩, hg, hk⟩
  · rw [nmE_drop]; exact rising_dropK h.1 _
  · rw [nmE_drop, vsE_drop]; exact hm
  · intro y hy
    exact (h.2.2 y (mem_dropE hy)).kept hk (fun _ h _ => h) (fun k hf hl => (hg k hf).elim (fun h => h) (fun h => by omega))

/-- The data of an attribute that is made anew. -/
def twA (x : AD) : AD := ⟨x.m, x.k, twN x.k x.n, twS x.k x.s, twL x.k x.len, x.z⟩

end Go.Proofs.YtgcjfalgngiebaaGreatDoor
