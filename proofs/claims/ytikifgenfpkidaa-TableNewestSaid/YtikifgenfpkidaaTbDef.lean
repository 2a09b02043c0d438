/-
  No statement: a table in memory: its rows as data; what the map's methods make of it.
-/
import Derived.Test.YtikifgenfpkidaaTbDrop
import Derived.Test.YtikifgenfpkidaaTbMapG
import Derived.Test.YtikifgenfpkidaaTbMem
namespace Go.Proofs.Ytikifgenfpkidaa
open Go.RowKit

/-- A row that reads as data, its attributes apart from F. -/
def ROr (w : World) (F : Nat → Prop) (e : RD × RC) : Prop :=
  (e.2.key = e.1.key ∧ e.2.t = e.1.t ∧ e.2.i = e.1.i ∧ e.2.q = e.1.q ∧ e.2.o = e.1.o ∧ e.2.len = e.1.len) ∧ ReadsAG (fun k => ¬ F k) w e.2.a e.1.len e.1.A

theorem ROr.kept {w w' : World} {F F' S : Nat → Prop} {e : RD × RC} (h : ROr w F e) (hk : Kept S w w') (hS : ∀ k, S k → k < w.heap.size → F k) (hg : ∀ k, F' k → k < w.heap.size → F k) : ROr w' F' e := by
  refine ⟨h.1, ?_⟩
  have h1 := h.2.mono (H := fun k => (¬ F k ∧ ¬ F' k) ∧ ¬ S k) (fun k hf hl => ⟨⟨hf, fun h => hf (hg k h hl)⟩, fun h => hf (hS k h hl)⟩)
  exact (h1.kept hk (fun k hk => hk.2)).mono (fun k hf _ => hf.1.2)

def kyR (L : List RD) : List ByteArray := L.map (·.key)
def kyE (E : List (RD × RC)) : List ByteArray := E.map (fun e => e.1.key)
theorem kyE_of {E : List (RD × RC)} {L : List RD} (h : E.map (·.1) = L) : kyE E = kyR L := by rw [← h]; simp [kyE, kyR]
theorem kyR_len (L : List RD) : (kyR L).length = L.length := by simp [kyR]

/-- A table at block p: its rows, each with its cells; its attributes lie apart from F, its own blocks, and from X, others'. -/
def MapT (w : World) (p : Nat) (most : Int) (F X : Nat → Prop) (E : List (RD × RC)) : Prop :=
  Rising lsS (kyE E) ∧ MSR w p most F (kyE E) (E.map (·.2)) ∧ (∀ e ∈ E, ROr w (fun k => F k ∨ X k) e) ∧ ∀ k, X k → ¬ F k ∧ k < w.heap.size
/-- A table at block p: its rows as data. -/
def Tab (w : World) (p : Nat) (most : Int) (F X : Nat → Prop) (L : List RD) : Prop := ∃ E : List (RD × RC), E.map (·.1) = L ∧ MapT w p most F X E

section
variable {w w' : World} {p : Nat} {most : Int} {F X Y S : Nat → Prop} {L : List RD}
theorem Tab.rise (h : Tab w p most F X L) : Rising lsS (kyR L) := by
  obtain ⟨E, hE, h1, _⟩ := h
  rw [← kyE_of hE]; exact h1
theorem Tab.lt (h : Tab w p most F X L) : ∀ k, F k → k < w.heap.size := by
  obtain ⟨E, hE, _, h1, _⟩ := h
  exact h1.lt
theorem Tab.fp (h : Tab w p most F X L) : F p := by
  obtain ⟨E, hE, _, ⟨_, _, _, _, _, _, _, _, f, _⟩, _⟩ := h
  exact f
theorem Tab.apart (h : Tab w p most F X L) : ∀ k, X k → ¬ F k ∧ k < w.heap.size := by
  obtain ⟨E, hE, _, _, _, h1⟩ := h
  exact h1
/-- Others' blocks may be fewer, and new ones. -/
theorem Tab.more (h : Tab w p most F X L) (hk : Kept (fun _ => False) w w') (hY : ∀ k, Y k → (X k ∨ w.heap.size ≤ k) ∧ k < w'.heap.size) : Tab w' p most F Y L := by
  obtain ⟨E, hE, h1, h2, h3, h4⟩ := h
  refine ⟨E, hE, h1, h2.kept hk (fun _ _ h => h), fun e he => (h3 e he).kept hk (fun _ h _ => h.elim) (fun k h hl => ?_), fun k hy => ⟨fun hf => ?_, (hY k hy).2⟩⟩
  · rcases h with h | h
    · exact .inl h
    · rcases (hY k h).1 with h | h
      · exact .inr h
      · omega
  · rcases (hY k hy).1 with h | h
    · exact (h4 k h).1 hf
    · have := h2.lt k hf; omega
theorem Tab.kept (h : Tab w p most F X L) (hk : Kept (fun _ => False) w w') : Tab w' p most F X L := h.more hk (fun k hx => ⟨.inl hx, Nat.lt_of_lt_of_le (h.apart k hx).2 hk.size⟩)
theorem Tab.below (h : Tab w p most F X L) (hb : Below w.heap.size w w') : Tab w' p most F X L := h.kept (keptNew hb)
theorem Tab.keptX (h : Tab w p most F X L) (hk : Kept S w w') (hS : ∀ k, S k → X k ∨ w.heap.size ≤ k) : Tab w' p most F X L := by
  obtain ⟨E, hE, h1, h2, h3, h4⟩ := h
  have hn : ∀ k, F k → ¬ S k := fun k hf hs => by
    rcases hS k hs with h | h
    · exact (h4 k h).1 hf
    · have := h2.lt k hf; omega
  exact ⟨E, hE, h1, h2.kept hk hn, fun e he => (h3 e he).kept hk (fun k hs hl => by rcases hS k hs with h | h; exact .inr h; omega) (fun _ h _ => h), fun k hx => ⟨(h4 k hx).1, Nat.lt_of_lt_of_le (h4 k hx).2 hk.size⟩⟩
end

/-- A row put in its place. -/
def putT (L : List RD) (x : RD) : List RD := if has (kyR L) x.key = true then L.set (pos lsS (kyR L) x.key) x else L.take (pos lsS (kyR L) x.key) ++ x :: L.drop (pos lsS (kyR L) x.key)
def dropT (L : List RD) (x : ByteArray) : List RD := if has (kyR L) x = true then L.eraseIdx (pos lsS (kyR L) x) else L

def putE (E : List (RD × RC)) (e : RD × RC) : List (RD × RC) := if has (kyE E) e.1.key = true then E.set (pos lsS (kyE E) e.1.key) e else E.take (pos lsS (kyE E) e.1.key) ++ e :: E.drop (pos lsS (kyE E) e.1.key)
def dropE (E : List (RD × RC)) (x : ByteArray) : List (RD × RC) := if has (kyE E) x = true then E.eraseIdx (pos lsS (kyE E) x) else E

theorem putE_map (E : List (RD × RC)) (e : RD × RC) : (putE E e).map (·.1) = putT (E.map (·.1)) e.1 := by
  unfold putE putT
  rw [← kyE_of (E := E) rfl]
  by_cases h : has (kyE E) e.1.key = true
  · rw [if_pos h, if_pos h, List.map_set]
  · rw [if_neg h, if_neg h]; simp [List.map_take, List.map_drop]
theorem dropE_map (E : List (RD × RC)) (x : ByteArray) : (dropE E x).map (·.1) = dropT (E.map (·.1)) x := by
  unfold dropE dropT
  rw [← kyE_of (E := E) rfl]
  by_cases h : has (kyE E) x = true
  · rw [if_pos h, if_pos h]; simp [List.eraseIdx_eq_take_drop_succ, List.map_take, List.map_drop]
  · rw [if_neg h, if_neg h]

theorem kyE_put {E : List (RD × RC)} (hr : Rising lsS (kyE E)) (e : RD × RC) : kyE (putE E e) = putK lsS (kyE E) e.1.key := by
  unfold putE putK
  by_cases h : has (kyE E) e.1.key = true
  · rw [if_pos h, if_pos h]
    have hp := (mem_iff_pos strictS hr).1 ((has_iff _ _).1 h)
    unfold kyE at *
    rw [List.map_set]
    apply List.ext_getElem?
    intro j
    rw [List.getElem?_set]
    split
    · rename_i hj
      subst hj
      rw [hp, if_pos (List.getElem?_eq_some_iff.1 hp).1]
    · rfl
  · rw [if_neg h, if_neg h]
    simp [kyE, List.map_take, List.map_drop]
theorem vsE_put (E : List (RD × RC)) (e : RD × RC) : (putE E e).map (·.2) = putV lsS (kyE E) (E.map (·.2)) e.1.key e.2 := by
  unfold putE putV
  by_cases h : has (kyE E) e.1.key = true
  · rw [if_pos h, if_pos h, List.map_set]
  · rw [if_neg h, if_neg h]; simp [List.map_take, List.map_drop]
theorem mem_putE {E : List (RD × RC)} {e x : RD × RC} (h : x ∈ putE E e) : x ∈ E ∨ x = e := by
  unfold putE at h
  split at h
  · exact List.mem_or_eq_of_mem_set h
  · rcases List.mem_append.1 h with h | h
    · exact .inl (List.mem_of_mem_take h)
    · rcases List.mem_cons.1 h with h | h
      · exact .inr h
      · exact .inl (List.mem_of_mem_drop h)
theorem kyE_drop (E : List (RD × RC)) (x : ByteArray) : kyE (dropE E x) = dropK lsS (kyE E) x := by
  unfold dropE dropK
  by_cases h : has (kyE E) x = true
  · rw [if_pos h, if_pos h]; simp [kyE, List.eraseIdx_eq_take_drop_succ, List.map_take, List.map_drop]
  · rw [if_neg h, if_neg h]
theorem vsE_drop (E : List (RD × RC)) (x : ByteArray) : (dropE E x).map (·.2) = dropV lsS (kyE E) (E.map (·.2)) x := by
  unfold dropE dropV
  by_cases h : has (kyE E) x = true
  · rw [if_pos h, if_pos h]; simp [List.eraseIdx_eq_take_drop_succ, List.map_take, List.map_drop]
  · rw [if_neg h, if_neg h]
theorem mem_dropE {E : List (RD × RC)} {y : ByteArray} {x : RD × RC} (h : x ∈ dropE E y) : x ∈ E := by
  unfold dropE at h
  split at h
  · exact List.mem_of_mem_eraseIdx h
  · exact h

/-- What turned a table. -/
def TurnT (w w' : World) (p : Nat) (most : Int) (F X : Nat → Prop) (L : List RD) : Prop := ∃ F', Tab w' p most F' X L ∧ Grew w F F' ∧ Kept F w w'

theorem grewX {w : World} {F F' X : Nat → Prop} (hg : Grew w F F') : ∀ k, (F' k ∨ X k) → k < w.heap.size → F k ∨ X k := fun k hf hl => by
  rcases hf with hf | hf
  · rcases hg k hf with h | h
    · exact .inl h
    · omega
  · exact .inr hf
theorem grewA {w w' : World} {F F' X : Nat → Prop} (hg : Grew w F F') (hs : w.heap.size ≤ w'.heap.size) (h : ∀ k, X k → ¬ F k ∧ k < w.heap.size) : ∀ k, X k → ¬ F' k ∧ k < w'.heap.size := fun k hx => ⟨fun hf => by
  rcases hg k hf with h' | h'
  · exact (h k hx).1 h'
  · have := (h k hx).2; omega, Nat.lt_of_lt_of_le (h k hx).2 hs⟩

theorem tabPut (w : World) (p : Nat) (most : Int) (F X : Nat → Prop) (L : List RD) (x : RD) (a : Option Addr) (c : Nat) (hn : L.length ≤ 1000000) (h : Tab w p most F X L) (ha : ReadsAG (fun k => ¬ (F k ∨ X k)) w a x.len x.A) :
    Calls Try.prog 40 #[.pointer (some ⟨p, 1, none⟩), .string x.key, rowV x a c] w fun r w' => r = .returned (.bool (!has (kyR L) x.key)) ∧ TurnT w w' p most F X (putT L x) := by
  obtain ⟨E, rfl, h1, h2, h3, h4⟩ := h
  rw [← kyE_of (E := E) rfl]
  refine (putSR w p most F (kyE E) (E.map (·.2)) x.key ⟨x.key, x.t, x.i, x.q, x.o, a, x.len, c⟩ (by simpa [kyE] using hn) h1 h2).mono fun r w' ⟨hr, F', hm, hg, hk⟩ => ⟨hr, F', ⟨putE E (x, ⟨x.key, x.t, x.i, x.q, x.o, a, x.len, c⟩), putE_map E _, ?_, ?_, ?_, grewA hg hk.size h4⟩, hg, hk⟩
  · rw [kyE_put h1]; exact rising_putK strictS h1 _
  · rw [kyE_put h1, vsE_put]; exact hm
  · intro y hy
    rcases mem_putE hy with hy | rfl
    · exact (h3 y hy).kept hk (fun _ h _ => .inl h) (grewX hg)
    · exact (show ROr w (fun k => F k ∨ X k) (x, (⟨x.key, x.t, x.i, x.q, x.o, a, x.len, c⟩ : RC)) from ⟨⟨rfl, rfl, rfl, rfl, rfl, rfl⟩, ha⟩).kept hk (fun _ h _ => .inl h) (grewX hg)

theorem tabDrop (w : World) (p : Nat) (most : Int) (F X : Nat → Prop) (L : List RD) (x : ByteArray) (hn : L.length ≤ 1000000) (h : Tab w p most F X L) :
    Calls Try.prog 38 #[.pointer (some ⟨p, 1, none⟩), .string x] w fun r w' => r = .returned (.bool (has (kyR L) x)) ∧ TurnT w w' p most F X (dropT L x) := by
  obtain ⟨E, rfl, h1, h2, h3, h4⟩ := h
  rw [← kyE_of (E := E) rfl]
  refine (dropSR w p most F (kyE E) (E.map (·.2)) x (by simpa [kyE] using hn) h1 h2).mono fun r w' ⟨hr, F', hm, hg, hk⟩ => ⟨hr, F', ⟨dropE E x, dropE_map E x, ?_, ?_, ?_, grewA hg hk.size h4⟩, hg, hk⟩
  · rw [kyE_drop]; exact rising_dropK h1 _
  · rw [kyE_drop, vsE_drop]; exact hm
  · intro y hy
    exact (h3 y (mem_dropE hy)).kept hk (fun _ h _ => .inl h) (grewX hg)

theorem tabLenM (w : World) (p : Nat) (most : Int) (F X : Nat → Prop) (L : List RD) (h : Tab w p most F X L) :
    Calls Try.prog 47 #[.pointer (some ⟨p, 1, none⟩)] w fun e w' => e = .returned (.int .i64 (L.length : Nat)) ∧ w = w' := by
  obtain ⟨E, rfl, h1, h2, h3, h4⟩ := h
  have := lenSR w p most F (kyE E) (E.map (·.2)) h2
  simpa [kyE] using this

/-- What is got of a map: a row that is there. -/
def RowAt (w : World) (F : Nat → Prop) (x : RD) (a : Option Addr) : Prop := ReadsAG (fun k => ¬ F k) w a x.len x.A
theorem RowAt.below {w w' : World} {F : Nat → Prop} {x : RD} {a : Option Addr} (h : RowAt w F x a) (hb : Below w.heap.size w w') : RowAt w' F x a := ReadsAG.kept h (keptNew hb) (fun _ _ h => h)

theorem rowAt_of {w : World} {F : Nat → Prop} {E : List (RD × RC)} {x : RD} {v : RC} (h3 : ∀ e ∈ E, ROr w F e) (hm : (x, v) ∈ E) : RowAt w F x v.a ∧ (.agg #[.string v.key, .int .i64 v.t, .int .i64 v.i, .int .i64 v.q, .string v.o, .slice v.a v.len v.c] : Value) = rowV x v.a v.c := by
  obtain ⟨⟨a1, a2, a3, a4, a5, a6⟩, hA⟩ := h3 _ hm
  simp only at a1 a2 a3 a4 a5 a6 hA
  refine ⟨hA, ?_⟩
  unfold rowV
  rw [a1, a2, a3, a4, a5, a6]

theorem tabGet (w : World) (p : Nat) (most : Int) (F X : Nat → Prop) (L : List RD) (x : RD) (hn : L.length ≤ 1000000) (h : Tab w p most F X L) (hx : x ∈ L) :
    ∃ a c, RowAt w (fun k => F k ∨ X k) x a ∧ ∀ w', Below w.heap.size w w' → Calls Try.prog 36 #[.pointer (some ⟨p, 1, none⟩), .string x.key] w' fun e w'' => e = .returned (.tuple #[rowV x a c, .bool true]) ∧ Below w'.heap.size w' w'' := by
  obtain ⟨E, rfl, h1, h2, h3, h4⟩ := h
  obtain ⟨⟨x', v⟩, hm, rfl⟩ := List.mem_map.1 hx
  simp only at *
  obtain ⟨i, hi⟩ := List.getElem?_of_mem hm
  have hk : (kyE E)[i]? = some x'.key := by simp [kyE, hi]
  have hp : pos lsS (kyE E) x'.key = i := pos_of_at strictS h1 hk
  obtain ⟨hr, hv⟩ := rowAt_of h3 hm
  refine ⟨v.a, v.c, hr, fun w' hb => ?_⟩
  rw [← hv]
  exact getInSR w' p most F (kyE E) (E.map (·.2)) x'.key v (by simpa [kyE] using hn) h1 (List.mem_of_getElem? hk) (by rw [hp]; simp [hi]) (h2.kept (keptNew hb) (fun _ _ h => h))

theorem tabGetNo (w : World) (p : Nat) (most : Int) (F X : Nat → Prop) (L : List RD) (x : ByteArray) (hn : L.length ≤ 1000000) (h : Tab w p most F X L) (hx : x ∉ kyR L) :
    Calls Try.prog 36 #[.pointer (some ⟨p, 1, none⟩), .string x] w fun e w' => e = .returned (.tuple #[.agg #[.string ⟨#[]⟩, .int .i64 0, .int .i64 0, .int .i64 0, .string ⟨#[]⟩, .slice none 0 0], .bool false]) ∧ Below w.heap.size w w' := by
  obtain ⟨E, rfl, h1, h2, h3, h4⟩ := h
  rw [← kyE_of (E := E) rfl] at hx
  exact getOutSR w p most F (kyE E) (E.map (·.2)) x (by simpa [kyE] using hn) h1 hx h2

theorem tabAtM (w : World) (p : Nat) (most : Int) (F X : Nat → Prop) (L : List RD) (i : Nat) (x : RD) (hn : L.length ≤ 1000000) (h : Tab w p most F X L) (hx : L[i]? = some x) :
    ∃ a c, RowAt w (fun k => F k ∨ X k) x a ∧ ∀ w', Below w.heap.size w w' → Calls Try.prog 64 #[.pointer (some ⟨p, 1, none⟩), .int .i64 i] w' fun e w'' => e = .returned (.tuple #[.string x.key, rowV x a c, .bool true]) ∧ Below w'.heap.size w' w'' := by
  obtain ⟨E, rfl, h1, h2, h3, h4⟩ := h
  rw [List.getElem?_map] at hx
  obtain ⟨⟨x', v⟩, hi, rfl⟩ := Option.map_eq_some_iff.1 hx
  simp only at *
  obtain ⟨hr, hv⟩ := rowAt_of h3 (List.mem_of_getElem? hi)
  refine ⟨v.a, v.c, hr, fun w' hb => ?_⟩
  rw [← hv]
  exact atInSR w' p most F (kyE E) (E.map (·.2)) i x'.key v (by simp [kyE, hi]) (by simp [hi]) (by simpa [kyE] using hn) (h2.kept (keptNew hb) (fun _ _ h => h))

end Go.Proofs.Ytikifgenfpkidaa
