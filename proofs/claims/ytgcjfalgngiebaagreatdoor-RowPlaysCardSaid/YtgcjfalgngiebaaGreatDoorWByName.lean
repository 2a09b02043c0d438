/-
  No statement: byName of package row: a map of attributes that rise.
-/
import Derived.Test.YtgcjfalgngiebaaGreatDoorWMapD
import Derived.Test.YtgcjfalgngiebaaGreatDoorWCheck
namespace Go.Proofs.YtgcjfalgngiebaaGreatDoor
open Go.RowKit

/-- The first k attributes, as twins. -/
def twsA (A : Nat → AD) (k : Nat) : List AD := (List.range k).map fun j => twA (A j)

theorem twsA_succ (A : Nat → AD) (k : Nat) : twsA A (k + 1) = twsA A k ++ [twA (A k)] := by simp [twsA, List.range_succ]

/-- Names rise. -/
def RiseA (A : Nat → AD) (n : Nat) : Prop := ∀ i j, i < j → j < n → lsS (A i).m (A j).m = true

/-- A map of attributes made anew. -/
def ByPost (w : World) (D : List AD) (e : Ending) (w' : World) : Prop :=
  (∃ p F E, e = .returned (.pointer (some ⟨p, 0, none⟩)) ∧ MapE w' p F E ∧ E.map (·.1) = D ∧ (∀ k, F k → w.heap.size ≤ k)) ∧ Below w.heap.size w w'

/-- What the loop keeps. -/
def ByK (w : World) (p : Nat) (A : Nat → AD) (k : Nat) (wr : World) : Prop :=
  ∃ F E, MapE wr p F E ∧ E.map (·.1) = twsA A k ∧ (∀ k, F k → w.heap.size ≤ k) ∧ Below w.heap.size w wr

theorem nmE_of {E : List (AD × VC)} {D : List AD} (h : E.map (·.1) = D) : nmE E = D.map (·.m) := by rw [← h]; simp [nmE]

/-- A greater name goes to the end. -/
theorem putE_end {A : Nat → AD} {n k : Nat} (hR : RiseA A n) (hk : k < n) {E : List (AD × VC)} (hE : E.map (·.1) = twsA A k) (v : VC) : has (nmE E) (A k).m = false ∧ putE E (twA (A k), v) = E ++ [(twA (A k), v)] := by
  have hlen : E.length = k := by have := congrArg List.length hE; simpa [twsA] using this
  have hnm : nmE E = (List.range k).map (fun j => (A j).m) := by rw [nmE_of hE]; simp [twsA, twA]
  have hlt : ∀ x ∈ nmE E, lsS x (A k).m = true := by
    intro x hx
    rw [hnm] at hx
    obtain ⟨j, hj, rfl⟩ := List.mem_map.1 hx
    exact hR j k (List.mem_range.1 hj) hk
  have hh : has (nmE E) (A k).m = false := has_no (fun h => by have := hlt _ h; rw [strictS.irrefl] at this; cases this)
  have hp : pos lsS (nmE E) (A k).m = k := by
    refine pos_unique (by rw [hnm]; simp) (fun t x _ hx => hlt x (List.mem_of_getElem? hx)) (fun x hx => ?_)
    rw [hnm, List.getElem?_eq_none (by simp)] at hx; cases hx
  refine ⟨hh, ?_⟩
  unfold putE
  show (if has (nmE E) (A k).m = true then _ else E.take (pos lsS (nmE E) (A k).m) ++ (twA (A k), v) :: E.drop (pos lsS (nmE E) (A k).m)) = _
  rw [hh, if_neg (by simp), hp, List.take_of_length_le (by omega), List.drop_of_length_le (by omega)]

theorem putT_any (w : World) (p : Nat) (F : Nat → Prop) (E : List (AD × VC)) (x : AD) (a3 : Option Addr) (c3 : Nat) (hn : E.length ≤ 1000000) (h : MapE w p F E) (he : RO w F (twA x, ⟨x.k, twN x.k x.n, twS x.k x.s, a3, twL x.k x.len, c3⟩)) :
    Calls Tryz.prog 24 #[.pointer (some ⟨p, 0, none⟩), .string x.m, .agg #[.int .i64 x.k, .int .i64 (twN x.k x.n), .string (twS x.k x.s), .slice a3 (twL x.k x.len) c3]] w fun r w' =>
      r = .returned (.bool (!has (nmE E) x.m)) ∧ ∃ F', MapE w' p F' (putE E (twA x, ⟨x.k, twN x.k x.n, twS x.k x.s, a3, twL x.k x.len, c3⟩)) ∧ Grew w F F' ∧ Kept F w w' := putE_any w p F E _ hn h he

theorem keptB {w w' : World} (h : Below w.heap.size w w') : Kept (fun _ => False) w w' := ⟨h.os, h.tape, h.output, h.size, fun k hk _ => h.block k hk⟩

set_option maxRecDepth 100000 in
set_option maxHeartbeats 4000000 in
theorem byName_any (a : Option Addr) (n c : Nat) (A : Nat → AD) (hn : n ≤ 1000) (hl : ∀ j, j < n → (A j).len ≤ 1000000) (hR : RiseA A n) (w : World) (h : ReadsA w a n A) :
    Calls Tryz.prog 23 #[.slice a n c] w (ByPost w (twsA A n)) := by
  have R := Lib.hid h
  have HL := Lib.hid hl
  have HR := Lib.hid hR
  clear h hl hR
  go_enter Tryz.func23, Tryz.ntmps23
  go_wp2_with fail
  refine (newSV w).mono ?_
  rintro e w1 ⟨rfl, hm, hk⟩
  have K1 : Hid (ByK w w.heap.size A 0 w1) := Lib.hid ⟨_, [], ⟨List.Pairwise.nil, hm, fun _ h => by cases h⟩, rfl, fun k hk => by subst hk; exact Nat.le_refl _, hk.below (fun _ h => h.elim) (Nat.le_refl _)⟩
  clear hm hk
  go_wp2_with fail
  go_loopw [9] (fun i wr => ∃ k : Nat, i = .int .i64 k ∧ k ≤ n ∧ Hid (ByK w w.heap.size A k wr)) (fun i _ => n - (intOf i).toNat)
  case atStart => exact ⟨0, rfl, Nat.zero_le _, K1⟩
  case round =>
    obtain ⟨k, rfl, hk, K2⟩ := hrel
    clear K1
    by_cases hlt : k < n
    · obtain ⟨F, E, hM, hE, hF, hB⟩ := K2.out
      obtain ⟨-, hc⟩ := R.out
      obtain ⟨b, off, rfl, hcs⟩ := hc.resolve_left (by omega)
      obtain ⟨y, cy, h50, hrd⟩ := hcs k hlt
      have h5 := h50.kept hB
      have hlk := HL.out k hlt
      have hend := fun v => putE_end HR.out hlt hE v
      have hts := twsA_succ A k
      obtain ⟨x, hx⟩ : ∃ x, A k = x := ⟨_, rfl⟩
      rw [hx] at h5 h50 hrd hlk hend hts
      have bA : ∀ o, Below wr.heap.size wr (wr.alloc o) := fun o => (Below.refl _ _).alloc (Nat.le_refl _) _
      have TW := Lib.hid (p := ∀ w', Below w.heap.size w w' → Calls Tryz.prog 25 #[.agg #[.int .i64 x.k, .int .i64 x.n, .string x.s, .slice y x.len cy]] w' (TwPost w' x.k x.n x.s x.len x.z)) (fun w' hb => twin_any x.k x.n x.s y x.len cy x.z hlk w' (hrd.kept hb))
      have hel : E.length ≤ 1000000 := by have := congrArg List.length hE; simp [twsA] at this; omega
      have hz := hB.size
      have HM := Lib.hid (And.intro hM (And.intro hE (And.intro hF hB)))
      have HEND := Lib.hid hend
      have HTS := Lib.hid hts
      obtain ⟨d0, d1, d2, d3, d4⟩ := h5
      clear hcs hrd h50 hx hc hM hE hF hB hend hts bA
      go_wp2_with fail
      generalize hW : World.alloc wr _ = W
      have hWb : Below wr.heap.size wr W := by rw [← hW]; exact (Below.refl _ _).alloc (Nat.le_refl _) _
      have hW5 : W.heap[wr.heap.size]? = some (.cells #[.string x.m, .int .i64 x.k, .int .i64 x.n, .string x.s, .slice y x.len cy] 57 (0, 0)) := by rw [← hW]; exact heap_alloc_new wr _
      clear hW d0 d1 d2 d3 d4
      obtain ⟨d0, d1, d2, d3, d4⟩ := cells5_block hW5
      have hdr : Below W.heap.size W W.drew := ⟨rfl, rfl, rfl, Nat.le_refl _, fun _ _ => rfl⟩
      have HW := Lib.hid (And.intro hWb (And.intro hW5 hdr))
      have hszW := hWb.size
      clear hWb hW5 hdr
      go_region_with (first
        | (go_at_call 25
           with_reducible refine (TW.out _ (HM.out.2.2.2.trans ((HW.out.1.trans (HW.out.2.2.mono hszW)).mono hz))).mono ?_
           rintro e w3 ⟨⟨a3, c3, rfl, hn3, hr3⟩, hb3⟩
           have B3 := Lib.hid ((HW.out.1.trans (HW.out.2.2.mono hszW)).trans (hb3.mono (by show _ ≤ W.heap.size; exact hszW)))
           have R3 := Lib.hid (And.intro (hr3 w3 (Kept.refl _ _)) hn3)
           have hz3 := hb3.size
           have hl5 := lt_of_block HW.out.2.1
           clear d0 d1 d2 d3 d4
           obtain ⟨d0, d1, d2, d3, d4⟩ := cells5_block ((hb3.block wr.heap.size (by show _ < W.heap.size; exact hl5)).trans HW.out.2.1)
           have M3 := Lib.hid (HM.out.1.kept (keptB B3.out))
           have RO3 : Hid (RO w3 F (twA x, ⟨x.k, twN x.k x.n, twS x.k x.s, a3, twL x.k x.len, c3⟩)) := Lib.hid ⟨rfl, rfl, rfl, rfl, R3.out.1, .inr (fun q hq hFq => by have h1 := hn3 q hq; have h2 := HM.out.1.2.1.lt _ hFq; have h3 : W.drew.heap.size = W.heap.size := rfl; omega)⟩
           clear hb3 hr3 hn3 R3)
        | (go_at_call 24
           with_reducible refine (putT_any w3 w.heap.size F E x a3 c3 hel M3.out RO3.out).mono ?_
           rintro e w4 ⟨rfl, F', hm4, hg4, hk4⟩
           have K4 := Lib.hid (And.intro hm4 (And.intro hg4 hk4))
           clear hm4 hg4 hk4)
        | fail)
      all_goals
        have K5 : Hid (ByK w w.heap.size A (k + 1) w4) := Lib.hid (by
          obtain ⟨hm4, hg4, hk4⟩ := K4.out
          obtain ⟨-, hE, hF, hB⟩ := HM.out
          rw [(HEND.out _).2] at hm4
          refine ⟨F', _, hm4, by rw [List.map_append, hE, HTS.out]; rfl, fun q hq => ?_, (hB.trans (B3.out.mono hz)).trans (hk4.below hF (by have := B3.out.size; omega))⟩
          rcases hg4 q hq with h | h
          · exact hF q h
          · have := B3.out.size; omega)
        clear K4 M3 RO3 B3 HW HM TW HEND HTS d0 d1 d2 d3 d4
        go_wp2
        go_roundw
        case rel => exact ⟨k + 1, by go_num, by omega, K5⟩
        case measure => simp [intOf]; omega
    · obtain rfl : k = n := by omega
      obtain ⟨F, E, hM, hE, hF, hB⟩ := K2.out
      have P := Lib.hid (show ByPost w (twsA A k) (.returned (.pointer (some ⟨w.heap.size, 0, none⟩))) wr from ⟨⟨_, F, E, rfl, hM, hE, hF⟩, hB⟩)
      clear hM hE hF hB
      go_wp2_with fail
      go_ret
      exact P.out

end Go.Proofs.YtgcjfalgngiebaaGreatDoor
