/-
  No statement: the walk of ValueTexts (P201).
-/
import Derived.Test.YtdghknmlleffbaaDoorVAt
import Derived.Test.YtdghknmlleffbaaDoorVTurn
import Derived.Test.YtdghknmlleffbaaDoorVKnown
import Derived.Test.YtdghknmlleffbaaDoorRParseV
import Derived.Test.YtdghknmlleffbaaDoorRCompare
import Derived.Deep.RegionHeld3
import Derived.Deep.Cut
import Derived.Deep.QuietTactic
import Derived.BigQuiet
namespace Go.Proofs.YtdghknmlleffbaaDoor
open Go.RowKit

/-- Pieces, with a blank between two. -/
def joinL : List (List UInt8) → List UInt8
  | [] => []
  | [x] => x
  | x :: y :: r => x ++ 32 :: joinL (y :: r)

theorem join_split : ∀ t : List UInt8, joinL (splitL t) = t
  | [] => rfl
  | c :: t => by
    have ih := join_split t
    obtain ⟨a, q, e⟩ := split_eq t
    by_cases h : c = 32
    · subst h
      rw [split_blank, e]
      show [] ++ 32 :: joinL (a :: q) = _
      rw [← e, ih]; rfl
    · rw [split_sign h t e]
      rw [e] at ih
      cases q with
      | nil => show c :: a = _; rw [show t = a from ih.symm]
      | cons b q =>
        show (c :: a) ++ 32 :: joinL (b :: q) = _
        rw [← ih]; rfl

theorem itoa_of {x : List UInt8} {n : Int} (h : numOf x = some n) : Lib.itoa n = x := by
  unfold numOf at h
  split at h
  · split at h
    · rename_i he; cases h; exact he
    · cases h
  · cases h

theorem numsOf_itoa : ∀ {P : List (List UInt8)} {ns : List Int}, numsOf P = some ns → P = ns.map Lib.itoa ∧ ∀ n ∈ ns, In64 n
  | [], ns, h => by cases h; exact ⟨rfl, fun n hn => by cases hn⟩
  | x :: P, ns, h => by
    simp only [numsOf] at h
    cases e1 : numOf x with
    | none => rw [e1] at h; cases h
    | some n =>
      cases e2 : numsOf P with
      | none => rw [e1, e2] at h; cases h
      | some ms =>
        rw [e1, e2] at h
        cases h
        obtain ⟨h1, h2⟩ := numsOf_itoa e2
        refine ⟨?_, fun y hy => ?_⟩
        · rw [List.map_cons, ← h1]
          congr 1
          exact (itoa_of e1).symm
        · rcases List.mem_cons.1 hy with rfl | hy
          · exact num_in e1
          · exact h2 y hy

theorem inner_some {l t : List UInt8} {c e : UInt8} {r : List UInt8} (hl : l = c :: r) (h : inner l e = some t) : l = c :: (t ++ [e]) := by
  subst hl
  unfold inner at h
  split at h
  · rename_i hc
    obtain ⟨h2, h3⟩ := hc
    cases h
    rcases List.eq_nil_or_concat r with rfl | ⟨q, x, rfl⟩
    · simp at h2
    · rw [List.concat_eq_append] at *
      have : x = e := by
        rw [← List.cons_append, List.getLast?_concat] at h3
        simpa using h3
      subst this
      simp
  · cases h

/-- The numbers of what was read, as good ones: none beyond the list's end. -/
theorem good_z {l : List UInt8} {p : PV} {k n : Int} {T : ByteArray} {a : Option Addr} {len cap : Nat} {z : Nat → Int} (hr : raw l = some p) (h0 : errP p = 0) (hi : IsPV p k n T a len cap z) :
    In64 n ∧ T.size ≤ l.length ∧ len ≤ 16 ∧ ∃ z' : Nat → Int, (∀ j, In64 (z' j)) ∧ (∀ j, j < len → z j = z' j) ∧ textV k n T len z' = l ∧ cmpV k n T len z' k n T len z = 0 := by
  cases l with
  | nil => cases hr
  | cons c r =>
    rw [raw] at hr
    by_cases h34 : c = 34
    · rw [if_pos h34] at hr
      cases e : inner (c :: r) 34 with
      | none => rw [e] at hr; cases hr
      | some t =>
        rw [e] at hr
        cases hr
        obtain ⟨rfl, rfl, hT, rfl, rfl, rfl⟩ := hi
        have hl := inner_some rfl e
        refine ⟨in64_zero, ?_, by omega, fun _ => 0, fun _ => in64_zero, fun j hj => by omega, ?_, ?_⟩
        · rw [hl]
          have : T.data.toList.length = T.size := by simp
          rw [hT] at this
          simp; omega
        · rw [textV, if_neg (by decide), if_pos rfl, hT, hl, h34]; rfl
        · unfold cmpV; rw [if_pos rfl, if_neg (by decide), if_pos rfl, cmpS_self]
    · rw [if_neg h34] at hr
      by_cases h91 : c = 91
      · rw [if_pos h91] at hr
        cases e : inner (c :: r) 93 with
        | none => rw [e] at hr; cases hr
        | some t =>
          rw [e] at hr
          have hl := inner_some rfl e
          have hp : ∃ ns, p = .list ns ∧ (t = [] ∧ ns = [] ∨ ¬ t = [] ∧ numsOf (splitL t) = some ns) := by
            simp only [Option.bind_some] at hr
            by_cases ht : t = []
            · rw [if_pos ht] at hr; cases hr; exact ⟨[], rfl, .inl ⟨ht, rfl⟩⟩
            · rw [if_neg ht] at hr
              cases e2 : numsOf (splitL t) with
              | none => rw [e2] at hr; cases hr
              | some ns => rw [e2] at hr; cases hr; exact ⟨ns, rfl, .inr ⟨ht, rfl⟩⟩
          obtain ⟨ns, rfl, ht⟩ := hp
          obtain ⟨rfl, rfl, rfl, hu⟩ := hi
          have hn16 : ns.length ≤ 16 := by
            have h0 : errL ns = 0 := h0
            unfold errL at h0
            split at h0
            · cases h0
            · omega
          rw [List.take_of_length_le (by omega)] at hu
          have hlen : len = ns.length := by have := congrArg List.length hu; rwa [upTo_len] at this
          subst hlen
          have hin : ∀ x ∈ ns, In64 x := by
            rcases ht with ⟨_, rfl⟩ | ⟨_, h⟩
            · intro x hx; cases hx
            · exact (numsOf_itoa h).2
          have hz' : ∀ j, In64 (ns.getD j 0) := fun j => by
            by_cases hj : j < ns.length
            · rw [List.getD, List.getElem?_eq_getElem hj]; exact hin _ (List.getElem_mem hj)
            · rw [List.getD, List.getElem?_eq_none (by omega)]; exact in64_zero
          have hup : upTo (fun j => ns.getD j 0) ns.length = ns := upTo_get ns
          refine ⟨in64_zero, Nat.zero_le _, hn16, fun j => ns.getD j 0, hz', fun j hj => ?_, ?_, ?_⟩
          · rw [← upTo_at z hj, hu]
          · rw [textV, if_neg (by decide), if_neg (by decide), if_pos rfl, hl, h91]
            unfold listT
            rcases ht with ⟨rfl, rfl⟩ | ⟨hne, h⟩
            · rfl
            · cases hns : ns with
              | nil =>
                subst hns
                obtain ⟨x, q, hx⟩ := split_eq t
                have := (numsOf_itoa h).1
                rw [hx] at this; cases this
              | cons m ms =>
                have hk : ns.length = ms.length + 1 := by rw [hns]; rfl
                obtain ⟨b, b1, b2, b3⟩ := body_of (fun j => ns.getD j 0) hz' ms.length
                rw [← hk, hup] at b3
                have hsp : splitL b = splitL t := (numsOf_itoa b3).1.trans (numsOf_itoa h).1.symm
                have hbt : b = t := by rw [← join_split b, hsp, join_split t]
                rw [← hns, hk, b1, hbt]; rfl
          · unfold cmpV; rw [if_pos rfl, if_neg (by decide), if_neg (by decide), if_pos rfl, hup, hu, cmpL_self]
      · rw [if_neg h91] at hr
        cases e : numOf (c :: r) with
        | none => rw [e] at hr; cases hr
        | some v =>
          rw [e] at hr
          cases hr
          obtain ⟨rfl, rfl, rfl, rfl, rfl, rfl⟩ := hi
          refine ⟨num_in e, Nat.zero_le _, by omega, fun _ => 0, fun _ => in64_zero, fun j hj => by omega, ?_, ?_⟩
          · rw [textV, if_pos rfl]; exact itoa_of e
          · unfold cmpV; rw [if_pos rfl, if_pos rfl, cmpI_self]

/-- Two readings of one value are alike. -/
theorem same_pv {p : PV} {k n : Int} {T : ByteArray} {a : Option Addr} {len cap : Nat} {z : Nat → Int} {k' n' : Int} {T' : ByteArray} {a' : Option Addr} {len' cap' : Nat} {z' : Nat → Int}
    (h : IsPV p k n T a len cap z) (h' : IsPV p k' n' T' a' len' cap' z') : k = k' ∧ cmpV k n T len z k' n' T' len' z' = 0 := by
  cases p with
  | num m =>
    obtain ⟨rfl, rfl, -⟩ := h; obtain ⟨rfl, rfl, -⟩ := h'
    refine ⟨rfl, ?_⟩
    unfold cmpV; rw [if_pos rfl, if_pos rfl, cmpI_self]
  | text t =>
    obtain ⟨rfl, -, hT, -⟩ := h; obtain ⟨rfl, -, hT', -⟩ := h'
    refine ⟨rfl, ?_⟩
    obtain rfl : T = T' := text_eq (hT.trans hT'.symm)
    unfold cmpV; rw [if_pos rfl, if_neg (by decide), if_pos rfl, cmpS_self]
  | list ns =>
    obtain ⟨rfl, -, -, hu⟩ := h; obtain ⟨rfl, -, -, hu'⟩ := h'
    refine ⟨rfl, ?_⟩
    unfold cmpV; rw [if_pos rfl, if_neg (by decide), if_neg (by decide), if_pos rfl, hu, hu', cmpL_self]

set_option maxRecDepth 100000 in
set_option maxHeartbeats 8000000 in
theorem texts_walk (s : ByteArray) (w : World) (hw : Laid w) (h7 : 7 ≤ w.heap.size) (hs : s.size ≤ maxLen) :
    Calls Tryd.prog 4 #[.string s] w fun e w' => e = .returned (.bool true) ∧ Below w.heap.size w w' := by
  unfold maxLen at hs
  have LW := Lib.hid hw
  go_enter Tryd.func4, Tryd.ntmps4
  go_wp2_with fail
  refine (known_any _ hw h7).mono ?_
  rintro e w1 ⟨rfl, hb⟩
  have D1 := Lib.hid hb
  have h71 : 7 ≤ w1.heap.size := by have := hb.size; omega
  clear hb hw
  by_cases h500 : s.size ≤ 500
  · go_wp2_with fail
    refine (parse_any s (by omega) w1 (LW.out.below D1.out h7) h71).mono ?_
    intro e w2 hp
    obtain ⟨hb2, hp⟩ := hp
    have D2 := Lib.hid (D1.out.trans (hb2.mono D1.out.size))
    have h72 : 7 ≤ w2.heap.size := by have := hb2.size; omega
    rcases hp with ⟨hr, rfl⟩ | ⟨p, hr, h0, rfl⟩ | ⟨p, k, n, T, a, len, cap, z, hr, h0, hi, hd, _, hT, rfl⟩
    · have HR := Lib.hid hr
      clear hr hb2
      unfold val
      go_wp2_with fail
      generalize hV : World.alloc w2 _ = V
      have bV : Below w2.heap.size w2 V := by rw [← hV]; exact (Below.refl _ _).alloc (Nat.le_refl _) _
      have hvV : V.heap[w2.heap.size]? = some (.cells #[.int .i64 0, .int .i64 0, .string ⟨#[]⟩, .slice none 0 0] 24 (0, 0)) := by rw [← hV]; exact World.alloc_heap_new w2 _
      have DV := Lib.hid (D2.out.trans (bV.mono D2.out.size))
      clear hV bV
      refine (rParse_value s (by omega) V).mono ?_
      intro e w3 hq
      obtain ⟨hb3, hq⟩ := hq
      have D3 := Lib.hid (DV.out.trans (hb3.mono DV.out.size))
      have hv3 := (hb3.block _ (lt_of_block hvV)).trans hvV
      have al := fun o => (Below.refl w3.heap.size w3).alloc (Nat.le_refl _) o
      have v0 := fun o => (four (((al o).block _ (lt_of_block hv3)).trans hv3)).1.1
      rcases hq with ⟨_, rfl⟩ | ⟨p', hr', _⟩ | ⟨p', k', n', T', a', len', cap', z', hr', _⟩
      · clear hb3 hvV al
        unfold val
        go_wp2_with fail
        go_quiet (fail)
        go_wp2_with fail
        go_ret
        have hh := D3.out.alloc D3.out.size (.cells #[.int .i64 0, .int .i64 0, .string ⟨#[]⟩, .slice none 0 0] 28)
        exact ⟨rfl, ⟨hh.os, hh.tape, hh.output, hh.size, hh.block⟩⟩
      · rw [HR.out] at hr'; cases hr'
      · rw [HR.out] at hr'; cases hr'
    · have HR := Lib.hid hr
      have H0 := Lib.hid h0
      clear hr h0 hb2
      unfold val
      go_wp2_with fail
      generalize hV : World.alloc w2 _ = V
      have bV : Below w2.heap.size w2 V := by rw [← hV]; exact (Below.refl _ _).alloc (Nat.le_refl _) _
      have hvV : V.heap[w2.heap.size]? = some (.cells #[.int .i64 0, .int .i64 0, .string ⟨#[]⟩, .slice none 0 0] 24 (0, 0)) := by rw [← hV]; exact World.alloc_heap_new w2 _
      have DV := Lib.hid (D2.out.trans (bV.mono D2.out.size))
      clear hV bV
      refine (rParse_value s (by omega) V).mono ?_
      intro e w3 hq
      obtain ⟨hb3, hq⟩ := hq
      have D3 := Lib.hid (DV.out.trans (hb3.mono DV.out.size))
      have hv3 := (hb3.block _ (lt_of_block hvV)).trans hvV
      have al := fun o => (Below.refl w3.heap.size w3).alloc (Nat.le_refl _) o
      have v0 := fun o => (four (((al o).block _ (lt_of_block hv3)).trans hv3)).1.1
      rcases hq with ⟨hr', _⟩ | ⟨p', hr', _, rfl⟩ | ⟨p', k', n', T', a', len', cap', z', hr', h0', _⟩
      · rw [HR.out] at hr'; cases hr'
      · rw [HR.out] at hr'
        cases hr'
        obtain ⟨E, hE⟩ : ∃ E, errP p = E := ⟨_, rfl⟩
        rw [hE]
        have HE := H0.out
        rw [hE] at HE
        have q0 : (E != 0) = true := by simpa using HE
        clear hb3 hvV al hE HE
        unfold val
        go_wp2_with fail
        go_quiet (fail)
        go_wp2_with fail
        go_ret
        have hh := D3.out.alloc D3.out.size (.cells #[.int .i64 0, .int .i64 0, .string ⟨#[]⟩, .slice none 0 0] 28)
        exact ⟨rfl, ⟨hh.os, hh.tape, hh.output, hh.size, hh.block⟩⟩
      · rw [HR.out] at hr'
        cases hr'
        exact absurd h0' H0.out
    · obtain ⟨hn, hTl, hl16, z1, hz1, hzz, htx, hcz⟩ := good_z hr h0 hi
      have hd1 := reads_list hd hzz
      have HR := Lib.hid hr
      have H0 := Lib.hid h0
      have HI := Lib.hid hi
      have HN := Lib.hid hn
      have HZ := Lib.hid hz1
      have HTX := Lib.hid htx
      have HCZ := Lib.hid hcz
      clear hr h0 hi hn hz1 hzz htx hcz hb2
      unfold val
      go_wp2_with fail
      generalize hV : World.alloc w2 _ = V
      have bV : Below w2.heap.size w2 V := by rw [← hV]; exact (Below.refl _ _).alloc (Nat.le_refl _) _
      have hvV : V.heap[w2.heap.size]? = some (.cells #[.int .i64 k, .int .i64 n, .string T, .slice a len cap] 24 (0, 0)) := by rw [← hV]; exact World.alloc_heap_new w2 _
      have DV := Lib.hid (D2.out.trans (bV.mono D2.out.size))
      have HVA := Lib.hid (show VAt w2.heap.size k n T a len cap z1 V from ⟨hd1.kept bV, hvV⟩)
      clear hV bV hd hd1
      refine (rParse_value s (by omega) V).mono ?_
      intro e w3 hq
      obtain ⟨hb3, hq⟩ := hq
      have D3 := Lib.hid (DV.out.trans (hb3.mono DV.out.size))
      have hv3 := (hb3.block _ (lt_of_block hvV)).trans hvV
      have A3 := Lib.hid (HVA.out.kept hb3)
      have al := fun o => (Below.refl w3.heap.size w3).alloc (Nat.le_refl _) o
      have v0 := fun o => (four (((al o).block _ (lt_of_block hv3)).trans hv3)).1.1
      have v1 := fun o => (four (((al o).block _ (lt_of_block hv3)).trans hv3)).1.2.1
      have v2 := fun o => (four (((al o).block _ (lt_of_block hv3)).trans hv3)).1.2.2.1
      have v3 := fun o => (four (((al o).block _ (lt_of_block hv3)).trans hv3)).1.2.2.2
      rcases hq with ⟨hr', _⟩ | ⟨p', hr', h0', rfl⟩ | ⟨p', k', n', T', a', len', cap', z', hr', h0', hi', hd', rfl⟩
      · rw [HR.out] at hr'; cases hr'
      · rw [HR.out] at hr'
        cases hr'
        exact absurd H0.out h0'
      · rw [HR.out] at hr'
        cases hr'
        obtain ⟨hk, hcv⟩ := same_pv HI.out hi'
        subst hk
        have HD := Lib.hid hd'
        have HC := Lib.hid hcv
        clear h0' hi' hd' hcv hvV al HVA
        unfold val
        go_upto_region 9 with fail
        generalize hX : World.alloc w3 _ = w4
        have b4 : Below w3.heap.size w3 w4 := by rw [← hX]; exact (Below.refl _ _).alloc (Nat.le_refl _) _
        have hx4 : w4.heap[w3.heap.size]? = some (.cells #[.int .i64 k, .int .i64 n', .string T', .slice a' len' cap'] 28 (0, 0)) := by rw [← hX]; exact World.alloc_heap_new w3 _
        have D4 := Lib.hid (D3.out.trans (b4.mono D3.out.size))
        have A4 := Lib.hid (A3.out.kept b4)
        have HXR4 := Lib.hid (HD.out.kept b4)
        have HX4 := Lib.hid hx4
        generalize w3.heap.size = b3 at HX4 ⊢
        clear hX b4 hx4 v0 v1 v2 v3
        obtain ⟨⟨x0, x1, x2, x3⟩, -, -, -, -⟩ := four A4.out.c
        obtain ⟨⟨y0, y1, y2, y3⟩, -, -, -, -⟩ := four HX4.out
        have OF := fun w => of_any k n T a len cap w
        have CV := fun w h h' => rCompare_any k n T a len cap z1 k n' T' a' len' cap' z' w h h'
        have TX := fun w h h' h'' => text_any k n HN.out T (by have : s.data.toList.length = s.size := by simp
                                                               omega) a len cap z1 HZ.out (by omega) w h h' h''
        rw [show cmpV k n T len z1 k n' T' len' z' = 0 by
          have h := ordV k n T len z1 k n T len z k n' T' len' z'
          rw [HCZ.out, HC.out] at h
          unfold Ord3 at h
          omega] at CV
        rw [show (⟨(textV k n T len z1).toArray⟩ : ByteArray) = s from text_eq (by rw [HTX.out])] at TX
        unfold val at OF CV TX
        have OF := Lib.hid OF
        have CV := Lib.hid CV
        have TX := Lib.hid TX
        go_region_held3 (fun w' => (w'.cell? ⟨w2.heap.size, 0, none⟩ = some (.int .i64 k) ∧ w'.cell? ⟨w2.heap.size, 1, none⟩ = some (.int .i64 n) ∧ w'.cell? ⟨w2.heap.size, 2, none⟩ = some (.string T) ∧ w'.cell? ⟨w2.heap.size, 3, none⟩ = some (.slice a len cap)) ∧ (w'.cell? ⟨b3, 0, none⟩ = some (.int .i64 k) ∧ w'.cell? ⟨b3, 1, none⟩ = some (.int .i64 n') ∧ w'.cell? ⟨b3, 2, none⟩ = some (.string T') ∧ w'.cell? ⟨b3, 3, none⟩ = some (.slice a' len' cap'))) (first | assumption | (refine ⟨⟨?_, ?_, ?_, ?_⟩, ⟨?_, ?_, ?_, ?_⟩⟩ <;> (first | assumption | (go_keep; done)))) (first
          | (go_at_call 11
             with_reducible refine (OF.out _).mono ?_
             rintro e w5 ⟨rfl, hb⟩
             have D5 := Lib.hid (D4.out.drew.trans (hb.mono (by show _ ≤ w4.heap.size; exact D4.out.size)))
             have A5 := Lib.hid ((A4.out.kept (show Below w4.heap.size w4 w4.drew from (Below.refl _ _).drew)).kept hb)
             have xr5 := Lib.hid ((HXR4.out.kept (show Below w4.heap.size w4 w4.drew from (Below.refl _ _).drew)).kept hb)
             have HXR5 := xr5
             have hx5 : w5.heap[b3]? = some (.cells #[.int .i64 k, .int .i64 n', .string T', .slice a' len' cap'] 28 (0, 0)) := (hb.block _ (by show b3 < w4.heap.size; exact lt_of_block HX4.out)).trans HX4.out
             have HX5 := Lib.hid hx5
             have cc := And.intro (four A5.out.c).1 (four HX5.out).1
             clear hb hx5)
          | (go_at_call 13
             with_reducible refine (CV.out _ A5.out.r HXR5.out).mono ?_
             rintro e w6 ⟨rfl, hb⟩
             have D6 := Lib.hid (D5.out.trans (hb.mono (by show _ ≤ w5.heap.size; exact D5.out.size)))
             have A6 := Lib.hid ((A5.out.kept (show Below w5.heap.size w5 w5 from Below.refl _ _)).kept hb)
             have xr6 := Lib.hid ((HXR5.out.kept (show Below w5.heap.size w5 w5 from Below.refl _ _)).kept hb)
             have HXR6 := xr6
             have hx6 : w6.heap[b3]? = some (.cells #[.int .i64 k, .int .i64 n', .string T', .slice a' len' cap'] 28 (0, 0)) := (hb.block _ (by show b3 < w5.heap.size; exact lt_of_block HX5.out)).trans HX5.out
             have HX6 := Lib.hid hx6
             have cc := And.intro (four A6.out.c).1 (four HX6.out).1
             clear hb hx6)
          | (go_at_call 15
             with_reducible refine (TX.out _ A6.out.r (LW.out.below D6.out h7) (by have := D6.out.size; omega)).mono ?_
             rintro e w7 ⟨rfl, hb⟩
             have D7 := Lib.hid (D6.out.trans (hb.mono (by show _ ≤ w6.heap.size; exact D6.out.size)))
             have A7 := Lib.hid ((A6.out.kept (show Below w6.heap.size w6 w6 from Below.refl _ _)).kept hb)
             have xr7 := Lib.hid ((HXR6.out.kept (show Below w6.heap.size w6 w6 from Below.refl _ _)).kept hb)
             have HXR7 := xr7
             have hx7 : w7.heap[b3]? = some (.cells #[.int .i64 k, .int .i64 n', .string T', .slice a' len' cap'] 28 (0, 0)) := (hb.block _ (by show b3 < w6.heap.size; exact lt_of_block HX6.out)).trans HX6.out
             have HX7 := Lib.hid hx7
             have cc := And.intro (four A7.out.c).1 (four HX7.out).1
             clear hb hx7))
        all_goals
          go_wp2_with fail
          go_ret
          exact ⟨rfl, D7.out⟩
  · go_wp2_with fail
    go_ret
    exact ⟨rfl, D1.out⟩

end Go.Proofs.YtdghknmlleffbaaDoor
