/-
  No statement: the contract of readList of package value: its loop over strings.SplitSeq, round by round.
-/
import Derived.Test.YtdghknmlleffbaaDoorVSplit
import Derived.Test.YtdghknmlleffbaaDoorVRead
import Derived.Maps.AppendAt
import Derived.Maps.OwnIn
namespace Go.Proofs.YtdghknmlleffbaaDoor
open Go.RowKit Go.Shelf
attribute [local go_sem] Oper.semAt_some

/-- The number that a text tells. -/
def numT (x : ByteArray) : Option Int := numOf x.data.toList

theorem infoL : (Tryd.prog.info? 2).map (fun i => (i.zero, i.size, i.bytes)) = some (some (.int .i64 0), 1, 8) := by kernel_rfl

theorem row_slice {W : World} {base : Nat} {e : TypeId} {size : Nat} {v : Value} {k : Nat} {xs : List Value} (h : W.ownsRow base e size v k xs) : ∃ a cap, v = .slice a k cap := by
  rcases h.2 with ⟨rfl, rfl⟩ | ⟨g, cap, _, rfl, _⟩
  · exact ⟨_, _, rfl⟩
  · exact ⟨_, _, rfl⟩

/-- Between two rounds of readList, whose own variables lie from n0 on: what has come are numbers, the first seventeen of them lie in the list. -/
structure RL (n0 : Nat) (w : World) (rec : Loop) (pre : List ByteArray) (W : World) : Prop where
  r0 : Boxed W n0 22 (.slice none 0 0)
  r1 : Boxed W (n0 + 1) 4 (.bool false)
  ns : ∃ ns : List Int, pre.map numT = ns.map some ∧ ∃ a cap, Boxed W (n0 + 2) 22 (.slice a (ns.take 17).length cap) ∧ W.ownsRow (n0 + 2) 2 1 (.slice a (ns.take 17).length cap) (ns.take 17).length ((ns.take 17).map (Value.int .i64)) ∧ ∀ g, (Value.slice a (ns.take 17).length cap).ownBlock = some g → n0 + 8 ≤ g
  rc : W.heap[n0 + 7]? = some (.loop rec)
  df : W.heap[n0 + 6]? = some (.deferred (some []))
  bl : Below n0 w W
  la : Laid W

/-- A round has come upon a text that tells none. -/
structure RX (n0 : Nat) (w : World) (rec : Loop) (pre : List ByteArray) (W : World) : Prop where
  r0 : Boxed W n0 22 (.slice none 0 0)
  r1 : Boxed W (n0 + 1) 4 (.bool false)
  no : ∃ x ∈ pre, numT x = none
  rc : W.heap[n0 + 7]? = some (.loop { rec with state := .done, pending := some .ret })
  df : W.heap[n0 + 6]? = some (.deferred (some []))
  bl : Below n0 w W

/-- All of it stands behind a turn of one block that is none of them. -/
theorem RL.kept {n0 : Nat} {w : World} {rec : Loop} {pre : List ByteArray} {W W' : World} {k : Nat} (h : RL n0 w rec pre W) (hg : W.grownBy W' (some k)) (h8 : 7 ≤ n0) (hk : n0 + 3 ≤ k) (hk' : k ≤ n0 + 5) : RL n0 w rec pre W' := by
  obtain ⟨ns, hn, a, cap, hb, ho, hq⟩ := h.ns
  have hlt : k < W.heap.size := by have := Boxed.lt (t := 0) (v := undef) (W := W) (B := k); have h7 := (Array.getElem?_eq_some_iff.1 h.rc).1; omega
  refine ⟨h.r0.kept hg (by simp; omega), h.r1.kept hg (by simp; omega), ⟨ns, hn, a, cap, hb.kept hg (by simp; omega), ho.kept hg ?_, hq⟩, ?_, ?_, h.bl.grown hg (by have := h.r0.lt; omega) (fun j e => by cases e; omega), ?_⟩
  · exact .inr fun e => by have := hq k e; omega
  · exact (hg.block _ (Array.getElem?_eq_some_iff.1 h.rc).1 (by simp; omega)).trans h.rc
  · exact (hg.block _ (Array.getElem?_eq_some_iff.1 h.df).1 (by simp; omega)).trans h.df
  · exact h.la.below ((Below.refl n0 W).grown hg (by have := h.r0.lt; omega) (fun j e => by cases e; omega)) h8

theorem setc {W : World} {b k : Nat} {o : Obj} (v : Value) (h : W.heap[k]? = some o) (hne : k ≠ b) : (W.setCell ⟨b, 0, none⟩ v).heap[k]? = some o := (Below.heap_setCell W ⟨b, 0, none⟩ v k hne).trans h
theorem puto {W : World} {b k : Nat} {o : Obj} (o' : Obj) (h : W.heap[k]? = some o) (hne : k ≠ b) : (W.putObj b o').heap[k]? = some o := (World.putObj_heap_other hne).trans h

theorem row_mono {W : World} {b b' : Nat} {e : TypeId} {size : Nat} {v : Value} {k : Nat} {xs : List Value} (h : W.ownsRow b e size v k xs) (hb : b' ≤ b) : W.ownsRow b' e size v k xs :=
  ⟨h.1, h.2.imp id fun ⟨g, cap, cur, h1, h2, r⟩ => ⟨g, cap, cur, h1, Nat.le_trans hb h2, r⟩⟩

theorem take_snoc17 (ns : List Int) (n : Int) : (ns ++ [n]).take 17 = if (ns.take 17).length ≤ 16 then ns.take 17 ++ [n] else ns.take 17 := by
  rw [List.length_take]
  split
  · have : ns.length ≤ 16 := by omega
    rw [List.take_of_length_le (by simp; omega), List.take_of_length_le (by omega)]
  · rw [List.take_append_of_le_length (by omega)]

set_option maxRecDepth 100000 in
set_option maxHeartbeats 4000000 in
theorem readList_in (s : ByteArray) (h0 : ¬ s = ⟨#[]⟩) (hm : s.size ≤ 281474976710656) (w : World) (hw : Laid w) (h8 : 7 ≤ w.heap.size) :
    CallsIn Fence.wide 3 Tryd.prog 59 #[.string s] w fun e w' =>
      ((∃ (xs : List ByteArray) (ns : List Int) (v : Value), Splits xs s ∧ xs.map numT = ns.map some ∧ e = .returned (.tuple #[v, .bool true]) ∧ w'.ownsRow w.heap.size 2 1 v (ns.take 17).length ((ns.take 17).map (Value.int .i64))) ∨
       (∃ xs, Splits xs s ∧ (∃ x ∈ xs, numT x = none) ∧ e = .returned (.tuple #[.slice none 0 0, .bool false]))) ∧ Below w.heap.size w w' := by
  have e0 : (s.toList == []) = false := by
    rw [beq_eq_false_iff_ne]; intro x; exact h0 (text_eq (by simpa [Lib.toList_data] using x))
  refine callsIn_of_wp_marks Tryd.func59 rfl trivial ?_ rfl
  simp only [Tryd.ntmps59, List.size_toArray, List.length_cons, List.length_nil, Nat.reduceAdd, Nat.reduceSub, Array.replicate_succ, Array.replicate_zero, List.push_toArray, List.append_toArray, List.nil_append, List.cons_append]
  gi_wp2_with (refine ⟨trivial, ?_⟩; gi_at_call 69; refine (callsIn_wide.2 (splitSeq_any _ _)).mono ?_; rintro e w' ⟨rfl, rfl⟩)
  obtain ⟨n0, hn0⟩ : ∃ n0, w.heap.size = n0 := ⟨_, rfl⟩
  obtain ⟨W0, hW0⟩ : ∃ W0, (((((w.alloc (.cells #[.slice none 0 0] 22)).alloc (.cells #[.bool false] 4)).alloc (.cells #[.slice none 0 0] 22)).alloc (.cells #[.string s] 9)).alloc (.cells #[.string ⟨#[32]⟩] 9)).alloc (.cells #[.int .i64 0] 3) = W0 := ⟨_, rfl⟩
  have hs0 : W0.heap.size = n0 + 6 := by rw [← hW0, ← hn0]; simp
  have b0 : Boxed W0 n0 22 (.slice none 0 0) := by
    rw [← hW0, ← hn0]; exact ((((((Boxed.new w _ _).alloc _).alloc _).alloc _).alloc _).alloc _)
  have b1 : Boxed W0 (n0 + 1) 4 (.bool false) := by
    have := Boxed.new (w.alloc (.cells #[.slice none 0 0] 22)) 4 (.bool false)
    rw [World.size_alloc, hn0] at this
    rw [← hW0]; exact ((((this.alloc _).alloc _).alloc _).alloc _)
  have b2 : Boxed W0 (n0 + 2) 22 (.slice none 0 0) := by
    have := Boxed.new ((w.alloc (.cells #[.slice none 0 0] 22)).alloc (.cells #[.bool false] 4)) 22 (.slice none 0 0)
    rw [World.size_alloc, World.size_alloc, hn0] at this
    rw [← hW0]; exact (((this.alloc _).alloc _).alloc _)
  have b3 : SplitSt (n0 + 3) s W0 := by
    have t3 := Boxed.new (((w.alloc (.cells #[.slice none 0 0] 22)).alloc (.cells #[.bool false] 4)).alloc (.cells #[.slice none 0 0] 22)) 9 (.string s)
    have t4 := Boxed.new ((((w.alloc (.cells #[.slice none 0 0] 22)).alloc (.cells #[.bool false] 4)).alloc (.cells #[.slice none 0 0] 22)).alloc (.cells #[.string s] 9)) 9 (.string ⟨#[32]⟩)
    have t5 := Boxed.new (((((w.alloc (.cells #[.slice none 0 0] 22)).alloc (.cells #[.bool false] 4)).alloc (.cells #[.slice none 0 0] 22)).alloc (.cells #[.string s] 9)).alloc (.cells #[.string ⟨#[32]⟩] 9)) 3 (.int .i64 0)
    simp only [World.size_alloc, hn0] at t3 t4 t5
    rw [hW0] at t5
    exact ⟨by rw [← hW0]; exact (t3.alloc _).alloc _, by rw [← hW0]; exact t4.alloc _, t5⟩
  have bl0 : Below n0 w W0 := by
    rw [← hW0, ← hn0]
    exact ((((((Below.refl _ w).alloc (Nat.le_refl _) _).alloc (by simp) _).alloc (by simp; omega) _).alloc (by simp; omega) _).alloc (by simp; omega) _).alloc (by simp; omega) _
  simp only [hn0]
  rw [hW0]
  simp only [Nat.add_assoc, Nat.reduceAdd]
  refine wpIn_rangeFunc ?_
  intro fn hfn
  refine ⟨_, _, _, { target := .fn (.func 87) #[.pointer (some ⟨n0 + 4, 0, none⟩), .pointer (some ⟨n0 + 3, 0, none⟩), .pointer (some ⟨n0 + 5, 0, none⟩)], args := #[.func (.yield (W0.heap.size + 1)) #[] #[]] }, ?wa, 87,
    #[.func (.yield (W0.heap.size + 1)) #[] #[], .pointer (some ⟨n0 + 4, 0, none⟩), .pointer (some ⟨n0 + 3, 0, none⟩), .pointer (some ⟨n0 + 5, 0, none⟩)], ?wb, run_enterLoop_outer _ _ _ _ _, ?_, fun _ _ => trivial, ?_, fun _ => by omega, ?_⟩
  rotate_left 2
  · simp only [resolve]
    simp [go_sem]
    rfl
  · have eg : ∀ args w, (callFunc 87 args).run Tryd.prog w = .ok (.enter 87 args) w := enters_of Tryd.func87 (by kernel_rfl) rfl
    simp [invoke, go_sem, eg]
    rfl
  · rw [hs0]
    generalize hrec : ({ state := LoopState.ready, pending := none, fn := fn, tmps := _, params := _, assign := _, body := _, defers := _ } : Loop) = rec
    have hla0 : Laid W0 := hw.below bl0 (by omega)
    obtain ⟨W1, hW1⟩ : ∃ W1, (W0.alloc (.deferred (some []))).alloc (.loop rec) = W1 := ⟨_, rfl⟩
    rw [hW1]
    have hrr : ({ rec with state := .ready, pending := none } : Loop) = rec := by rw [← hrec]
    have hs1 : W1.heap.size = n0 + 8 := by rw [← hW1]; simp [hs0]
    have bl1 : Below n0 w W1 := by
      rw [← hW1]
      exact (bl0.alloc (by omega) _).alloc (by simp; omega) _
    have k0 : SplitSt (n0 + 3) s W1 := by
      rw [← hW1]
      exact ⟨(b3.s.alloc _).alloc _, (b3.sep.alloc _).alloc _, (b3.save.alloc _).alloc _⟩
    have r0 : RL n0 w rec [] W1 := by
      refine ⟨?_, ?_, ⟨[], rfl, none, 0, ?_, ?_, fun g e => by cases e⟩, ?_, ?_, bl1, hw.below bl1 (by omega)⟩
      · rw [← hW1]; exact (b0.alloc _).alloc _
      · rw [← hW1]; exact (b1.alloc _).alloc _
      · rw [← hW1]; exact (b2.alloc _).alloc _
      · exact ⟨rfl, .inl ⟨rfl, rfl⟩⟩
      · rw [← hW1]
        have := World.alloc_heap_new (W0.alloc (.deferred (some []))) (.loop rec)
        rw [World.size_alloc, hs0] at this
        exact this
      · rw [← hW1]
        have := World.alloc_heap_new W0 (.deferred (some []))
        rw [hs0] at this
        exact (Below.heap_alloc _ _ _ (by simp; omega)).trans this
    refine (split_in 1 (n0 + 7) (n0 + 3) s hm (RL n0 w rec) (RX n0 w rec) ?_ ?_ W1 r0 k0).mono ?_
    · intro pre W t hj hst u
      exact hj.kept (grownBy_setCell' W (n0 + 3) _) (by omega) (by omega) (by omega)
    · intro pre x W t hj hst hx
      have hy := run_yield (P := Tryd.prog) (args := #[.string x]) hj.rc (by rw [← hrec]; rfl)
      refine ⟨rec.fn, _, rec.assign, rec.body, hy, roundIn_of_wpIn trivial ?_⟩
      rw [← hrec]
      gi_wp2
      refine ⟨_, run_beginRound hj.rc (by rw [← hrec]), ?_⟩
      obtain ⟨W2, hW2⟩ : ∃ W2, W.putObj (n0 + 7) (.loop { rec with state := .busy }) = W2 := ⟨_, rfl⟩
      rw [hW2]
      have hlt : n0 + 7 < W.heap.size := (Array.getElem?_eq_some_iff.1 hj.rc).1
      have hg2 : W.grownBy W2 (some (n0 + 7)) := by rw [← hW2]; exact grownBy_putObj' W _ _
      have hrc2 : W2.heap[n0 + 7]? = some (.loop { rec with state := .busy }) := by rw [← hW2]; exact World.putObj_heap_same hlt
      have hdf2 : W2.heap[n0 + 6]? = some (.deferred (some [])) := (hg2.block _ (by omega) (by simp)).trans hj.df
      have hs2 : W2.heap.size = W.heap.size := by rw [← hW2]; simp
      have r02 := hj.r0.kept hg2 (by simp)
      have r12 := hj.r1.kept hg2 (by simp)
      obtain ⟨ns, hn, a, cap, hb, ho, hq⟩ := hj.ns
      have hb2 := hb.kept hg2 (by simp)
      have ho2 := ho.kept hg2 (.inr fun e => by have := hq _ e; omega)
      have bl2 : Below n0 w W2 := hj.bl.grown hg2 (by have := hj.r0.lt; omega) (fun j e => by cases e; omega)
      have la2 : Laid W2 := hw.below bl2 (by omega)
      have st2 : SplitSt (n0 + 3) t W2 := ⟨hst.s.kept hg2 (by simp), hst.sep.kept hg2 (by simp), hst.save.kept hg2 (by simp)⟩
      have RN := readNumber_any x hx W2 la2 (by omega)
      have hfin : ∀ (W3 : World) (k : Nat) (o : Obj), k < n0 + 8 → Below W2.heap.size W2 W3 → W2.heap[k]? = some o → W3.heap[k]? = some o := fun W3 k o hk hb h => (hb.block k (by omega)).trans h
      clear hst hj hb ho hg2 hW2 la2
      cases hv : numT x with
      | none =>
        unfold numT at hv
        rw [hv] at RN
        have RN1 := Lib.hid RN
        clear RN
        gi_wp2_with (refine ⟨trivial, ?_⟩; gi_at_call 60; refine (CallsIn.inRound _ (callsIn_wide.2 RN1.out)).mono ?_; rintro e W3 ⟨rfl, hb3⟩; have r03 := hfin _ _ _ (by omega) hb3 r02; have r13 := hfin _ _ _ (by omega) hb3 r12; have hc0 := Boxed.cell r03; have hc1 := Boxed.cell r13; have hf0 := Boxed.frozen r03; have hf1 := Boxed.frozen r13)
        rw [hrec]
        have hrc3 := setc (.bool false) (setc (.slice none 0 0) (hfin _ _ _ (by omega) hb3 hrc2) (by omega : n0 + 7 ≠ n0)) (by omega : n0 + 7 ≠ n0 + 1)
        have hdf3 := setc (.bool false) (setc (.slice none 0 0) (hfin _ _ _ (by omega) hb3 hdf2) (by omega : n0 + 6 ≠ n0)) (by omega : n0 + 6 ≠ n0 + 1)
        refine ⟨_, _, run_endRound _ hrc3, .inr ⟨rfl, ?_, ?_, ⟨x, by simp, hv⟩, ?_, ?_, ?_⟩⟩
        · exact puto _ (setc _ (Boxed.set (.slice none 0 0) r03) (by omega)) (by omega)
        · exact puto _ (Boxed.set (.bool false) (setc _ r13 (by omega))) (by omega)
        · exact World.putObj_heap_same (Array.getElem?_eq_some_iff.1 hrc3).1
        · exact puto _ hdf3 (by omega)
        · refine Below.grown (((bl2.trans (hb3.mono (by omega))).setCell (p := ⟨n0, 0, none⟩) (Nat.le_refl _) _).setCell (p := ⟨n0 + 1, 0, none⟩) (by simp) _) (grownBy_putObj' _ (n0 + 7) _) ?_ (fun j e => by cases e; omega)
          have := (Array.getElem?_eq_some_iff.1 hrc3).1; omega
      | some v =>
        unfold numT at hv
        rw [hv] at RN
        have RN1 := Lib.hid RN
        clear RN
        have hns : (pre ++ [x]).map numT = (ns ++ [v]).map some := by
          rw [List.map_append, hn, List.map_append]; simp [numT, hv]
        have htk := Lib.hid (take_snoc17 ns v)
        have hns1 := Lib.hid hns
        clear hns hn
        obtain ⟨L, hL⟩ : ∃ L, ns.take 17 = L := ⟨_, rfl⟩
        rw [hL] at hb2 ho2 hq htk
        clear hL
        have hgg : ∀ W3, Below W2.heap.size W2 W3 → W2.grownBy W3 none := fun W3 h => ⟨h.os, h.tape, h.output, h.size, fun k hk _ => h.block k hk⟩
        by_cases hlen : L.length ≤ 16
        · obtain ⟨i0, hi, hz0, hz1, hz2⟩ := info_parts infoL
          have hml : L.length + 1 ≤ maxLen := by unfold maxLen; omega
          gi_wp2_with (first
            | (refine ⟨trivial, ?_⟩; gi_at_call 60; refine (CallsIn.inRound _ (callsIn_wide.2 RN1.out)).mono ?_; rintro e W3 ⟨rfl, hb3⟩; have r03 := hfin _ _ _ (by omega) hb3 r02; have r13 := hfin _ _ _ (by omega) hb3 r12; have b3 : Boxed W3 (n0 + 2) 22 _ := hfin _ _ _ (by omega) hb3 hb2; have hc2 := Boxed.cell b3; have ho3 := ho2.kept (hgg _ hb3) (Classical.em _); have hz3 : n0 + 8 ≤ W3.heap.size := by have := hb3.size; omega)
            | (gi_at_builtin; refine wpListIn_append_own_at _ rfl _ _ 22 rfl (n0 + 2) 2 i0 (.int .i64 0) 1 8 Tryd.underlying22 hi hz0 hz1 hz2 rfl (by decide) _ _ _ rfl (ho3.alloc _) ⟨W3.heap.size, 0, none⟩ 1 1 [.int .i64 v] rfl rfl (cell_one_new _ _ _) (by simp [Value.oneCell']) hml (by omega) (by simp; omega) ?_; intro v' w4 hown' hgrow _ hblk; obtain ⟨g', cap', rfl⟩ := ownsRow_succ hown'; obtain ⟨hv1, hv2, hr2, hk2, hb4⟩ := b3.appended (by decide) ho3 (by omega) (Nat.le_refl _) hown' hgrow; have hc3 := hv1.cell; have hf3 := hv1.frozen))
          rw [hrec]
          have hrc3 := hfin _ _ _ (by omega) hb3 hrc2
          have hdf3 := hfin _ _ _ (by omega) hb3 hdf2
          have st3 : SplitSt (n0 + 3) t W3 := ⟨hfin _ _ _ (by omega) hb3 st2.s, hfin _ _ _ (by omega) hb3 st2.sep, hfin _ _ _ (by omega) hb3 st2.save⟩
          obtain ⟨v5, hv5⟩ : ∃ v5, Value.slice (some ⟨g', 0, none⟩) (L.length + 1) cap' = v5 := ⟨_, rfl⟩
          rw [hv5] at hv2 hr2 hk2 hb4 hblk ⊢
          obtain ⟨w5, hw5⟩ : ∃ w5, w4.setCell ⟨n0 + 2, 0, none⟩ v5 = w5 := ⟨_, rfl⟩
          have same5 : ∀ (k : Nat) (o : Obj), k < n0 + 8 → k ≠ n0 + 2 → W3.heap[k]? = some o → w5.heap[k]? = some o := fun k o hk hne h => by
            rw [← hw5]
            exact setc _ ((hgrow.block k (by simp; omega) (fun e => by have := hq k e.symm; omega)).trans ((Below.heap_alloc _ _ _ (by omega)).trans h)) hne
          rw [hw5] at hv2 hr2 hk2 hb4 ⊢
          have hrc5 := same5 _ _ (by omega) (by omega) hrc3
          have hdf5 := same5 _ _ (by omega) (by omega) hdf3
          have hz5 := (Array.getElem?_eq_some_iff.1 hrc5).1
          have hq5 : ∀ g, v5.ownBlock = some g → n0 + 8 ≤ g := fun g e => by
            rcases hblk with hk | hk
            · exact hq g (hk.symm.trans e)
            · rw [e] at hk; simp at hk; omega
          have bl5 : Below n0 w (w5.putObj (n0 + 7) (.loop { ({ rec with state := .busy } : Loop) with state := if (none : Option Code).isNone then .ready else .done, pending := none })) :=
            ((bl2.trans (hb3.mono (by omega))).trans (hb4.mono (by omega))).grown (grownBy_putObj' _ (n0 + 7) _) (by omega) (fun j e => by cases e; omega)
          refine ⟨_, _, run_endRound _ hrc5, .inl ⟨rfl, ⟨?_, ?_, ⟨_, hns1.out, ?_⟩, ?_, ?_, ?_, ?_⟩, ?_⟩⟩
          · exact puto _ (same5 _ _ (by omega) (by omega) r03) (by omega)
          · exact puto _ (same5 _ _ (by omega) (by omega) r13) (by omega)
          · rw [htk.out, if_pos hlen]
            refine ⟨some ⟨g', 0, none⟩, cap', ?_, ?_, ?_⟩
            · rw [List.length_append]
              have := hv2
              rw [← hv5] at this
              exact puto _ this (by omega)
            · rw [List.length_append, List.map_append]
              have := hr2.kept (grownBy_putObj' w5 (n0 + 7) (.loop { ({ rec with state := .busy } : Loop) with state := if (none : Option Code).isNone then .ready else .done, pending := none })) (.inr fun e => by have := hq5 _ e; omega)
              rw [← hv5] at this
              exact this
            · rw [List.length_append]
              intro g e
              exact hq5 g (by rw [← hv5]; exact e)
          · exact (World.putObj_heap_same (Array.getElem?_eq_some_iff.1 hrc5).1).trans (by rw [← hrr]; rfl)
          · exact puto _ hdf5 (by omega)
          · exact bl5
          · exact hw.below bl5 (by omega)
          · exact ⟨puto _ (same5 _ _ (by omega) (by omega) st3.s) (by omega), puto _ (same5 _ _ (by omega) (by omega) st3.sep) (by omega), puto _ (same5 _ _ (by omega) (by omega) st3.save) (by omega)⟩
        · gi_wp2_with (refine ⟨trivial, ?_⟩; gi_at_call 60; refine (CallsIn.inRound _ (callsIn_wide.2 RN1.out)).mono ?_; rintro e W3 ⟨rfl, hb3⟩; have r03 := hfin _ _ _ (by omega) hb3 r02; have r13 := hfin _ _ _ (by omega) hb3 r12; have b3 := hfin _ _ _ (by omega) hb3 hb2; have hc2 := Boxed.cell b3)
          rw [hrec]
          have hrc3 := hfin _ _ _ (by omega) hb3 hrc2
          have hdf3 := hfin _ _ _ (by omega) hb3 hdf2
          have ho3 := ho2.kept (hgg _ hb3) (Classical.em _)
          have st3 : SplitSt (n0 + 3) t W3 := ⟨hfin _ _ _ (by omega) hb3 st2.s, hfin _ _ _ (by omega) hb3 st2.sep, hfin _ _ _ (by omega) hb3 st2.save⟩
          have hz3 := (Array.getElem?_eq_some_iff.1 hrc3).1
          have bl3 : Below n0 w (W3.putObj (n0 + 7) (.loop (({ rec with state := .busy } : Loop).1 |> fun _ => { ({ rec with state := .busy } : Loop) with state := if (none : Option Code).isNone then .ready else .done, pending := none }))) :=
            (bl2.trans (hb3.mono (by omega))).grown (grownBy_putObj' _ (n0 + 7) _) (by omega) (fun j e => by cases e; omega)
          refine ⟨_, _, run_endRound _ hrc3, .inl ⟨rfl, ⟨?_, ?_, ⟨_, hns1.out, ?_⟩, ?_, ?_, ?_, ?_⟩, ?_⟩⟩
          · exact puto _ r03 (by omega)
          · exact puto _ r13 (by omega)
          · rw [htk.out, if_neg hlen]
            exact ⟨_, _, puto _ b3 (by omega), ho3.kept (grownBy_putObj' _ (n0 + 7) _) (.inr fun e => by have := hq _ e; omega), hq⟩
          · exact (World.putObj_heap_same (Array.getElem?_eq_some_iff.1 hrc3).1).trans (by rw [← hrr]; rfl)
          · exact puto _ hdf3 (by omega)
          · exact bl3
          · exact hw.below bl3 (by omega)
          · exact ⟨puto _ st3.s (by omega), puto _ st3.sep (by omega), puto _ st3.save (by omega)⟩
    · rintro e W5 ⟨⟨v, rfl⟩, (⟨xs, hx, hR⟩ | ⟨pre, rest, hx, hR⟩)⟩
      · have hend := run_endLoop (P := Tryd.prog) hR.rc (by rw [← hrec]; simp)
        rw [show rec.pending = none by rw [← hrec]] at hend
        refine ⟨none, _, hend, ?_⟩
        obtain ⟨ns, hn, a, cap, hb, ho, hq⟩ := hR.ns
        obtain ⟨W6, hW6⟩ : ∃ W6, W5.putObj (n0 + 7) (.loop { rec with state := .exhausted, pending := none }) = W6 := ⟨_, rfl⟩
        have hg6 : W5.grownBy W6 (some (n0 + 7)) := by rw [← hW6]; exact grownBy_putObj' _ _ _
        have r06 := hR.r0.kept hg6 (by simp)
        have r16 := hR.r1.kept hg6 (by simp)
        have b6 := hb.kept hg6 (by simp)
        have o6 := ho.kept hg6 (.inr fun e => by have := hq _ e; omega)
        have d6 : W6.heap[n0 + 6]? = some (.deferred (some [])) := (hg6.block _ (Array.getElem?_eq_some_iff.1 hR.df).1 (by simp)).trans hR.df
        have bl6 : Below n0 w W6 := hR.bl.grown hg6 (by have := hR.r0.lt; omega) (fun j e => by cases e; omega)
        rw [hW6]
        obtain ⟨L, hL⟩ : ∃ L, ns.take 17 = L := ⟨_, rfl⟩
        rw [hL] at b6 o6 hq
        have c0 := r06.cell
        have f0 := r06.frozen
        have c1 := r16.cell
        have f1 := r16.frozen
        have c2 := b6.cell
        clear hend hW6 hb ho
        gi_wp2
        obtain ⟨W7, hW7⟩ : ∃ W7, (W6.setCell ⟨n0, 0, none⟩ (.slice a L.length cap)).setCell ⟨n0 + 1, 0, none⟩ (.bool true) = W7 := ⟨_, rfl⟩
        rw [hW7]
        have d7 : W7.heap[n0 + 6]? = some (.deferred (some [])) := by rw [← hW7]; exact setc _ (setc _ d6 (by omega)) (by omega)
        have r07 : Boxed W7 n0 22 (.slice a L.length cap) := by rw [← hW7]; exact setc _ (Boxed.set _ r06) (by omega)
        have r17 : Boxed W7 (n0 + 1) 4 (.bool true) := by rw [← hW7]; exact Boxed.set _ (setc _ r16 (by omega))
        have o7 : W7.ownsRow (n0 + 2) 2 1 (.slice a L.length cap) L.length (L.map (Value.int .i64)) := by
          rw [← hW7]
          exact (o6.kept (grownBy_setCell' _ n0 _) (.inr fun e => by have := hq _ e; omega)).kept (grownBy_setCell' _ (n0 + 1) _) (.inr fun e => by have := hq _ e; omega)
        have bl7 : Below n0 w W7 := by rw [← hW7]; exact (bl6.setCell (p := ⟨n0, 0, none⟩) (Nat.le_refl _) _).setCell (p := ⟨n0 + 1, 0, none⟩) (by simp) _
        clear hW7 c0 f0 c1 f1 c2
        refine ⟨by simp, .inl ⟨_, _, rfl, run_takeDeferred d7, ?_⟩⟩
        have g0 := Boxed.cell (puto (.deferred none) r07 (by omega : n0 ≠ n0 + 6))
        have g1 := Boxed.cell (puto (.deferred none) r17 (by omega : n0 + 1 ≠ n0 + 6))
        refine ⟨.tuple #[.slice a L.length cap, .bool true], by simp [results, Tryd.f59, go_sem, g0, g1], .inl ⟨xs, ns, _, hx, hn, rfl, ?_⟩, ?_⟩
        · rw [hL, hn0]
          exact row_mono (o7.kept (grownBy_putObj' _ (n0 + 6) _) (.inr fun e => by have := hq _ e; omega)) (by omega)
        · rw [hn0]
          exact bl7.grown (grownBy_putObj' _ (n0 + 6) _) (by have := r07.lt; omega) (fun j e => by cases e; omega)
      · have hend := run_endLoop (P := Tryd.prog) hR.rc (by simp)
        obtain ⟨W6, hW6⟩ : ∃ W6, W5.putObj (n0 + 7) (.loop { rec with state := .exhausted, pending := some .ret }) = W6 := ⟨_, rfl⟩
        rw [hW6] at hend
        refine ⟨some .ret, _, hend, ?_⟩
        have hg6 : W5.grownBy W6 (some (n0 + 7)) := by rw [← hW6]; exact grownBy_putObj' _ _ _
        have r06 := hR.r0.kept hg6 (by simp)
        have r16 := hR.r1.kept hg6 (by simp)
        have d6 : W6.heap[n0 + 6]? = some (.deferred (some [])) := (hg6.block _ (Array.getElem?_eq_some_iff.1 hR.df).1 (by simp)).trans hR.df
        have bl6 : Below n0 w W6 := hR.bl.grown hg6 (by have := hR.r0.lt; omega) (fun j e => by cases e; omega)
        gi_wp2
        refine ⟨by simp, .inl ⟨_, _, rfl, run_takeDeferred d6, ?_⟩⟩
        have g0 := Boxed.cell (puto (.deferred none) r06 (by omega : n0 ≠ n0 + 6))
        have g1 := Boxed.cell (puto (.deferred none) r16 (by omega : n0 + 1 ≠ n0 + 6))
        obtain ⟨x, hxm, hxn⟩ := hR.no
        refine ⟨.tuple #[.slice none 0 0, .bool false], by simp [results, Tryd.f59, go_sem, g0, g1], .inr ⟨pre ++ rest, hx, ⟨x, List.mem_append.2 (.inl hxm), hxn⟩, rfl⟩, ?_⟩
        rw [hn0]
        exact bl6.grown (grownBy_putObj' _ (n0 + 6) _) (by have := r06.lt; omega) (fun j e => by cases e; omega)

set_option maxHeartbeats 1000000 in
theorem readList_empty (w : World) : Calls Tryd.prog 59 #[.string ⟨#[]⟩] w fun e w' => e = .returned (.tuple #[.slice none 0 0, .bool true]) ∧ Below w.heap.size w w' := by
  go_enter Tryd.func59, Tryd.ntmps59
  go_wp2
  exact bodyPost_ret (v := .tuple #[.slice none 0 0, .bool true]) (by simp [results, Tryd.results59, go_sem]) rfl ⟨rfl, ((Below.refl _ _).alloc (Nat.le_refl _) _).alloc (by simp) _⟩

end Go.Proofs.YtdghknmlleffbaaDoor
