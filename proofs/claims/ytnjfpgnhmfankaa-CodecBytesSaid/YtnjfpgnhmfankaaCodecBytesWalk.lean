/-
  No statement: the walk of the law CodecBytes.
-/
import Derived.Test.YtnjfpgnhmfankaaCKnownW
import Derived.Test.YtnjfpgnhmfankaaRDecM
import Derived.Test.YtnjfpgnhmfankaaItems
import Derived.Deep.RegionHeld3
namespace Go.Proofs.Ytnjfpgnhmfankaa
open Go.RowKit

/-- The program's Dec and the document's, of the same bytes, in blocks of their own. -/
structure CB (w0 w : World) (q p : Nat) (F : Nat → Prop) (B : List UInt8) (d d' : DS) : Prop where
  dd : DecH w q F d'
  mm : ∃ k bad, RDecH w0.heap.size w p B k bad ∧ SameD B k bad d
  b : Below w0.heap.size w0 w
  f : ∀ k, F k → w0.heap.size ≤ k ∧ k ≠ p

theorem DecH.own {w : World} {q : Nat} {F : Nat → Prop} {d : DS} (h : DecH w q F d) : F q := by obtain ⟨_, _, _, _, _, h⟩ := h; exact h
theorem RDecH.own {N : Nat} {w : World} {p k : Nat} {B : List UInt8} {bad : Int} (h : RDecH N w p B k bad) : N ≤ p := by obtain ⟨_, _, _, _, _, h⟩ := h; exact h

/-- Behind a call of the program's. -/
theorem CB.stepD {w0 w w' : World} {q p : Nat} {F : Nat → Prop} {B : List UInt8} {d d' d1 : DS} {r : Value} {e : Ending} (h : CB w0 w q p F B d d') (hP : DPost w q F r d1 e w') : e = .returned r ∧ CB w0 w' q p F B d d1 := by
  obtain ⟨he, hd, hk⟩ := hP
  obtain ⟨k, bad, hm, hs⟩ := h.mm
  have hq := h.f q h.dd.own
  exact ⟨he, hd, ⟨k, bad, hm.kept hk (fun e => hq.2 e.symm) (fun i hi => by subst hi; exact hq.1), hs⟩, h.b.trans (hk.below (fun i hi => by subst hi; exact hq.1) h.b.size), h.f⟩

/-- Behind a call of the document's. -/
theorem CB.stepM {w0 w w' : World} {q p : Nat} {F : Nat → Prop} {B : List UInt8} {d d' d1 : DS} {r : Value} {e : Ending} (h : CB w0 w q p F B d d') (hP : RSame w0.heap.size w p B r d1 e w') : e = .returned r ∧ CB w0 w' q p F B d1 d' := by
  obtain ⟨k, bad, he, hm, hs, hk⟩ := hP
  have hp := hm.own
  exact ⟨he, h.dd.kept hk (fun i hi e => (h.f i hi).2 e), ⟨k, bad, hm, hs⟩, h.b.trans (hk.below (fun i hi => by subst hi; exact hp) h.b.size), h.f⟩

theorem CB.drewN {w0 w : World} {q p : Nat} {F : Nat → Prop} {B : List UInt8} {d d' : DS} (h : CB w0 w q p F B d d') (n : Nat) : CB w0 (w.drewN n) q p F B d d' :=
  ⟨h.dd, h.mm, h.b.trans (((Kept.refl (fun _ => False) w).drewN n).below (fun _ h => h.elim) h.b.size), h.f⟩

theorem CB.int {w0 w : World} {q p : Nat} {F : Nat → Prop} {B : List UInt8} {d : DS} (h : CB w0 w q p F B d d) : Calls Try.prog 16 #[.pointer (some ⟨q, 0, none⟩)] w fun e w' => e = .returned (.int .i64 (dInt d).1) ∧ CB w0 w' q p F B d (dInt d).2 :=
  (decInt_any q F d w h.dd).mono fun _ _ hP => h.stepD hP
theorem CB.text {w0 w : World} {q p : Nat} {F : Nat → Prop} {B : List UInt8} {d : DS} (h : CB w0 w q p F B d d) : Calls Try.prog 15 #[.pointer (some ⟨q, 0, none⟩)] w fun e w' => e = .returned (.string ⟨(dText d).1.toArray⟩) ∧ CB w0 w' q p F B d (dText d).2 :=
  (decText_any q F d w h.dd).mono fun _ _ hP => h.stepD hP
theorem CB.many {w0 w : World} {q p : Nat} {F : Nat → Prop} {B : List UInt8} {d : DS} (most : Int) (hm : -9223372036854775808 ≤ most ∧ most ≤ 9223372036854775807) (h : CB w0 w q p F B d d) : Calls Try.prog 21 #[.pointer (some ⟨q, 0, none⟩), .int .i64 most] w fun e w' => e = .returned (.int .i64 (dNum 0 most d).1) ∧ CB w0 w' q p F B d (dNum 0 most d).2 :=
  (decMany_any q F d most hm w h.dd).mono fun _ _ hP => h.stepD hP
theorem CB.rInt {w0 w : World} {q p : Nat} {F : Nat → Prop} {B : List UInt8} {d d' : DS} (hB : B.length ≤ 1000000) (h : CB w0 w q p F B d d') : Calls Try.prog 19 #[.pointer (some ⟨p, 0, none⟩)] w fun e w' => e = .returned (.int .i64 (dInt d).1) ∧ CB w0 w' q p F B (dInt d).2 d' := by
  obtain ⟨k, bad, hm, hs⟩ := h.mm
  exact (rIntS_any p B k bad d hs hB w hm).mono fun _ _ hP => h.stepM hP
theorem CB.rText {w0 w : World} {q p : Nat} {F : Nat → Prop} {B : List UInt8} {d d' : DS} (hB : B.length ≤ 1000000) (h : CB w0 w q p F B d d') : Calls Try.prog 20 #[.pointer (some ⟨p, 0, none⟩)] w fun e w' => e = .returned (.string ⟨(dText d).1.toArray⟩) ∧ CB w0 w' q p F B (dText d).2 d' := by
  obtain ⟨k, bad, hm, hs⟩ := h.mm
  exact (rText_any p B k bad d hs hB w hm).mono fun _ _ hP => h.stepM hP
theorem CB.rMany {w0 w : World} {q p : Nat} {F : Nat → Prop} {B : List UInt8} {d d' : DS} (hB : B.length ≤ 1000000) (most : Int) (hm0 : -9223372036854775808 ≤ most ∧ most ≤ 9223372036854775807) (h : CB w0 w q p F B d d') : Calls Try.prog 22 #[.pointer (some ⟨p, 0, none⟩), .int .i64 most] w fun e w' => e = .returned (.int .i64 (dNum 0 most d).1) ∧ CB w0 w' q p F B (dNum 0 most d).2 d' := by
  obtain ⟨k, bad, hm, hs⟩ := h.mm
  exact (rMany_any p B k bad d most hm0 hs hB w hm).mono fun _ _ hP => h.stepM hP
theorem CB.rLeft {w0 w : World} {q p : Nat} {F : Nat → Prop} {B : List UInt8} {d d' : DS} (hB : B.length ≤ 1000000) (h : CB w0 w q p F B d d') : Calls Try.prog 23 #[.pointer (some ⟨p, 0, none⟩)] w fun e w' => e = .returned (.int .i64 (d.1.length : Nat)) ∧ ∃ n, w' = w.drewN n := by
  obtain ⟨k, bad, hm, hs⟩ := h.mm
  exact rLeft_any p B k bad d hs hB w hm
theorem CB.bad {w0 w : World} {q p : Nat} {F : Nat → Prop} {B : List UInt8} {d d' : DS} (h : CB w0 w q p F B d d') : w.cell? ⟨p, 2, none⟩ = some (.int .i64 d.2) := by
  obtain ⟨k, bad, hm, hs⟩ := h.mm
  rw [hs.2.1]; exact hm.bad

theorem CB.start {w0 w1 w2 : World} {a : Option Addr} {c : Nat} {B : List UInt8} {q : Nat} (h0 : Below w0.heap.size w0 w1) (hB : BR w0 a c B) (hd : DecN w1 w2 q (B, 0)) :
    CB w0 (w2.alloc (.cells #[.slice a B.length c, .int .i64 0, .int .i64 0] 45)) q w2.heap.size (fun k => w1.heap.size ≤ k ∧ k < w2.heap.size) B (B, 0) (B, 0) := by
  have b2 : Below w0.heap.size w0 w2 := h0.trans (hd.2.mono h0.size)
  have bn := below_new w2 (.cells #[.slice a B.length c, .int .i64 0, .int .i64 0] 45)
  refine ⟨hd.1.kept ((Kept.refl (fun _ => False) w2).alloc _) (fun _ _ h => h), ⟨0, 0, ⟨a, c, heap_alloc_new w2 _, (hB.kept b2).kept bn, fun x hx hl => ?_, b2.size⟩, Nat.zero_le _, rfl, rfl⟩, b2.alloc b2.size _, fun k hk => ⟨by have := h0.size; omega, by omega⟩⟩
  subst hx
  obtain ⟨b, off, hx, hc⟩ := hB.cells (List.length_pos_iff.2 hl)
  cases hx
  have := World.block_lt_of_cell? w0 _ (hc 0 (List.length_pos_iff.2 hl))
  simpa using this

set_option maxRecDepth 100000 in
set_option maxHeartbeats 4000000 in
theorem codecBytes_walk (a : Option Addr) (c : Nat) (B : List UInt8) (a' : Option Addr) (c' : Nat) (l : List It) (w : World) (h : BR w a c B) (hl : IsIts w a' l) :
    Calls Try.prog 4 #[.slice a B.length c, .slice a' l.length c'] w fun e w' => e = .returned (.bool true) ∧ Below w.heap.size w w' := by
  have hll : B.length ≤ 9223372036854775807 := by have := h.1; have := h.2.1; unfold maxLen at this; omega
  have hlm : l.length ≤ 9223372036854775807 := hl.1
  have H := Lib.hid h
  have HI := Lib.hid hl
  clear h hl
  go_enter Try.func4, Try.ntmps4
  go_wp2_with fail
  refine (known_any w).mono ?_
  rintro e w1 ⟨rfl, hb1⟩
  have B1 := Lib.hid hb1
  clear hb1
  by_cases hl1 : 1000 < B.length
  · go_wp2_with fail
    go_ret
    exact ⟨rfl, B1.out⟩
  by_cases hl2 : 60 < l.length
  · go_wp2_with fail
    go_ret
    exact ⟨rfl, B1.out⟩
  go_wp2_with fail
  refine (of_any a c B (by omega) w1 (H.out.kept B1.out)).mono ?_
  rintro e w2 hP
  obtain ⟨q, rfl, hD⟩ := DecN.of hP
  have C2 := Lib.hid (CB.start B1.out H.out hD)
  clear hP hD
  obtain ⟨F, hF⟩ : ∃ F : Nat → Prop, (fun k => w1.heap.size ≤ k ∧ k < w2.heap.size) = F := ⟨_, rfl⟩
  rw [hF] at C2
  obtain ⟨p, hp⟩ : ∃ p, w2.heap.size = p := ⟨_, rfl⟩
  have HB : Hid (B.length ≤ 1000000) := Lib.hid (by omega)
  go_wp2_with fail
  generalize hW : World.alloc w2 _ = W
  rw [hW, hp] at C2
  clear hF hp hW
  go_loopw [7] (fun i wr => ∃ (k : Nat) (d : DS), i = .int .i64 k ∧ k ≤ l.length ∧ Hid (CB w wr q p F B d d)) (fun i _ => l.length - (intOf i).toNat)
  case atStart => exact ⟨0, _, rfl, Nat.zero_le _, C2⟩
  case round =>
    obtain ⟨k, d, rfl, hk, hC⟩ := hrel
    by_cases hlt : k < l.length
    · obtain ⟨b, off, rfl, hc⟩ := (HI.out.kept hC.out.b).2.2.resolve_left (fun h => by rw [h] at hlt; simp at hlt)
      obtain ⟨x0, -, -, -⟩ := hc k hlt
      obtain ⟨-, -, -, xm⟩ := HI.out.2.1 l[k] (List.getElem_mem hlt)
      have HC := Lib.hid (fun (w' : World) (hb : Below w.heap.size w w') => by
        obtain ⟨b', off', hx, hc⟩ := (HI.out.kept hb).2.2.resolve_left (fun h => by rw [h] at hlt; simp at hlt)
        cases hx
        exact (hc k hlt).2.2.2)
      obtain ⟨x, hx⟩ : ∃ x, l[k] = x := ⟨_, rfl⟩
      rw [hx] at x0 xm HC
      have XM := Lib.hid xm
      clear hc hx xm
      by_cases h1 : x.k = 1
      · rw [h1] at x0
        clear h1
        go_wp2_with fail
        refine (hC.out.int).mono ?_
        rintro e w3 ⟨rfl, h3⟩
        have C3 := Lib.hid h3
        clear h3
        go_wp2_with fail
        refine (C3.out.rInt HB.out).mono ?_
        rintro e wx ⟨rfl, h4⟩
        have CC := Lib.hid h4
        clear h4 C3
        obtain ⟨⟨n, D⟩, hD⟩ : ∃ r, dInt d = r := ⟨_, rfl⟩
        rw [hD] at CC
        rw [hD]
        simp only at CC
        clear hD
        have cb := CC.out.bad
        have LQ := Lib.hid (fun n => decLeft_any q F D (wx.drewN n) (CC.out.drewN n).dd)
        have EQ := Lib.hid (fun n => decErr_any q F D (wx.drewN n) (CC.out.drewN n).dd)
        have RL := Lib.hid (fun n => (CC.out.drewN n).rLeft HB.out)
        go_wp2_with fail
        go_quiet ((first
          | (go_at_call 17; refine (LQ.out _).mono ?_; rintro e w' ⟨he, hw⟩; exact ⟨he, _, hw⟩)
          | (go_at_call 18; refine (EQ.out _).mono ?_; rintro e w' ⟨he, hw⟩; exact ⟨he, _, hw⟩)
          | (go_at_call 23; refine (RL.out _).mono ?_; rintro e w' ⟨he, n, hw⟩; exact ⟨he, _, by rw [hw, World.drewN_drewN]⟩)))
        clear cb LQ EQ RL
        go_wp2_with fail
        go_roundw
        case rel => exact ⟨k + 1, D, by go_num, by omega, Lib.hid (CC.out.drewN _)⟩
        case measure => simp [intOf]; omega
      by_cases h2 : x.k = 2
      · rw [h2] at x0
        clear h1 h2
        go_wp2_with fail
        refine (hC.out.text).mono ?_
        rintro e w3 ⟨rfl, h3⟩
        have C3 := Lib.hid h3
        clear h3
        go_wp2_with fail
        refine (C3.out.rText HB.out).mono ?_
        rintro e wx ⟨rfl, h4⟩
        have CC := Lib.hid h4
        clear h4 C3
        obtain ⟨⟨n, D⟩, hD⟩ : ∃ r, dText d = r := ⟨_, rfl⟩
        rw [hD] at CC
        rw [hD]
        simp only at CC
        clear hD
        have cb := CC.out.bad
        have LQ := Lib.hid (fun n => decLeft_any q F D (wx.drewN n) (CC.out.drewN n).dd)
        have EQ := Lib.hid (fun n => decErr_any q F D (wx.drewN n) (CC.out.drewN n).dd)
        have RL := Lib.hid (fun n => (CC.out.drewN n).rLeft HB.out)
        go_wp2_with fail
        go_quiet ((first
          | (go_at_call 17; refine (LQ.out _).mono ?_; rintro e w' ⟨he, hw⟩; exact ⟨he, _, hw⟩)
          | (go_at_call 18; refine (EQ.out _).mono ?_; rintro e w' ⟨he, hw⟩; exact ⟨he, _, hw⟩)
          | (go_at_call 23; refine (RL.out _).mono ?_; rintro e w' ⟨he, n, hw⟩; exact ⟨he, _, by rw [hw, World.drewN_drewN]⟩)))
        clear cb LQ EQ RL
        go_wp2_with fail
        go_roundw
        case rel => exact ⟨k + 1, D, by go_num, by omega, Lib.hid (CC.out.drewN _)⟩
        case measure => simp [intOf]; omega
      by_cases h3 : x.k = 3
      · rw [h3] at x0
        clear h1 h2 h3
        obtain ⟨km, hkm⟩ : ∃ km, x.m = km := ⟨_, rfl⟩
        rw [hkm] at HC XM
        have C1 := Lib.hid (CB.many (w := wr.drew) km XM.out (hC.out.drewN 1))
        have C2' := Lib.hid (fun w' D' (h : CB w w' q p F B d D') => CB.rMany HB.out km XM.out h)
        obtain ⟨⟨n, D⟩, hD⟩ : ∃ r, dNum 0 km d = r := ⟨_, rfl⟩
        rw [hD] at C1 C2'
        simp only at C1 C2'
        have cc := HC.out wr.drew (hC.out.drewN 1).b
        clear hD hkm
        go_wp2_with fail
        go_region_held3 (fun w' => w'.cell? ⟨b, off + k * 4 + 3, none⟩ = some (.int .i64 km)) (first | assumption | exact cc) (first
          | (go_at_call 21
             with_reducible refine C1.out.mono ?_
             rintro e w3 ⟨rfl, h3⟩
             have C3 := Lib.hid h3
             have cc := HC.out w3 C3.out.b
             clear h3)
          | (go_at_call 22
             with_reducible refine (C2'.out _ _ C3.out).mono ?_
             rintro e wx ⟨rfl, h4⟩
             have CC := Lib.hid h4
             have cc := HC.out wx CC.out.b
             clear h4 C3)
          | fail)
        clear cc C1 C2'
        have cb := CC.out.bad
        have LQ := Lib.hid (fun n => decLeft_any q F D (wx.drewN n) (CC.out.drewN n).dd)
        have EQ := Lib.hid (fun n => decErr_any q F D (wx.drewN n) (CC.out.drewN n).dd)
        have RL := Lib.hid (fun n => (CC.out.drewN n).rLeft HB.out)
        go_wp2_with fail
        go_quiet ((first
          | (go_at_call 17; refine (LQ.out _).mono ?_; rintro e w' ⟨he, hw⟩; exact ⟨he, _, hw⟩)
          | (go_at_call 18; refine (EQ.out _).mono ?_; rintro e w' ⟨he, hw⟩; exact ⟨he, _, hw⟩)
          | (go_at_call 23; refine (RL.out _).mono ?_; rintro e w' ⟨he, n, hw⟩; exact ⟨he, _, by rw [hw, World.drewN_drewN]⟩)))
        clear cb LQ EQ RL
        go_wp2_with fail
        go_roundw
        case rel => exact ⟨k + 1, D, by go_num, by omega, Lib.hid (CC.out.drewN _)⟩
        case measure => simp [intOf]; omega
      have h1' : (x.k == 1) = false := by simpa using h1
      have h2' : (x.k == 2) = false := by simpa using h2
      have h3' : (x.k == 3) = false := by simpa using h3
      have CC : Hid (CB w wr q p F B d d) := Lib.hid hC.out
      clear h1 h2 h3
      have cb := CC.out.bad
      have LQ := Lib.hid (fun n => decLeft_any q F d (wr.drewN n) (CC.out.drewN n).dd)
      have EQ := Lib.hid (fun n => decErr_any q F d (wr.drewN n) (CC.out.drewN n).dd)
      have RL := Lib.hid (fun n => (CC.out.drewN n).rLeft HB.out)
      go_wp2_with fail
      go_quiet ((first
        | (go_at_call 17; refine (LQ.out _).mono ?_; rintro e w' ⟨he, hw⟩; exact ⟨he, _, hw⟩)
        | (go_at_call 18; refine (EQ.out _).mono ?_; rintro e w' ⟨he, hw⟩; exact ⟨he, _, hw⟩)
        | (go_at_call 23; refine (RL.out _).mono ?_; rintro e w' ⟨he, n, hw⟩; exact ⟨he, _, by rw [hw, World.drewN_drewN]⟩)))
      clear cb LQ EQ RL
      go_wp2_with fail
      go_roundw
      case rel => exact ⟨k + 1, d, by go_num, by omega, Lib.hid (CC.out.drewN _)⟩
      case measure => simp [intOf]; omega
    · obtain rfl : k = l.length := by omega
      go_wp2_with fail
      go_ret
      exact ⟨rfl, hC.out.b⟩

end Go.Proofs.Ytnjfpgnhmfankaa
