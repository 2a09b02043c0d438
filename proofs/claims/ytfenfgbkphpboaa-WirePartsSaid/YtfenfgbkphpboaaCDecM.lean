/-
  No statement: a Dec's methods; Of.
-/
import Derived.Test.YtfenfgbkphpboaaCDec
import Derived.Test.YtfenfgbkphpboaaCRSeal
namespace Go.Proofs.Ytfenfgbkphpboaa
open Go.RowKit

set_option maxHeartbeats 1000000 in
theorem decInt_any (p : Nat) (F : Nat → Prop) (d : DS) (w : World) (h : DecH w p F d) : Calls Try.prog 43 #[.pointer (some ⟨p, 0, none⟩)] w (DPost w p F (.int .i64 (dInt d).1) (dInt d).2) := by
  have NU := Lib.hid (numberI_any p F d (-9223372036854775808) 9223372036854775807 ⟨by omega, by omega⟩ ⟨by omega, by omega⟩ w h)
  unfold dInt
  obtain ⟨⟨n, D⟩, hD⟩ : ∃ r, dNum (-9223372036854775808) 9223372036854775807 d = r := ⟨_, rfl⟩
  rw [hD] at NU ⊢
  clear hD h
  go_enter Try.func43, Try.ntmps43
  go_wp2_with fail
  refine NU.out.mono ?_
  rintro e w2 ⟨rfl, hd⟩
  have P := Lib.hid (show DPost w p F (.int .i64 n) D (.returned (.int .i64 n)) w2 from ⟨rfl, hd⟩)
  clear hd
  go_wp2_with fail
  go_ret
  exact P.out

set_option maxHeartbeats 1000000 in
theorem decMany_any (p : Nat) (F : Nat → Prop) (d : DS) (most : Int) (h0 : -9223372036854775808 ≤ most ∧ most ≤ 9223372036854775807) (w : World) (h : DecH w p F d) : Calls Try.prog 71 #[.pointer (some ⟨p, 0, none⟩), .int .i64 most] w (DPost w p F (.int .i64 (dNum 0 most d).1) (dNum 0 most d).2) := by
  have NU := Lib.hid (numberN_any p F d 0 most ⟨by omega, by omega⟩ h0 w h)
  obtain ⟨⟨n, D⟩, hD⟩ : ∃ r, dNum 0 most d = r := ⟨_, rfl⟩
  rw [hD] at NU ⊢
  clear hD h h0
  go_enter Try.func71, Try.ntmps71
  go_wp2_with fail
  refine NU.out.mono ?_
  rintro e w2 ⟨rfl, hd⟩
  have P := Lib.hid (show DPost w p F (.int .i64 n) D (.returned (.int .i64 n)) w2 from ⟨rfl, hd⟩)
  clear hd
  go_wp2_with fail
  go_ret
  exact P.out

set_option maxHeartbeats 1000000 in
theorem decLeft_any (p : Nat) (F : Nat → Prop) (d : DS) (w : World) (h : DecH w p F d) : Calls Try.prog 24 #[.pointer (some ⟨p, 0, none⟩)] w fun e w' => e = .returned (.int .i64 (d.1.length : Nat)) ∧ w' = w := by
  obtain ⟨a, c, h0, -⟩ := h
  have c0 := cell0_of_two h0
  clear h0
  go_enter Try.func24, Try.ntmps24
  go_wp2_with fail
  go_ret
  exact ⟨rfl, rfl⟩

set_option maxHeartbeats 1000000 in
theorem decErr_any (p : Nat) (F : Nat → Prop) (d : DS) (w : World) (h : DecH w p F d) : Calls Try.prog 25 #[.pointer (some ⟨p, 0, none⟩)] w fun e w' => e = .returned (.int .i64 d.2) ∧ w' = w := by
  obtain ⟨a, c, h0, -⟩ := h
  have c1 := cell1_of_two h0
  clear h0
  go_enter Try.func25, Try.ntmps25
  go_wp2_with fail
  go_ret
  exact ⟨rfl, rfl⟩

/-- A new Dec that reads l, in new blocks. -/
def OfP (w : World) (l : List UInt8) (e : Ending) (w' : World) : Prop := ∃ p, e = .returned (.pointer (some ⟨p, 0, none⟩)) ∧ DecH w' p (fun k => w.heap.size ≤ k ∧ k < w'.heap.size) (l, 0) ∧ Below w.heap.size w w'

set_option maxHeartbeats 1000000 in
theorem of_any (a : Option Addr) (c : Nat) (l : List UInt8) (hl : l.length ≤ 100000000000) (w : World) (h : BR w a c l) : Calls Try.prog 18 #[.slice a l.length c] w (OfP w l) := by
  have CL := Lib.hid (clone_any a c l hl w h)
  clear h
  go_enter Try.func18, Try.ntmps18
  go_wp2_with fail
  refine CL.out.mono ?_
  rintro e w2 ⟨a2, c2, rfl, ho, hb⟩
  have P := Lib.hid (show OfP w l (.returned (.pointer (some ⟨w2.heap.size, 0, none⟩))) (w2.alloc (.cells #[.slice a2 l.length c2, .int .i64 0] 91)) from
    ⟨_, rfl, ⟨a2, c2, heap_alloc_new w2 _, (ho.alloc _).br, fun x hx => by
      subst hx
      have hlt := ho.lt
      have hob : (Value.slice (some x) l.length c2).ownBlock = some x.block ∧ ∃ b off, x = ⟨b, off, none⟩ := by
        rcases ho.2 with ⟨h1, _⟩ | ⟨g, cap, _, h1, _⟩
        · simp at h1
        · simp only [Value.slice.injEq, Option.some.injEq] at h1
          obtain ⟨rfl, _⟩ := h1
          exact ⟨rfl, _, _, rfl⟩
      obtain ⟨h1, h2⟩ := hlt _ hob.1
      exact ⟨by omega, ⟨h1, by simp; omega⟩, hob.2⟩, by have := hb.size; simp; omega⟩, hb.alloc hb.size _⟩)
  clear ho hb
  go_wp2_with fail
  go_ret
  exact P.out

theorem BR.take {w : World} {b off c : Nat} {l : List UInt8} (h : BR w (some ⟨b, off, none⟩) c l) (k : Nat) : BR w (some ⟨b, off, none⟩) c (l.take k) := by
  have : BR w (some ⟨b, off, none⟩) c (l.take k ++ l.drop k) := by rw [List.take_append_drop]; exact h
  exact this.front

set_option maxHeartbeats 2000000 in
set_option maxRecDepth 100000 in
theorem decText_any (p : Nat) (F : Nat → Prop) (d : DS) (w : World) (h : DecH w p F d) : Calls Try.prog 44 #[.pointer (some ⟨p, 0, none⟩)] w (DPost w p F (.string ⟨(dText d).1.toArray⟩) (dText d).2) := by
  have NU := Lib.hid (numberI_any p F d 0 9223372036854775807 ⟨by omega, by omega⟩ ⟨by omega, by omega⟩ w h)
  have hn0 : 0 ≤ (dNum 0 9223372036854775807 d).1 := by rcases dNum_bound 0 9223372036854775807 d with h | h <;> exact h
  unfold dText
  obtain ⟨⟨n, L, E⟩, hD⟩ : ∃ r, dNum 0 9223372036854775807 d = r := ⟨_, rfl⟩
  rw [hD] at NU hn0 ⊢
  simp only at NU hn0 ⊢
  obtain ⟨k, rfl⟩ := Int.eq_ofNat_of_zero_le hn0
  simp only [Int.toNat_natCast]
  clear hD h hn0
  by_cases hk : L.length < k
  · rw [if_pos (by omega)]
    have FA := Lib.hid (fun w' h => fail_any p F (L, E) 3 w' h)
    obtain ⟨D, hD⟩ : ∃ D, failD (L, E) 3 = D := ⟨_, rfl⟩
    rw [hD] at FA ⊢
    clear hD
    go_enter Try.func44, Try.ntmps44
    go_wp2_with fail
    refine NU.out.mono ?_
    rintro e w2 ⟨rfl, hd, hk2⟩
    have HD := Lib.hid hd
    have HK := Lib.hid hk2
    obtain ⟨a, c, h0, h1, -⟩ := hd
    have c0 := cell0_of_two h0
    have hLc := h1.1
    have hcm : c ≤ 9223372036854775807 := by have := h1.2.1; unfold maxLen at this; omega
    clear h0 h1 hk2
    simp only at c0 hLc
    go_wp2_with fail
    refine (FA.out _ HD.out).mono ?_
    rintro e w3 ⟨rfl, hd3, hk3⟩
    have P := Lib.hid (show DPost w p F (.string ⟨#[]⟩) D (.returned (.string ⟨#[]⟩)) w3 from ⟨rfl, hd3, HK.out.trans hk3 (fun _ h _ => h)⟩)
    clear hd3 hk3
    go_wp2_with fail
    go_ret
    exact P.out
  · rw [if_neg (by omega)]
    have hkL : k ≤ L.length := by omega
    clear hk
    go_enter Try.func44, Try.ntmps44
    go_wp2_with fail
    refine NU.out.mono ?_
    rintro e w2 ⟨rfl, hd, hk2⟩
    have HK := Lib.hid hk2
    obtain ⟨a, c, h0, h1, h2, h3⟩ := hd
    have c0 := cell0_of_two h0
    have f0 := free_of_two h0 0
    have hLc := h1.1
    have hcm : c ≤ 9223372036854775807 := by have := h1.2.1; unfold maxLen at this; omega
    simp only at c0 hLc h0 h1
    clear hk2
    cases a with
    | none =>
      have hc0 : c = 0 := by
        rcases h1.2.2 with ⟨_, h⟩ | ⟨_, x, h⟩ | ⟨_, _, h, _⟩
        · exact h
        · cases h
        · cases h
      have hL0 : L = [] := List.length_eq_zero_iff.1 (by omega)
      subst hL0; subst hc0
      obtain rfl : k = 0 := by simpa using hkL
      have cv := strB h1
      have P := Lib.hid (show DPost w p F (.string ⟨(List.take 0 ([] : List UInt8)).toArray⟩) (List.drop 0 [], E) (.returned (.string ⟨#[]⟩)) (w2.setCell ⟨p, 0, none⟩ (.slice none 0 0)) from
        ⟨rfl, ⟨none, 0, two_set0 h0 _, BR.nil _, h2, h3⟩, HK.out.trans (kept_p w2 p 0 _) (fun _ h _ => h)⟩)
      clear h0 h1 h2 h3
      simp only [List.length_nil] at cv
      go_wp2_with fail
      go_ret
      exact P.out
    | some x =>
      obtain ⟨b, off, rfl⟩ := (h2 x rfl).2.2
      have cv := strB (h1.take k)
      rw [List.length_take_of_le hkL] at cv
      by_cases hck : c = k
      · subst hck
        have hLk : L.length = c := by omega
        have P := Lib.hid (show DPost w p F (.string ⟨(L.take c).toArray⟩) (L.drop c, E) (.returned (.string ⟨(L.take c).toArray⟩)) (w2.setCell ⟨p, 0, none⟩ (.slice (some ⟨b, off, none⟩) 0 0)) from ⟨rfl, by
          have := DecH.put0 (F := F) h0 (h1.drop_end hkL rfl) h2 h3
          rw [List.length_drop, hLk, Nat.sub_self] at this
          exact this, HK.out.trans (kept_p w2 p 0 _) (fun _ h _ => h)⟩)
        rw [hLk] at c0
        clear h0 h1 h2 h3 hLk
        go_wp2_with fail
        go_ret
        exact P.out
      · have P := Lib.hid (show DPost w p F (.string ⟨(L.take k).toArray⟩) (L.drop k, E) (.returned (.string ⟨(L.take k).toArray⟩)) (w2.setCell ⟨p, 0, none⟩ (.slice (some ⟨b, off + k, none⟩) (L.length - k) (c - k))) from ⟨rfl, by
          have := DecH.put0 (F := F) h0 (h1.drop hkL) (fun x hx => by cases hx; have h := h2 ⟨b, off, none⟩ rfl; exact ⟨h.1, h.2.1, _, _, rfl⟩) h3
          rw [List.length_drop] at this
          exact this, HK.out.trans (kept_p w2 p 0 _) (fun _ h _ => h)⟩)
        clear h0 h1 h2 h3
        go_wp2_with fail
        go_ret
        exact P.out

end Go.Proofs.Ytfenfgbkphpboaa
