/-
  No statement: the document's SameRows; rows of cantonlaw14.
-/
import Derived.Test.YtpdobbdbmgeoiaaGreatDgSame
import Derived.Test.YtpdobbdbmgeoiaaGreatDgRows
set_option linter.unusedVariables false
set_option linter.unusedSimpArgs false
namespace Go.Proofs.YtpdobbdbmgeoiaaGreat
open Go.RowKit

set_option maxRecDepth 100000 in
set_option maxHeartbeats 8000000 in
theorem same21_any (a b : Option Addr) (n c c' : Nat) (R S : Nat → RD) (hR : ∀ j, j < n → (R j).len ≤ 1000) (hs : ∀ j, j < n → sameR (R j) (S j) = true) (w : World) (h1 : ReadsR w a n R) (h2 : ReadsR w b n S) :
    Calls Tryz.prog 30 #[.slice a n c, .slice b n c'] w fun e w' => e = .returned (.bool true) ∧ Below w.heap.size w w' := by
  have hm := h1.1
  unfold maxLen at hm
  have H1 := Lib.hid h1
  have H2 := Lib.hid h2
  have HL := Lib.hid hR
  have HS := Lib.hid hs
  clear h1 h2 hR hs
  go_enter Tryz.func30, Tryz.ntmps30
  go_wp2_with fail
  go_loopw [5] (fun i wr => ∃ k : Nat, i = .int .i64 k ∧ k ≤ n ∧ Hid (Below w.heap.size w wr)) (fun i _ => n - (intOf i).toNat)
  case atStart => exact ⟨0, rfl, Nat.zero_le _, Lib.hid (Below.refl _ _)⟩
  case round =>
    obtain ⟨k, rfl, hk, hB⟩ := hrel
    by_cases hlt : k < n
    · have e1 : (k : Int) < (n : Int) := by omega
      obtain ⟨b1, o1, y1, c1, hab1, -, p6, hy1⟩ := (H1.out.below hB.out).cells hlt
      obtain ⟨b2, o2, y2, c2, hab2, -, q6, hy2⟩ := (H2.out.below hB.out).cells hlt
      subst hab1
      subst hab2
      have hl := HL.out k hlt
      have hs := HS.out k hlt
      obtain ⟨x, hx⟩ : ∃ x, R k = x := ⟨_, rfl⟩
      obtain ⟨X, hX⟩ : ∃ x, S k = x := ⟨_, rfl⟩
      rw [hx] at p6 hy1 hl hs
      rw [hX] at q6 hy2 hs
      have HDR := Lib.hid (drewD wr)
      have SM := Lib.hid (p := Calls Tryz.prog 20 #[.agg #[.string x.key, .int .i64 x.t, .int .i64 x.i, .int .i64 x.q, .string x.o, .slice y1 x.len c1], .agg #[.string X.key, .int .i64 X.t, .int .i64 X.i, .int .i64 X.q, .string X.o, .slice y2 X.len c2]] wr.drew fun e w' => e = .returned (.bool true) ∧ Below wr.drew.heap.size wr.drew w') (by
        have := xSame_any x X y1 y2 c1 c2 (by omega) wr.drew (hy1.plain.kept HDR.out) (hy2.plain.kept HDR.out)
        rwa [hs] at this)
      have HC := Lib.hid (p := ∀ w', Below wr.heap.size wr w' → (w'.cell? ⟨b1, o1 + k * 6, none⟩ = some (.string x.key) ∧ w'.cell? ⟨b1, o1 + k * 6 + 1, none⟩ = some (.int .i64 x.t) ∧ w'.cell? ⟨b1, o1 + k * 6 + 2, none⟩ = some (.int .i64 x.i) ∧ w'.cell? ⟨b1, o1 + k * 6 + 3, none⟩ = some (.int .i64 x.q) ∧ w'.cell? ⟨b1, o1 + k * 6 + 4, none⟩ = some (.string x.o) ∧ w'.cell? ⟨b1, o1 + k * 6 + 5, none⟩ = some (.slice y1 x.len c1)) ∧ w'.cell? ⟨b2, o2 + k * 6, none⟩ = some (.string X.key) ∧ w'.cell? ⟨b2, o2 + k * 6 + 1, none⟩ = some (.int .i64 X.t) ∧ w'.cell? ⟨b2, o2 + k * 6 + 2, none⟩ = some (.int .i64 X.i) ∧ w'.cell? ⟨b2, o2 + k * 6 + 3, none⟩ = some (.int .i64 X.q) ∧ w'.cell? ⟨b2, o2 + k * 6 + 4, none⟩ = some (.string X.o) ∧ w'.cell? ⟨b2, o2 + k * 6 + 5, none⟩ = some (.slice y2 X.len c2)) (fun w' hb => ⟨p6.keptS (keptNew hb) (fun h => h), q6.keptS (keptNew hb) (fun h => h)⟩)
      obtain ⟨⟨x0, x1, x2, x3, x4, x5⟩, z0, z1, z2, z3, z4, z5⟩ := HC.out wr (Below.refl _ _)
      clear p6 q6 hy1 hy2 hx hX hs hl
      go_upto_region 6 with fail
      go_region_held3 (fun w' => (w'.cell? ⟨b1, o1 + k * 6, none⟩ = some (.string x.key) ∧ w'.cell? ⟨b1, o1 + k * 6 + 1, none⟩ = some (.int .i64 x.t) ∧ w'.cell? ⟨b1, o1 + k * 6 + 2, none⟩ = some (.int .i64 x.i) ∧ w'.cell? ⟨b1, o1 + k * 6 + 3, none⟩ = some (.int .i64 x.q) ∧ w'.cell? ⟨b1, o1 + k * 6 + 4, none⟩ = some (.string x.o) ∧ w'.cell? ⟨b1, o1 + k * 6 + 5, none⟩ = some (.slice y1 x.len c1)) ∧ w'.cell? ⟨b2, o2 + k * 6, none⟩ = some (.string X.key) ∧ w'.cell? ⟨b2, o2 + k * 6 + 1, none⟩ = some (.int .i64 X.t) ∧ w'.cell? ⟨b2, o2 + k * 6 + 2, none⟩ = some (.int .i64 X.i) ∧ w'.cell? ⟨b2, o2 + k * 6 + 3, none⟩ = some (.int .i64 X.q) ∧ w'.cell? ⟨b2, o2 + k * 6 + 4, none⟩ = some (.string X.o) ∧ w'.cell? ⟨b2, o2 + k * 6 + 5, none⟩ = some (.slice y2 X.len c2)) (first | assumption | exact HC.out _ B9.out | (refine ⟨⟨?_, ?_, ?_, ?_, ?_, ?_⟩, ?_, ?_, ?_, ?_, ?_, ?_⟩ <;> (first | assumption | (go_keep; done)))) (first
        | (go_at_call 20
           with_reducible refine SM.out.mono ?_
           rintro e w9 ⟨rfl, hb⟩
           have B9 := Lib.hid (HDR.out.trans (hb.mono HDR.out.size))
           have cc := HC.out _ B9.out
           clear hb)
        | fail)
      have P := Lib.hid (hB.out.trans (B9.out.mono hB.out.size))
      clear x0 x1 x2 x3 x4 x5 z0 z1 z2 z3 z4 z5 cc
      go_wp2_with fail
      go_roundw
      case rel => exact ⟨k + 1, by go_num, by omega, P⟩
      case measure => simp [intOf]; omega
    · obtain rfl : k = n := by omega
      go_wp2_with fail
      go_ret
      exact ⟨rfl, hB.out⟩

end Go.Proofs.YtpdobbdbmgeoiaaGreat
