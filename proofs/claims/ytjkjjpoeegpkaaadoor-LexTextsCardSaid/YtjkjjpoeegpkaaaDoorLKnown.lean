/-
  No statement: known of cantonlaw8 is true.
-/
import Derived.Test.YtjkjjpoeegpkaaaDoorLText
namespace Go.Proofs.YtjkjjpoeegpkaaaDoor
open Go.RowKit

def knT : List Tk := [⟨1, [115, 117, 109], 0, 0⟩, ⟨3, [40], 0, 3⟩, ⟨1, [97, 49], 0, 4⟩, ⟨3, [43], 0, 7⟩, ⟨2, [49, 50], 12, 8⟩, ⟨3, [41], 0, 10⟩, ⟨3, [62, 61], 0, 11⟩, ⟨2, [51], 3, 13⟩]

theorem kn_step {l : List UInt8} {p : Nat} {k v : Int} {n : Nat} {ts : List Tk} (h1 : ¬ l.head? = some 32) (hn : 1 ≤ n) (h : firstF l = .tok k n v) (hr : lexL (l.drop n) (p + n) = .ok ts) : lexL l p = .ok (⟨k, l.take n, v, p⟩ :: ts) := by
  rw [lex_tok h1 hn h, hr]; rfl

theorem kn_a : lexL [115, 117, 109, 40, 97, 49, 32, 43, 49, 50, 41, 62, 61, 51] 0 = .ok knT := by
  refine kn_step (n := 3) (k := 1) (v := 0) (by decide) (by decide) (by rfl) ?_
  refine kn_step (n := 1) (k := 3) (v := 0) (by decide) (by decide) (by rfl) ?_
  refine kn_step (n := 2) (k := 1) (v := 0) (by decide) (by decide) (by rfl) ?_
  refine (lex_blank _ _).trans ?_
  refine kn_step (n := 1) (k := 3) (v := 0) (by decide) (by decide) (by rfl) ?_
  refine kn_step (n := 2) (k := 2) (v := 12) (by decide) (by decide) (by rfl) ?_
  refine kn_step (n := 1) (k := 3) (v := 0) (by decide) (by decide) (by rfl) ?_
  refine kn_step (n := 2) (k := 3) (v := 0) (by decide) (by decide) (by rfl) ?_
  refine kn_step (n := 1) (k := 2) (v := 3) (by decide) (by decide) (by rfl) ?_
  exact lex_nil _

theorem kn_b : lexL [97, 32, 48, 49] 0 = .bad 2 2 := by
  rw [lex_tok (n := 1) (k := 1) (v := 0) (by decide) (by decide) (by rfl)]
  show (lexL (32 :: [48, 49]) (0 + 1)).after _ = _
  rw [lex_blank, lex_bad (e := 2) (by decide) (by decide) (by rfl)]
  rfl

theorem kn_ta : lexT (⟨#[115, 117, 109, 40, 97, 49, 32, 43, 49, 50, 41, 62, 61, 51]⟩ : ByteArray).data.toList = .ok knT := by
  unfold lexT
  rw [if_neg (by decide)]
  exact kn_a
theorem kn_tb : lexT (⟨#[97, 32, 48, 49]⟩ : ByteArray).data.toList = .bad 2 2 := by
  unfold lexT
  rw [if_neg (by decide)]
  exact kn_b

set_option maxRecDepth 100000 in
set_option maxHeartbeats 8000000 in
theorem known_any (w : World) (hw : Laid w) : Calls Tryd.prog 6 #[] w fun e w' => e = .returned (.bool true) ∧ Below w.heap.size w w' := by
  have A := Lib.hid (p := Calls Tryd.prog 7 #[.string ⟨#[115, 117, 109, 40, 97, 49, 32, 43, 49, 50, 41, 62, 61, 51]⟩] w (TokPost 35 (.ok knT) w)) (by rw [← kn_ta]; exact lTokens_any _ (by decide) w hw)
  have B := Lib.hid (p := ∀ w, Laid w → Calls Tryd.prog 7 #[.string ⟨#[97, 32, 48, 49]⟩] w (TokPost 35 (.bad 2 2) w)) (fun w hw => by rw [← kn_tb]; exact lTokens_any _ (by decide) w hw)
  have HW := Lib.hid hw
  clear hw
  go_enter Tryd.func6, Tryd.ntmps6
  go_wp2_with fail
  refine A.out.mono ?_
  rintro e w1 ⟨hb, a, c, rfl, ho⟩
  have B1 := Lib.hid hb
  have R1 := Lib.hid (readsT_own ho)
  clear ho hb A
  go_wp2_with fail
  refine (B.out _ (HW.out.step B1.out)).mono ?_
  rintro e w2 ⟨hb, rfl⟩
  have B2 := Lib.hid (B1.out.trans (hb.mono B1.out.size))
  have R2 := Lib.hid (R1.out.kept hb)
  clear hb B R1 B1
  obtain ⟨b, off, hx, -, hc⟩ := R2.out.resolve_left (by decide)
  subst hx
  have C := Lib.hid (p := Calls Tryd.prog 10 #[.slice (some ⟨b, off, none⟩) 8 c] w2 fun e w' => e = .returned (.string ⟨#[115, 117, 109, 32, 40, 32, 97, 49, 32, 43, 32, 49, 50, 32, 41, 32, 62, 61, 32, 51]⟩) ∧ Below w2.heap.size w2 w') (lText_any knT (some ⟨b, off, none⟩) c (by decide) w2 R2.out)
  obtain ⟨-, p1, -, -⟩ := hc 2 (by decide)
  obtain ⟨p0, -, -, -⟩ := hc 2 (by decide)
  obtain ⟨q0, -, q2, -⟩ := hc 4 (by decide)
  obtain ⟨-, r1, -, r3⟩ := hc 6 (by decide)
  clear hc
  have hl : knT.length = 8 := rfl
  rw [hl]
  have P0 : w2.cell? ⟨b, off + 8, none⟩ = some (.int .i64 1) := p0
  have P1 : w2.cell? ⟨b, off + 8 + 1, none⟩ = some (.string ⟨#[97, 49]⟩) := p1
  have Q0 : w2.cell? ⟨b, off + 16, none⟩ = some (.int .i64 2) := q0
  have Q2 : w2.cell? ⟨b, off + 16 + 2, none⟩ = some (.int .i64 12) := q2
  have R1 : w2.cell? ⟨b, off + 24 + 1, none⟩ = some (.string ⟨#[62, 61]⟩) := r1
  have R3 : w2.cell? ⟨b, off + 24 + 3, none⟩ = some (.int .i64 11) := r3
  clear p0 p1 q0 q2 r1 r3 hl
  go_wp2_with fail
  refine C.out.mono ?_
  rintro e w3 ⟨rfl, hb⟩
  have B3 := Lib.hid (B2.out.trans (hb.mono B2.out.size))
  clear hb C
  go_wp2_with fail
  go_ret
  exact ⟨rfl, B3.out⟩

end Go.Proofs.YtjkjjpoeegpkaaaDoor
