/-
  No statement: contracts of Of, same of cantonlaw8.
-/
import Derived.Test.YtjkjjpoeegpkaaaDoorLText
import Derived.Test.YtjkjjpoeegpkaaaDoorLRTok
import Derived.Deep.RegionHeld3
namespace Go.Proofs.YtjkjjpoeegpkaaaDoor
open Go.RowKit

set_option maxRecDepth 100000 in
set_option maxHeartbeats 8000000 in
theorem of_any (ts : List Tk) (a : Option Addr) (c : Nat) (hn : ts.length ≤ 100000) (w : World) (hr : ReadsT w a ts) :
    Calls Tryd.prog 18 #[.slice a ts.length c] w fun e w' => (∃ a2 c2, e = .returned (.slice a2 ts.length c2) ∧ ReadsT w' a2 ts) ∧ Below w.heap.size w w' := by
  obtain ⟨i0, hi, hz0, hz1, hz2⟩ := info_parts rtokInfo
  have und : Tryd.prog.underlying 27 = some (.slice 36) := Tryd.underlying27
  have R := Lib.hid hr
  clear hr
  go_enter Tryd.func18, Tryd.ntmps18
  go_wp2_with fail
  go_loopw [3, 4] (fun v i wr => ∃ (k : Nat) (va : Option Addr) (vc : Nat), v = .slice va k vc ∧ i = .int .i64 k ∧ k ≤ ts.length ∧ Hid (wr.ownsRow w.heap.size 36 4 (.slice va k vc) k (tksL (ts.take k))) ∧ Hid (Below w.heap.size w wr)) (fun _ i _ => ts.length - (intOf i).toNat)
  case atStart => exact ⟨0, none, 0, rfl, rfl, by omega, Lib.hid (World.ownsRow_nil _ _ _ _), Lib.hid (Below.refl _ _)⟩
  case round =>
    obtain ⟨k, va, vc, rfl, rfl, hk, hO, hB⟩ := hrel
    by_cases hlt : k < ts.length
    · obtain ⟨b, off, rfl, hbl, hc⟩ := R.out.resolve_left (by intro e; rw [e] at hlt; simp at hlt)
      obtain ⟨t, ht⟩ : ∃ t, ts[k] = t := ⟨_, rfl⟩
      obtain ⟨X, hX⟩ : ∃ X : ByteArray, ⟨t.text.toArray⟩ = X := ⟨_, rfl⟩
      obtain ⟨p0, p1, p2, p3⟩ := hc k hlt
      rw [ht] at p0 p1 p2 p3
      rw [hX] at p1
      have hcells : tkL t = [.int .i64 t.kind, .string X, .int .i64 t.num, .int .i64 t.place] := by rw [← hX]; rfl
      have NEW := Lib.hid (fun w => rnew w hcells)
      have NX := Lib.hid (show tksL (ts.take (k + 1)) = tksL (ts.take k) ++ tkL t by rw [List.take_succ_eq_append_getElem hlt, ht, tksL_snoc])
      have hz := hB.out.size
      have G := Lib.hid (p := ∀ w', Below w.heap.size w w' → w'.cell? ⟨b, off + k * 4, none⟩ = some (.int .i64 t.kind) ∧ w'.cell? ⟨b, off + k * 4 + 1, none⟩ = some (.string X) ∧ w'.cell? ⟨b, off + k * 4 + 2, none⟩ = some (.int .i64 t.num) ∧ w'.cell? ⟨b, off + k * 4 + 3, none⟩ = some (.int .i64 t.place)) (fun w' hb =>
        ⟨(hb.cell (p := ⟨b, _, none⟩) hbl).trans p0, (hb.cell (p := ⟨b, _, none⟩) hbl).trans p1, (hb.cell (p := ⟨b, _, none⟩) hbl).trans p2, (hb.cell (p := ⟨b, _, none⟩) hbl).trans p3⟩)
      have DR := Lib.hid (show Below wr.heap.size wr wr.drew from ⟨rfl, rfl, rfl, Nat.le_refl _, fun _ _ => rfl⟩)
      have BD := Lib.hid (show Below w.heap.size w wr.drew from hB.out.trans (DR.out.mono hz))
      have OD := Lib.hid (show wr.drew.ownsRow w.heap.size 36 4 (.slice va k vc) k (tksL (ts.take k)) from ownsDrew hO.out)
      clear p0 p1 p2 p3 hc ht hX hcells
      obtain ⟨p0, p1, p2, p3⟩ := G.out _ hB.out
      go_wp2_with fail
      go_region_held3 (fun w' => w'.cell? ⟨b, off + k * 4, none⟩ = some (.int .i64 t.kind) ∧ w'.cell? ⟨b, off + k * 4 + 1, none⟩ = some (.string X) ∧ w'.cell? ⟨b, off + k * 4 + 2, none⟩ = some (.int .i64 t.num) ∧ w'.cell? ⟨b, off + k * 4 + 3, none⟩ = some (.int .i64 t.place)) (first | assumption | (refine ⟨?_, ?_, ?_, ?_⟩ <;> (first | assumption | (go_keep; done)))) (first
        | (refine step_append_one rfl (.tmp 11) (.tmp 33) 27 rfl (base := w.heap.size) und hi hz0 hz1 hz2 rfl (by decide) (.slice va k vc) k (tksL (ts.take k)) (tkL t) ⟨wr.heap.size, 0, none⟩ 1 (by first | (simp [Act.eval]; done) | fail) (by first | (simp [Act.eval]; done) | fail) (OD.out.alloc _) rfl (NEW.out wr.drew) (tkL_one t) (by unfold maxLen; omega) (by omega) (by simp; omega) ?_
           intro v3 w3 ho hg
           have O3 := Lib.hid ho
           have B3 := Lib.hid ((BD.out.alloc BD.out.size (rtO t.kind X t.num t.place)).grown hg (by have := BD.out.size; rw [World.size_alloc]; omega) (fun q hq => (OD.out.lt q hq).1))
           have cc := G.out _ B3.out
           clear ho hg)
        | fail)
      obtain ⟨va', c', hv⟩ := own_rowG O3.out
      subst hv
      have O4 := Lib.hid (p := w3.ownsRow w.heap.size 36 4 (.slice va' (k + 1) c') (k + 1) (tksL (ts.take (k + 1)))) (by rw [NX.out]; exact O3.out)
      clear O3 OD BD p0 p1 p2 p3
      go_wp2_with fail
      go_roundw
      case rel => exact ⟨k + 1, va', c', rfl, by go_num, by omega, O4, B3⟩
      case measure => simp [intOf]; omega
    · obtain rfl : k = ts.length := by omega
      have P := Lib.hid (readsT_own (ts := ts) (by have := hO.out; rwa [List.take_length] at this))
      go_wp2_with fail
      go_ret
      exact ⟨⟨va, vc, rfl, P.out⟩, hB.out⟩

set_option maxRecDepth 100000 in
set_option maxHeartbeats 8000000 in
theorem same_any (ts : List Tk) (a : Option Addr) (c : Nat) (a2 : Option Addr) (c2 : Nat) (hn : ts.length ≤ 100000) (w : World) (hr : ReadsT w a ts) (hr2 : ReadsT w a2 ts) :
    Calls Tryd.prog 9 #[.slice a ts.length c, .slice a2 ts.length c2] w fun e w' => e = .returned (.bool true) ∧ Below w.heap.size w w' := by
  have C := Lib.hid (of_any ts a c hn w hr)
  have R2 := Lib.hid hr2
  clear hr hr2
  have q0 : (((ts.length : Int)) != (ts.length : Int)) = false := by simp
  go_enter Tryd.func9, Tryd.ntmps9
  go_wp2_with fail
  refine C.out.mono ?_
  rintro e w1 ⟨⟨a3, c3, rfl, h3⟩, hb⟩
  have R3 := Lib.hid h3
  have R4 := Lib.hid (R2.out.kept hb)
  have B1 := Lib.hid hb
  clear h3 hb C
  go_wp2_with fail
  go_loopw [6] (fun i wr => ∃ k : Nat, i = .int .i64 k ∧ k ≤ ts.length ∧ Hid (Below w1.heap.size w1 wr)) (fun i _ => ts.length - (intOf i).toNat)
  case atStart => exact ⟨0, rfl, by omega, Lib.hid (Below.refl _ _)⟩
  case round =>
    obtain ⟨k, rfl, hk, hB⟩ := hrel
    by_cases hlt : k < ts.length
    · obtain ⟨b, off, hx, -, hc⟩ := (R3.out.kept hB.out).resolve_left (by intro e; rw [e] at hlt; simp at hlt)
      obtain ⟨b2, off2, hx2, -, hc2⟩ := (R4.out.kept hB.out).resolve_left (by intro e; rw [e] at hlt; simp at hlt)
      subst hx
      subst hx2
      obtain ⟨p0, p1, p2, p3⟩ := hc k hlt
      obtain ⟨q0, q1, q2, q3⟩ := hc2 k hlt
      obtain ⟨t, ht⟩ : ∃ t, ts[k] = t := ⟨_, rfl⟩
      obtain ⟨X, hX⟩ : ∃ X : ByteArray, ⟨t.text.toArray⟩ = X := ⟨_, rfl⟩
      rw [ht] at p0 p1 p2 p3 q0 q1 q2 q3
      rw [hX] at p1 q1
      have a1 : (k : Int) < (ts.length : Int) := by omega
      clear hc hc2 ht hX
      go_wp2_with (go_quiet (fail))
      go_roundw
      case rel => exact ⟨k + 1, by go_num, by omega, Lib.hid (below_drewN hB.out _)⟩
      case measure => simp [intOf]; omega
    · obtain rfl : k = ts.length := by omega
      go_wp2_with fail
      go_ret
      exact ⟨rfl, B1.out.trans (hB.out.mono B1.out.size)⟩

end Go.Proofs.YtjkjjpoeegpkaaaDoor
