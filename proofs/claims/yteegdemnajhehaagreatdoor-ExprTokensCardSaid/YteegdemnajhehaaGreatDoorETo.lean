/-
  No statement: the contract of To of cantonlaw8 (written by mketo.py).
-/
import Derived.Test.YteegdemnajhehaaGreatDoorLTokens
import Derived.Test.YteegdemnajhehaaGreatDoorAMem
import Derived.Deep.RegionHeld3
namespace Go.Proofs.YteegdemnajhehaaGreatDoor
open Go.RowKit

theorem lnew (w : World) {t : Tk} {k : Int} {s : ByteArray} {n p : Int} (h : tkL t = [.int .i64 k, .string s, .int .i64 n, .int .i64 p]) : ∀ j u, (tkL t)[j]? = some u → (w.alloc (tkO k s n p)).cell? ((⟨w.heap.size, 0, none⟩ : Addr).add j) = some u := fun j u hj => by
  rw [h] at hj
  rw [Addr.add_lit, Nat.zero_add, cell_of_row _ _ _ _ _ (0, 0) (heap_alloc_new w _)]
  simpa using hj

set_option maxRecDepth 100000 in
set_option maxHeartbeats 8000000 in
theorem to_any (ts : List Tk) (a : Option Addr) (c : Nat) (hn : ts.length ≤ 100000) (w : World) (hr : ReadsT w a ts) :
    Calls Tryz.prog 17 #[.slice a ts.length c] w fun e w' => (∃ a2 c2, e = .returned (.slice a2 ts.length c2) ∧ ReadsT w' a2 ts) ∧ Below w.heap.size w w' := by
  obtain ⟨i0, hi, hz0, hz1, hz2⟩ := info_parts tokInfo
  have und : Tryz.prog.underlying 42 = some (.slice 74) := Tryz.underlying42
  have R := Lib.hid hr
  clear hr
  go_enter Tryz.func17, Tryz.ntmps17
  go_wp2_with fail
  go_loopw [3, 4] (fun v i wr => ∃ (k : Nat) (va : Option Addr) (vc : Nat), v = .slice va k vc ∧ i = .int .i64 k ∧ k ≤ ts.length ∧ Hid (wr.ownsRow w.heap.size 74 4 (.slice va k vc) k (tksL (ts.take k))) ∧ Hid (Below w.heap.size w wr)) (fun _ i _ => ts.length - (intOf i).toNat)
  case atStart => exact ⟨0, none, 0, rfl, rfl, by omega, Lib.hid (World.ownsRow_nil _ _ _ _), Lib.hid (Below.refl _ _)⟩
  case round =>
    obtain ⟨k, va, vc, rfl, rfl, hk, hO, hB⟩ := hrel
    by_cases hlt : k < ts.length
    · obtain ⟨b, off, rfl, hbl, hc⟩ := R.out.resolve_left (by intro e; rw [e] at hlt; simp at hlt)
      obtain ⟨t, ht⟩ : ∃ t, ts[k] = t := ⟨_, rfl⟩
      obtain ⟨X, hX⟩ : ∃ X : ByteArray, ⟨t.text.toArray⟩ = X := ⟨_, rfl⟩
      obtain ⟨p0, p1, p2, p3⟩ := hc k hlt
      rw [ht] at p0 p1 p2 p3
      rw [hX] at p1
      have hcells : tkL t = [.int .i64 t.kind, .string X, .int .i64 t.num, .int .i64 t.place] := by rw [← hX]; rfl
      have NEW := Lib.hid (fun w => lnew w hcells)
      have NX := Lib.hid (show tksL (ts.take (k + 1)) = tksL (ts.take k) ++ tkL t by rw [List.take_succ_eq_append_getElem hlt, ht, tksL_snoc])
      have hz := hB.out.size
      have G := Lib.hid (p := ∀ w', Below w.heap.size w w' → w'.cell? ⟨b, off + k * 4, none⟩ = some (.int .i64 t.kind) ∧ w'.cell? ⟨b, off + k * 4 + 1, none⟩ = some (.string X) ∧ w'.cell? ⟨b, off + k * 4 + 2, none⟩ = some (.int .i64 t.num) ∧ w'.cell? ⟨b, off + k * 4 + 3, none⟩ = some (.int .i64 t.place)) (fun w' hb =>
        ⟨(hb.cell (p := ⟨b, _, none⟩) hbl).trans p0, (hb.cell (p := ⟨b, _, none⟩) hbl).trans p1, (hb.cell (p := ⟨b, _, none⟩) hbl).trans p2, (hb.cell (p := ⟨b, _, none⟩) hbl).trans p3⟩)
      have DR := Lib.hid (show Below wr.heap.size wr wr.drew from ⟨rfl, rfl, rfl, Nat.le_refl _, fun _ _ => rfl⟩)
      have BD := Lib.hid (show Below w.heap.size w wr.drew from hB.out.trans (DR.out.mono hz))
      have OD := Lib.hid (show wr.drew.ownsRow w.heap.size 74 4 (.slice va k vc) k (tksL (ts.take k)) from ownsDrew hO.out)
      clear p0 p1 p2 p3 hc ht hX hcells
      obtain ⟨p0, p1, p2, p3⟩ := G.out _ hB.out
      go_wp2_with fail
      go_region_held3 (fun w' => w'.cell? ⟨b, off + k * 4, none⟩ = some (.int .i64 t.kind) ∧ w'.cell? ⟨b, off + k * 4 + 1, none⟩ = some (.string X) ∧ w'.cell? ⟨b, off + k * 4 + 2, none⟩ = some (.int .i64 t.num) ∧ w'.cell? ⟨b, off + k * 4 + 3, none⟩ = some (.int .i64 t.place)) (first | assumption | (refine ⟨?_, ?_, ?_, ?_⟩ <;> (first | assumption | (go_keep; done)))) (first
        | (refine step_append_one rfl (.tmp 11) (.tmp 33) 42 rfl (base := w.heap.size) und hi hz0 hz1 hz2 rfl (by decide) (.slice va k vc) k (tksL (ts.take k)) (tkL t) ⟨wr.heap.size, 0, none⟩ 1 (by first | (simp [Act.eval]; done) | fail) (by first | (simp [Act.eval]; done) | fail) (OD.out.alloc _) rfl (NEW.out wr.drew) (tkL_one t) (by unfold maxLen; omega) (by omega) (by simp; omega) ?_
           intro v3 w3 ho hg
           have O3 := Lib.hid ho
           have B3 := Lib.hid ((BD.out.alloc BD.out.size (tkO t.kind X t.num t.place)).grown hg (by have := BD.out.size; rw [World.size_alloc]; omega) (fun q hq => (OD.out.lt q hq).1))
           have cc := G.out _ B3.out
           clear ho hg)
        | fail)
      obtain ⟨va', c', hv⟩ := own_rowG O3.out
      subst hv
      have O4 := Lib.hid (p := w3.ownsRow w.heap.size 74 4 (.slice va' (k + 1) c') (k + 1) (tksL (ts.take (k + 1)))) (by rw [NX.out]; exact O3.out)
      clear O3 OD BD p0 p1 p2 p3
      go_wp2_with fail
      go_roundw
      case rel => exact ⟨k + 1, va', c', rfl, by go_num, by omega, O4, B3⟩
      case measure => simp [intOf]; omega
    · obtain rfl : k = ts.length := by omega
      have P := Lib.hid (readsT_own (ts := ts) (by have := hO.out; rwa [List.take_length] at this))
      go_wp2_with fail
      go_ret
      exact ⟨⟨va, vc, rfl, P.out⟩, hB.out⟩

end Go.Proofs.YteegdemnajhehaaGreatDoor
