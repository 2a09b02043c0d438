/-
  No statement: the contract of the document's own RowText.
-/
import Derived.Test.YtbabkdeppcfcnaaGreatDoorXSame
import Derived.Test.YtbabkdeppcfcnaaGreatDoorRText
namespace Go.Proofs.YtbabkdeppcfcnaaGreatDoor
open Go.RowKit

theorem mk_list (l : List UInt8) : (⟨l.toArray⟩ : ByteArray).data.toList = l := by simp

set_option maxRecDepth 100000 in
set_option maxHeartbeats 4000000 in
theorem xText_any (x : RD) (a : Option Addr) (c : Nat) (hk : x.key.size ≤ 100) (ho : x.o.size ≤ 100) (ht : In64 x.t) (hi : In64 x.i) (hq : In64 x.q) (hA : ∀ j, j < x.len → FewA (x.A j) ∧ NumA (x.A j)) (hn : x.len ≤ 100) (w : World) (hr : ReadsA w a x.len x.A) :
    Calls Tryz.prog 12 #[.agg #[.string x.key, .int .i64 x.t, .int .i64 x.i, .int .i64 x.q, .string x.o, .slice a x.len c]] w fun e w' => e = .returned (.string ⟨(textR x).toArray⟩) ∧ Below w.heap.size w w' := by
  have HL := Lib.hid (rowPre_len x hk ho ht hi hq hA)
  have HA := Lib.hid hA
  have R := Lib.hid hr
  have BX := Lib.hid (show ∀ o, o = Obj.cells #[.string x.key, .int .i64 x.t, .int .i64 x.i, .int .i64 x.q, .string x.o, .slice a x.len c] 33 → XcK w x a c (w.alloc o) from fun o h => by subst h; exact ⟨heap_alloc_new w _, (Below.refl _ _).alloc (Nat.le_refl _) _⟩)
  have ST := Lib.hid (fun w => rStampText_any x.t x.i x.q x.o ht hi hq (by omega) w)
  have L1 := textSt_short ht hi hq ho
  have HP0 := show rowPre x 0 = x.key.data.toList ++ [32] ++ textSt x.t x.i x.q x.o from rfl
  obtain ⟨P, hP⟩ : ∃ P : ByteArray, ⟨(textSt x.t x.i x.q x.o).toArray⟩ = P := ⟨_, rfl⟩
  have hPs : P.size ≤ 200 := by rw [← hP, mk_size]; exact L1
  rw [show textSt x.t x.i x.q x.o = P.data.toList by rw [← hP, mk_list]] at HP0
  rw [hP] at ST
  unfold stp at ST
  have HP := Lib.hid HP0
  clear hA hr ho ht hi hq hP L1 HP0
  go_enter Tryz.func12, Tryz.ntmps12
  go_wp2_with fail
  generalize hW : World.alloc w _ = W
  have K0 : Hid (XcK w x a c W) := Lib.hid (by rw [← hW]; exact BX.out _ rfl)
  clear hW BX
  obtain ⟨x0, x1, x2, x3, x4, x5⟩ := six K0.out.box
  have g1 : (9223372036854775807 < x.key.size + 1) = False := by simp; omega
  have g2 : (9223372036854775807 < x.key.size + 1 + P.size) = False := by simp; omega
  have hdr : Below W.heap.size W W.drew := ⟨rfl, rfl, rfl, Nat.le_refl _, fun _ _ => rfl⟩
  have KD := Lib.hid (K0.out.kept hdr)
  clear hdr
  go_region_held3 (fun w' => w'.cell? ⟨w.heap.size, 0, none⟩ = some (.string x.key) ∧ w'.cell? ⟨w.heap.size, 1, none⟩ = some (.int .i64 x.t) ∧ w'.cell? ⟨w.heap.size, 2, none⟩ = some (.int .i64 x.i) ∧ w'.cell? ⟨w.heap.size, 3, none⟩ = some (.int .i64 x.q) ∧ w'.cell? ⟨w.heap.size, 4, none⟩ = some (.string x.o) ∧ w'.cell? ⟨w.heap.size, 5, none⟩ = some (.slice a x.len c)) (first | assumption | (refine ⟨?_, ?_, ?_, ?_, ?_, ?_⟩ <;> (first | assumption | (go_keep; done)))) (first
    | (go_at_call 42
       with_reducible refine (ST.out _).mono ?_
       rintro e w1 ⟨rfl, hb⟩
       have K1 := Lib.hid (KD.out.kept hb)
       have cc := six K1.out.box
       clear hb)
    | fail)
  clear g1 g2 x0 x1 x2 x3 x4 x5 KD K0
  obtain ⟨x0, x1, x2, x3, x4, x5⟩ := six K1.out.box
  go_wp2_with fail
  go_loopw [3, 4] (fun s i wr => ∃ (k : Nat) (p : ByteArray), s = .string p ∧ i = .int .i64 k ∧ k ≤ x.len ∧ Hid (p.data.toList = rowPre x k) ∧ Hid (XcK w x a c wr)) (fun _ i _ => x.len - (intOf i).toNat)
  case atStart => exact ⟨0, x.key ++ ⟨#[32]⟩ ++ P, rfl, rfl, Nat.zero_le _, Lib.hid (by rw [HP.out]; simp), K1⟩
  case round =>
    obtain ⟨k, p, rfl, rfl, hk', hp, hK⟩ := hrel
    clear x0 x1 x2 x3 x4 x5 cc K1
    obtain ⟨x0, x1, x2, x3, x4, x5⟩ := six hK.out.box
    by_cases hlt : k < x.len
    · obtain ⟨-, hc⟩ := R.out
      obtain ⟨b, off, hab, hcs⟩ := hc.resolve_left (by omega)
      obtain ⟨y, cy, h50, hrd⟩ := hcs k hlt
      obtain ⟨hfa, hna⟩ := HA.out k hlt
      have hpre := HL.out k hk'
      rw [← hp.out] at hpre
      have hps : p.size ≤ 200000 := by have : p.data.toList.length = p.size := by simp
                                       omega
      have hnx : rowPre x (k + 1) = rowPre x k ++ [32] ++ (x.A k).m.data.toList ++ [61] ++ textV (x.A k).k (x.A k).n (x.A k).s (x.A k).len (x.A k).z := rfl
      rw [← hp.out] at hnx
      have hV := textV_short (k := (x.A k).k) hna.2.1 hna.2.2 hfa.2.1 hfa.2.2
      obtain ⟨u, hu⟩ : ∃ u, x.A k = u := ⟨_, rfl⟩
      rw [hu] at h50 hrd hfa hna hnx hV
      obtain ⟨hf1, hf2, hf3⟩ := hfa
      have HN := Lib.hid hna
      have TV := Lib.hid (p := ∀ w', Below w.heap.size w w' → Calls Tryz.prog 43 #[.agg #[.int .i64 u.k, .int .i64 u.n, .string u.s, .slice y u.len cy]] w' fun e w'' => e = .returned (.string ⟨(textV u.k u.n u.s u.len u.z).toArray⟩) ∧ Below w'.heap.size w' w'') (fun w' hb => rText_any u.k u.n HN.out.2.1 u.s (by omega) y u.len cy u.z HN.out.2.2 (by omega) w' (hrd.kept hb))
      obtain ⟨T, hT⟩ : ∃ T : ByteArray, ⟨(textV u.k u.n u.s u.len u.z).toArray⟩ = T := ⟨_, rfl⟩
      have hTs : T.size ≤ 1000 := by rw [← hT, mk_size]; exact hV
      rw [show textV u.k u.n u.s u.len u.z = T.data.toList by rw [← hT, mk_list]] at hnx
      rw [hT] at TV
      have NX := Lib.hid hnx
      have H5 := Lib.hid (p := ∀ w', Below w.heap.size w w' → Cells5 w' b (off + k * 5) u y cy) (fun w' hb => h50.kept hb)
      have HAB := Lib.hid hab
      have hdr : Below wr.heap.size wr wr.drew := ⟨rfl, rfl, rfl, Nat.le_refl _, fun _ _ => rfl⟩
      have KD := Lib.hid (hK.out.kept hdr)
      have g1 : (9223372036854775807 < p.size + 1) = False := by simp; omega
      have g2 : (9223372036854775807 < p.size + 1 + u.m.size) = False := by simp; omega
      have g3 : (9223372036854775807 < p.size + 1 + u.m.size + 1) = False := by simp; omega
      have g4 : (9223372036854775807 < p.size + 1 + u.m.size + 1 + T.size) = False := by simp; omega
      clear hcs hrd hna hnx hV hu hT hc hpre h50 hp hdr
      rw [hab] at x5
      clear hab
      obtain ⟨d0, d1, d2, d3, d4⟩ := H5.out _ hK.out.bel
      go_wp2_with fail
      go_region_held3 (fun w' => (w'.cell? ⟨w.heap.size, 5, none⟩ = some (.slice (some ⟨b, off, none⟩) x.len c)) ∧ (w'.cell? ⟨b, off + k * 5, none⟩ = some (.string u.m) ∧ w'.cell? ⟨b, off + k * 5 + 1, none⟩ = some (.int .i64 u.k) ∧ w'.cell? ⟨b, off + k * 5 + 2, none⟩ = some (.int .i64 u.n) ∧ w'.cell? ⟨b, off + k * 5 + 3, none⟩ = some (.string u.s) ∧ w'.cell? ⟨b, off + k * 5 + 4, none⟩ = some (.slice y u.len cy))) (first | assumption | (refine ⟨?_, ⟨?_, ?_, ?_, ?_, ?_⟩⟩ <;> (first | assumption | (go_keep; done)))) (first
        | (go_at_call 43
           with_reducible refine (TV.out _ KD.out.bel).mono ?_
           rintro e w2 ⟨rfl, hb⟩
           have K2 := Lib.hid (KD.out.kept hb)
           have c5 := (six K2.out.box).2.2.2.2.2
           rw [HAB.out] at c5
           have cc := And.intro c5 (H5.out _ K2.out.bel)
           clear hb c5)
        | fail)
      clear g1 g2 g3 g4 x0 x1 x2 x3 x4 x5 d0 d1 d2 d3 d4 KD
      go_wp2_with fail
      go_roundw
      case rel => exact ⟨k + 1, p ++ ⟨#[32]⟩ ++ u.m ++ ⟨#[61]⟩ ++ T, rfl, by go_num, by omega, Lib.hid (by rw [NX.out]; simp), K2⟩
      case measure => simp [intOf]; omega
    · obtain rfl : k = x.len := by omega
      have E := Lib.hid (show p.data.toList = textR x from hp.out)
      go_wp2_with fail
      go_ret
      exact ⟨ret_str (by rw [E.out]), hK.out.bel⟩

end Go.Proofs.YtbabkdeppcfcnaaGreatDoor
