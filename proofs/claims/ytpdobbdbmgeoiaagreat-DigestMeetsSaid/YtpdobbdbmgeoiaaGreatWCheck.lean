/-
  No statement: the contracts of checkAttr and Check of package row.
-/
import Derived.Test.YtpdobbdbmgeoiaaGreatWDef
import Derived.LoopTactic
import Derived.Deep.LoopGhost
import Derived.Deep.Cut
import Derived.StillTailTactics
namespace Go.Proofs.YtpdobbdbmgeoiaaGreat
open Go.RowKit

theorem leqS_yes {p m : ByteArray} (h : lsS p m = false) : (Op.bytesLess m.toList p.toList || m.toList == p.toList) = true := by
  by_cases e : lsS m p = true
  · have e' : Op.bytesLess m.toList p.toList = true := e
    rw [e']; rfl
  · rw [strictS.total m p (by simpa using e) h]; simp

theorem leqS_no {p m : ByteArray} (h : lsS p m = true) : Op.bytesLess m.toList p.toList = false ∧ (m.toList == p.toList) = false := by
  constructor
  · cases e : Op.bytesLess m.toList p.toList with
    | false => rfl
    | true => have := strictS.trans _ _ _ h e; rw [strictS.irrefl] at this; cases this
  · rw [beq_eq_false_iff_ne]
    intro e
    rw [bytes_eq e, strictS.irrefl] at h; cases h

theorem bcell {W w1 : World} (hb : Below W.heap.size W w1) : (∀ b o, b < W.heap.size → w1.cell? ⟨b, o, none⟩ = W.cell? ⟨b, o, none⟩) ∧ (∀ b o, b < W.heap.size → w1.frozen? ⟨b, o, none⟩ = W.frozen? ⟨b, o, none⟩) :=
  ⟨fun b o h => hb.cell (p := ⟨b, o, none⟩) h, fun b o h => hb.frozen (p := ⟨b, o, none⟩) h⟩

set_option maxHeartbeats 2000000 in
theorem checkAttr_any (x : AD) (y : Option Addr) (c : Nat) (p : ByteArray) (hm : x.m.size ≤ 281474976710656) (hs : x.s.size ≤ 281474976710656) (w : World) (hr : Reads w y x.len x.z) :
    Calls Tryz.prog 84 #[.agg #[.string x.m, .int .i64 x.k, .int .i64 x.n, .string x.s, .slice y x.len c], .string p] w fun e w' => e = .returned (.int .i64 (errA p x)) ∧ Below w.heap.size w w' := by
  obtain ⟨m, k, n, s, len, z⟩ := x
  simp only at hm hs hr ⊢
  have bl : ∀ o, Below w.heap.size w (w.alloc o) := fun o => (Below.refl _ _).alloc (Nat.le_refl _) _
  have R := Lib.hid (fun o => hr.kept (bl o))
  have BL := Lib.hid bl
  have N := Lib.hid (fun w => wName_any m hm w)
  clear hr bl
  unfold errA
  simp only
  cases hg : goodB m.data.toList with
  | false =>
    have N1 := Lib.hid (p := ∀ w, Calls Tryz.prog 82 #[.string m] w fun e w' => e = .returned (.bool false) ∧ w = w') (fun w => by have := N.out w; rwa [hg] at this)
    rw [if_pos rfl]
    clear N hg
    go_enter Tryz.func84, Tryz.ntmps84
    go_wp2_with fail
    refine (N1.out _).mono ?_
    rintro e w1 ⟨rfl, rfl⟩
    go_wp2_with fail
    go_ret
    exact ⟨rfl, BL.out _⟩
  | true =>
    have N1 := Lib.hid (p := ∀ w, Calls Tryz.prog 82 #[.string m] w fun e w' => e = .returned (.bool true) ∧ w = w') (fun w => by have := N.out w; rwa [hg] at this)
    rw [if_neg (by simp)]
    clear N hg
    cases hl : lsS p m with
    | false =>
      have hl' := leqS_yes hl
      rw [if_pos rfl]
      clear hl
      go_enter Tryz.func84, Tryz.ntmps84
      go_wp2_with fail
      refine (N1.out _).mono ?_
      rintro e w1 ⟨rfl, rfl⟩
      go_wp2_with fail
      go_ret
      exact ⟨rfl, BL.out _⟩
    | true =>
      obtain ⟨hl1, hl2⟩ := leqS_no hl
      rw [if_neg (by simp)]
      clear hl
      go_enter Tryz.func84, Tryz.ntmps84
      go_wp2_with fail
      refine (N1.out _).mono ?_
      rintro e w1 ⟨rfl, rfl⟩
      go_wp2_with fail
      refine (check_any k n s hs y len c z _ (R.out _)).mono ?_
      rintro e w1 ⟨rfl, hb⟩
      have B1 := Lib.hid hb
      clear hb
      go_wp2_with fail
      go_ret
      exact ⟨rfl, (BL.out _).trans (B1.out.mono (by simp))⟩

set_option maxRecDepth 100000 in
set_option maxHeartbeats 4000000 in
theorem wCheck_any (x : RD) (a : Option Addr) (c : Nat) (hk : x.key.size ≤ 281474976710656) (ho : x.o.size ≤ 281474976710656) (hA : ∀ j, j < x.len → (x.A j).m.size ≤ 281474976710656 ∧ (x.A j).s.size ≤ 281474976710656) (w : World) (hr : ReadsA w a x.len x.A) :
    Calls Tryz.prog 43 #[.agg #[.string x.key, .int .i64 x.t, .int .i64 x.i, .int .i64 x.q, .string x.o, .slice a x.len c]] w fun e w' => e = .returned (.int .i64 (errR x)) ∧ Below w.heap.size w w' := by
  obtain ⟨key, t, i, q, o, len, A⟩ := x
  simp only at hk ho hA hr ⊢
  have bl : ∀ o, Below w.heap.size w (w.alloc o) := fun o => (Below.refl _ _).alloc (Nat.le_refl _) _
  have R := Lib.hid (fun o => hr.kept (bl o))
  have BL := Lib.hid bl
  have N := Lib.hid (fun w => wName_any key hk w)
  have HA := Lib.hid hA
  have hm := hr.1
  unfold maxLen at hm
  clear hr bl hA
  cases hg : goodB key.data.toList with
  | false =>
    have E := Lib.hid (show errR ⟨key, t, i, q, o, len, A⟩ = 5 by unfold errR; rw [if_pos hg])
    have N1 := Lib.hid (p := ∀ w, Calls Tryz.prog 82 #[.string key] w fun e w' => e = .returned (.bool false) ∧ w = w') (fun w => by have := N.out w; rwa [hg] at this)
    clear N hg
    go_enter Tryz.func43, Tryz.ntmps43
    go_wp2_with fail
    refine (N1.out _).mono ?_
    rintro e w1 ⟨rfl, rfl⟩
    go_wp2_with fail
    go_ret
    exact ⟨ret_i64 E.out.symm, BL.out _⟩
  | true =>
    have N1 := Lib.hid (p := ∀ w, Calls Tryz.prog 82 #[.string key] w fun e w' => e = .returned (.bool true) ∧ w = w') (fun w => by have := N.out w; rwa [hg] at this)
    obtain ⟨es, hes⟩ : ∃ es, errS t i q o = es := ⟨_, rfl⟩
    have C := Lib.hid (p := ∀ w, Calls Tryz.prog 83 #[.agg #[.int .i64 t, .int .i64 i, .int .i64 q, .string o]] w fun e w' => e = .returned (.int .i64 es) ∧ Below w.heap.size w w') (fun w => by have := stampCheck_any t i q o ho w; rwa [hes] at this)
    have E0 : errR ⟨key, t, i, q, o, len, A⟩ = if es = 0 then (if 32 < len then 4 else errAs ⟨#[]⟩ (fromA A len 0)) else es := by unfold errR; rw [if_neg (by rw [hg]; simp), hes]
    clear N hg hes
    by_cases h0 : es = 0
    · subst h0
      rw [if_pos rfl] at E0
      by_cases h32 : 32 < len
      · rw [if_pos h32] at E0
        have E := Lib.hid E0
        clear E0
        go_enter Tryz.func43, Tryz.ntmps43
        go_wp2_with fail
        refine (N1.out _).mono ?_
        rintro e w1 ⟨rfl, rfl⟩
        go_wp2_with fail
        refine (C.out _).mono ?_
        rintro e w1 ⟨rfl, hb⟩
        have B1 := Lib.hid hb
        obtain ⟨hc, hf⟩ := bcell hb
        clear hb
        go_wp2_with fail
        go_ret
        exact ⟨ret_i64 E.out.symm, (BL.out _).trans (B1.out.mono (by simp))⟩
      · rw [if_neg h32] at E0
        have E := Lib.hid E0
        clear E0
        go_enter Tryz.func43, Tryz.ntmps43
        go_wp2_with fail
        refine (N1.out _).mono ?_
        rintro e w1 ⟨rfl, rfl⟩
        go_wp2_with fail
        refine (C.out _).mono ?_
        rintro e w1 ⟨rfl, hb⟩
        have B1 := Lib.hid ((BL.out _).trans (hb.mono (by simp)))
        have R1 := Lib.hid ((R.out _).kept hb)
        obtain ⟨hc, hf⟩ := bcell hb
        clear hb R
        go_wp2_with fail
        go_loopw [4, 25] (fun p i wr => ∃ (k : Nat) (p0 : ByteArray), p = .string p0 ∧ i = .int .i64 k ∧ k ≤ len ∧ Hid (errAs ⟨#[]⟩ (fromA A len 0) = errAs p0 (fromA A len k)) ∧ Hid (Below w.heap.size w wr) ∧ Hid (ReadsA wr a len A)) (fun _ i _ => len - (intOf i).toNat)
        case atStart => exact ⟨0, ⟨#[]⟩, rfl, rfl, Nat.zero_le _, Lib.hid rfl, B1, R1⟩
        case round =>
          obtain ⟨k, p0, rfl, rfl, hk', hE, hB, hR⟩ := hrel
          clear R1 B1 hc hf
          by_cases hlt : k < len
          · obtain ⟨b, off, rfl, hcs⟩ := hR.out.2.resolve_left (by omega)
            obtain ⟨y, cy, h5, hrd⟩ := hcs k hlt
            obtain ⟨hm1, hs1⟩ := HA.out k hlt
            have hE2 : errAs p0 (fromA A len k) = if errA p0 (A k) = 0 then errAs (A k).m (fromA A len (k + 1)) else errA p0 (A k) := by rw [fromA_cons A hlt]; rfl
            obtain ⟨x, hx⟩ : ∃ x, A k = x := ⟨_, rfl⟩
            rw [hx] at h5 hrd hm1 hs1 hE2
            have bA : ∀ o, Below wr.heap.size wr (wr.alloc o) := fun o => (Below.refl _ _).alloc (Nat.le_refl _) _
            have CA := Lib.hid (fun o => checkAttr_any x y cy p0 hm1 hs1 (wr.alloc o) (hrd.kept (bA o)))
            have BA := Lib.hid bA
            have H5 := Lib.hid h5
            have hE3 := Lib.hid (hE.out.trans hE2)
            obtain ⟨d0, d1, d2, d3, d4⟩ := h5
            have hbw := H5.out.lt
            clear hcs hrd hm1 hs1 hE2 hE bA
            obtain ⟨ea, hea⟩ : ∃ ea, errA p0 x = ea := ⟨_, rfl⟩
            rw [hea] at CA hE3
            have HX := Lib.hid hx
            clear hx hea
            go_wp2_with fail
            refine (CA.out _).mono ?_
            rintro e w2 ⟨rfl, hb⟩
            have B2 := Lib.hid ((BA.out (.cells #[.string x.m, .int .i64 x.k, .int .i64 x.n, .string x.s, .slice y x.len cy] 127)).trans (hb.mono (by simp)))
            have e1 : w2.cell? ⟨wr.heap.size, 0, none⟩ = some (.string x.m) := by
              rw [hb.cell (p := ⟨wr.heap.size, 0, none⟩) (show wr.heap.size < _ by simp)]
              exact (cells5_block (heap_alloc_new wr _)).1
            have hz := hB.out.size
            clear hb d0 d1 d2 d3 d4 CA BA
            by_cases he : ea = 0
            · subst he
              rw [if_pos rfl] at hE3
              go_wp2_with fail
              go_roundw
              case rel => exact ⟨k + 1, x.m, rfl, by go_num, by omega, hE3, Lib.hid (hB.out.trans (B2.out.mono hz)), Lib.hid (hR.out.kept B2.out)⟩
              case measure => simp [intOf]; omega
            · rw [if_neg he] at hE3
              have he' : (ea == 0) = false := by simpa using he
              clear he
              go_wp2_with fail
              go_ret
              exact ⟨ret_i64 (by rw [E.out, hE3.out]), hB.out.trans (B2.out.mono hz)⟩
          · go_wp2_with fail
            go_ret
            exact ⟨ret_i64 (by rw [E.out, hE.out, fromA_nil A (by omega)]; rfl), hB.out⟩
    · rw [if_neg h0] at E0
      have E := Lib.hid E0
      have h0' : (es == 0) = false := by simpa using h0
      clear E0 h0
      go_enter Tryz.func43, Tryz.ntmps43
      go_wp2_with fail
      refine (N1.out _).mono ?_
      rintro e w1 ⟨rfl, rfl⟩
      go_wp2_with fail
      refine (C.out _).mono ?_
      rintro e w1 ⟨rfl, hb⟩
      have B1 := Lib.hid ((BL.out _).trans (hb.mono (by simp)))
      clear hb
      go_wp2_with fail
      go_ret
      exact ⟨ret_i64 E.out.symm, B1.out⟩

end Go.Proofs.YtpdobbdbmgeoiaaGreat
