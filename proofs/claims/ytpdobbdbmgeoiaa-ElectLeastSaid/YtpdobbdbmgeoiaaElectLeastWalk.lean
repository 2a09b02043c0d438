/-
  No statement: ElectLeast's walk.
-/
import Derived.Test.YtpdobbdbmgeoiaaELL
import Derived.Test.YtpdobbdbmgeoiaaTake
import Derived.Laws.IdiomStrings
import Derived.Deep.Cut
import Derived.Deep.CutBlock
import Derived.Deep.DeepCutAuto
import Derived.Deep.QuietTactic
import Derived.BigQuiet
set_option linter.unusedVariables false
set_option linter.unusedSimpArgs false
namespace Go.Proofs.Ytpdobbdbmgeoiaa
open Go.RowKit

section
variable {P : Program}
theorem step_append_new {ops : Array Oper} {o : Oper} {a : Act} {w : World} {K : Act → World → Prop} {Q : Exit → Act → World → Prop} {E : Prop}
    (hg : o.guard = none) (s x : Operand) (t : TypeId) (hop : o.op = Op.call { callee := Callee.builtin Builtin.append, args := #[s, x], argTypes := #[t, t] })
    {base size : Nat} {e : TypeId} {i : TypeInfo} {z : Value} {bytes : Nat} (ht : P.underlying t = some (.slice e)) (hi : P.info? e = some i) (hz : i.zero = some z) (hsize : i.size = size) (hby : i.bytes = bytes) (hzs : z.cells.size = size) (hpos : 0 < size)
    (v : Value) (n m c : Nat) (ad : Addr) (xs news : List Value) (hs : a.eval s = v) (hx : a.eval x = .slice (some ad) m c) (hown : w.ownsRow base e size v n xs) (hl : news.length = m * size) (hn : ∀ j u, news[j]? = some u → w.cell? (ad.add j) = some u) (h1 : ∀ x ∈ news, x.oneCell' = true) (h63 : n + m ≤ maxLen) (hbytes : (n + m) * bytes ≤ 140737488355328) (hbase : base ≤ w.heap.size)
    (hK : ∀ v' w', w'.ownsRow base e size v' (n + m) (xs ++ news) → w.grownBy w' v.ownBlock → (∀ q, v'.ownBlock = some q → v.ownBlock = some q ∨ w.heap.size ≤ q) → K (a.put o.dst v') w') :
    if Region.wanted o (yielded ops a.tmps) = true then Oper.wp P o a w K Q else E := by
  have hw : Region.wanted o (yielded ops a.tmps) = true := by simp [Region.wanted, hg]
  rw [if_pos hw]
  obtain ⟨v', w', hr, ho, hgr, hq⟩ := run_append_new (P := P) (ty := o.type) (c := c) ht hi hz hsize hby hzs hpos hown hl hn h1 h63 hbytes hbase
  unfold Oper.wp
  simp [execOp, hop, resolve, invoke, builtin, hs, hx, hr, Result.andThen]
  exact hK _ _ ho hgr hq
end

theorem infoRowL : (Try.prog.info? 42).map (fun i => (i.zero, i.size, i.bytes)) = some (some (.agg #[.string ⟨#[]⟩, .int .i64 0, .int .i64 0, .int .i64 0, .string ⟨#[]⟩, .slice none 0 0]), 6, 80) := by kernel_rfl

/-- A text of one byte. -/
theorem conv_one (y : UInt8) (b : Nat) (v : Value) (W : World) (hv : v = .slice (some ⟨b, 0, none⟩) 1 1) (h : W.cell? ⟨b, 0, none⟩ = some (.int .u8 (y.toNat : Int))) : (convert 46 9 v).run Try.prog W = .ok (.string ⟨[y].toArray⟩) W := by
  subst hv
  refine run_convert_bytes_back W 46 9 5 ⟨b, 0, none⟩ 1 [y] Try.underlying46 Try.underlying5 Try.underlying9 (fun j hj => ?_)
  rw [Addr.add_lit, Nat.zero_add]
  have h0 : j = 0 := by simp at hj; omega
  subst h0
  exact h

theorem drewD' (w : World) : Below w.heap.size w w.drew := ⟨rfl, rfl, rfl, Nat.le_refl _, fun _ _ => rfl⟩
theorem drewND' (w : World) (m : Nat) : Below w.heap.size w (w.drewN m) := ⟨rfl, rfl, rfl, Nat.le_refl _, fun _ _ => rfl⟩
theorem alloc_le (w : World) (o : Obj) : w.heap.size ≤ (w.alloc o).heap.size := by simp
theorem grow2 (w : World) (o1 o2 : Obj) : Below w.heap.size w ((w.alloc o1).alloc o2).drew := (two_boxes w o1 o2).1.trans ((drewD' _).mono (by simp; omega))

set_option maxHeartbeats 16000000 in
set_option maxRecDepth 100000 in
theorem electLeast_walk (z : Nat → Int) (n : Nat) (a : Option Addr) (c : Nat) (_hg : ∀ j, In64 (z j)) (w : World) (h : Reads w a n z) :
    Calls Try.prog 5 #[.slice a n c] w fun e w' => e = .returned (.bool true) ∧ Below w.heap.size w w' := by
  have HL := Lib.hid (p := ∀ u, Below w.heap.size w u → Reads u a n z) (fun u hb => h.kept hb)
  obtain ⟨i0, hi, hz0, hz1, hz2⟩ := info_parts infoRowL
  have und : Try.prog.underlying 22 = some (.slice 42) := Try.underlying22
  clear h
  go_enter Try.func5, Try.ntmps5
  go_wp2_with fail
  refine (known15_any w).mono ?_
  rintro e w1 ⟨rfl, hb1⟩
  have B1 := Lib.hid hb1
  clear hb1
  by_cases h0 : n = 0
  · subst h0
    go_wp2_with fail
    go_ret
    exact ⟨rfl, B1.out⟩
  have d0 : ((n : Int) == 0) = false := by rw [beq_eq_false_iff_ne]; omega
  by_cases h20 : 20 < n
  · have d1 : (20 : Int) < (n : Int) := by omega
    go_wp2_with fail
    go_ret
    exact ⟨rfl, B1.out⟩
  have d1 : ¬ (20 : Int) < (n : Int) := by omega
  go_wp2_with fail
  clear d0 d1
  obtain ⟨Z, hZ⟩ : ∃ Z, w1.heap.size = Z := ⟨_, rfl⟩
  have HZ := Lib.hid hZ
  have hwZ := Lib.hid (show w.heap.size ≤ Z by rw [← hZ]; exact B1.out.size)
  clear hZ
  go_loopw [3, 4, 5] (fun v bv i wr => ∃ (k : Nat) (T : List RTd) (bst : Nat) (va : Option Addr) (vc : Nat), v = .slice va k vc ∧ bv = .int .i64 bst ∧ i = .int .i64 k ∧ k ≤ n ∧ bst ≤ k ∧ Hid (Best z k bst) ∧ Hid (T.map (·.1) = LW z k) ∧ Hid (wr.ownsRow Z 42 6 (.slice va k vc) k (T.flatMap sixD)) ∧ Hid (∀ t ∈ T, ReadsAG (fun q => (Value.slice va k vc).ownBlock ≠ some q) wr t.2.1 t.1.len t.1.A) ∧ Hid (Below Z w1 wr)) (fun _ _ i _ => n - (intOf i).toNat)
  case atStart => exact ⟨0, [], 0, none, 0, rfl, rfl, rfl, Nat.zero_le _, Nat.le_refl _, Lib.hid ⟨fun _ => rfl, fun h => by omega, fun j h => by omega⟩, Lib.hid rfl, Lib.hid (World.ownsRow_nil _ _ _ _), Lib.hid (fun t ht => by cases ht), Lib.hid (by rw [← HZ.out]; exact Below.refl _ _)⟩
  case round =>
    obtain ⟨k, T, bst, va, vc, rfl, rfl, rfl, hk, hbk, HB, HM, HO, HT, BW⟩ := hrel
    by_cases hlt : k < n
    · have a1 : (k : Int) < (n : Int) := by omega
      have hzr : Z ≤ wr.heap.size := by have := BW.out.size; rw [HZ.out] at this; exact this
      have BR := Lib.hid (B1.out.trans (BW.out.mono hwZ.out))
      obtain ⟨b, off, rfl, hcc⟩ := (HL.out w (Below.refl _ _)).2.resolve_left (by omega)
      have c01 := hcc k hlt
      have hbst : bst < n := by have := HB.out.2.1; have := HB.out.1; omega
      have c02 := hcc bst hbst
      have hbw := World.block_lt_of_cell? w _ c01
      have hbw2 : b < Z := by have := hwZ.out; have : b < w.heap.size := by simpa using hbw
                              omega
      have c1 := (BR.out.cell (p := ⟨b, off + k, none⟩) (by simpa using hbw)).trans c01
      have c2 := (BR.out.cell (p := ⟨b, off + bst, none⟩) (by simpa using hbw)).trans c02
      clear hcc hbw c01 c02
      have hk20 : k < 20 := by omega
      have q1 : IntKind.i64.wrap (97 + (k : Int)) = 97 + (k : Int) := IntWalk.i64_in _ (by omega)
      have q2 : IntKind.u8.wrap (97 + (k : Int)) = 97 + (k : Int) := IntWalk.u8_in _ (by omega)
      have q3 : IntKind.i64.wrap (122 - (k : Int)) = 122 - (k : Int) := IntWalk.i64_in _ (by omega)
      have q4 : IntKind.u8.wrap (122 - (k : Int)) = 122 - (k : Int) := IntWalk.u8_in _ (by omega)
      obtain ⟨y1, hy1⟩ : ∃ y : UInt8, y = UInt8.ofNat (97 + k) := ⟨_, rfl⟩
      obtain ⟨y2, hy2⟩ : ∃ y : UInt8, y = UInt8.ofNat (122 - k) := ⟨_, rfl⟩
      have hn1 : (97 + (k : Int)) = (y1.toNat : Int) := by rw [hy1]; simp; omega
      have hn2 : (122 - (k : Int)) = (y2.toNat : Int) := by rw [hy2]; simp; omega
      obtain ⟨Y1, hY1⟩ : ∃ Y : ByteArray, (⟨[y1].toArray⟩ : ByteArray) = Y := ⟨_, rfl⟩
      obtain ⟨Y2, hY2⟩ : ∃ Y : ByteArray, (⟨[y2].toArray⟩ : ByteArray) = Y := ⟨_, rfl⟩
      have z1 : Y1.size = 1 := by rw [← hY1]; rfl
      have z2 : Y2.size = 1 := by rw [← hY2]; rfl
      have hN1 : (⟨#[107]⟩ ++ Y1 : ByteArray) = kI k := by rw [← hY1, hy1]; rfl
      have hN2 : (⟨#[47, 122, 47, 109]⟩ ++ Y2 : ByteArray) = pI k := by rw [← hY2, hy2]; rfl
      have x1 : (9223372036854775807 < 1 + Y1.size) = False := by rw [eq_iff_iff, iff_false]; omega
      have x2 : (9223372036854775807 < 4 + Y2.size) = False := by rw [eq_iff_iff, iff_false]; omega
      obtain ⟨N1, hNN1⟩ : ∃ N, kI k = N := ⟨_, rfl⟩
      obtain ⟨N2, hNN2⟩ : ∃ N, pI k = N := ⟨_, rfl⟩
      rw [hNN1] at hN1
      rw [hNN2] at hN2
      have HNN := Lib.hid (And.intro hNN1 hNN2)
      have D1 := Lib.hid (p := ∀ (b' : Nat) (W : World), W.cell? ⟨b', 0, none⟩ = some (.int .u8 (97 + (k : Int))) → (convert 46 9 (.slice (some ⟨b', 0, none⟩) 1 1)).run Try.prog W = .ok (.string Y1) W) (fun b' W hc => by rw [← hY1]; exact conv_one y1 b' _ W rfl (by rw [hc, hn1]))
      have D2 := Lib.hid (p := ∀ (b' : Nat) (W : World), W.cell? ⟨b', 0, none⟩ = some (.int .u8 (122 - (k : Int))) → (convert 46 9 (.slice (some ⟨b', 0, none⟩) 1 1)).run Try.prog W = .ok (.string Y2) W) (fun b' W hc => by rw [← hY2]; exact conv_one y2 b' _ W rfl (by rw [hc, hn2]))
      clear hY1 hY2 hy1 hy2 hn1 hn2 hNN1 hNN2
      have c_1 := fun (W : World) (b' : Nat) (v : Value) (hh : W.heap[b']? = some (.cells #[v] 5 (0, 0))) => (show W.cell? ⟨b', 0, none⟩ = some v by simpa using cell_of_row W b' 0 _ _ (0, 0) hh)
      have T1 : (wr.alloc (.cells #[.int .u8 (97 + (k : Int))] 5)).drew.heap[wr.heap.size]? = some (.cells #[.int .u8 (97 + (k : Int))] 5 (0, 0)) := heap_alloc_new wr _
      have T2 : (wr.alloc (.cells #[.int .u8 (122 - (k : Int))] 5)).drew.heap[wr.heap.size]? = some (.cells #[.int .u8 (122 - (k : Int))] 5 (0, 0)) := heap_alloc_new wr _
      have tb1 : ((wr.alloc (.cells #[.int .u8 (97 + (k : Int))] 5)).alloc (.cells #[.int .u8 (122 - (k : Int))] 5)).drew.heap[wr.heap.size]? = some (.cells #[.int .u8 (97 + (k : Int))] 5 (0, 0)) := (two_boxes wr _ _).2.1
      have tb2 : ((wr.alloc (.cells #[.int .u8 (97 + (k : Int))] 5)).alloc (.cells #[.int .u8 (122 - (k : Int))] 5)).drew.heap[wr.heap.size + 1]? = some (.cells #[.int .u8 (122 - (k : Int))] 5 (0, 0)) := (two_boxes wr _ _).2.2.1
      have tb3 : ((wr.alloc (.cells #[.int .u8 (122 - (k : Int))] 5)).alloc (.cells #[.int .u8 (97 + (k : Int))] 5)).drew.heap[wr.heap.size]? = some (.cells #[.int .u8 (122 - (k : Int))] 5 (0, 0)) := (two_boxes wr _ _).2.1
      have tb4 : ((wr.alloc (.cells #[.int .u8 (122 - (k : Int))] 5)).alloc (.cells #[.int .u8 (97 + (k : Int))] 5)).drew.heap[wr.heap.size + 1]? = some (.cells #[.int .u8 (97 + (k : Int))] 5 (0, 0)) := (two_boxes wr _ _).2.2.1
      have V1 := D1.out _ _ (c_1 _ _ _ T1)
      have V2 := D2.out _ _ (c_1 _ _ _ T2)
      have V3 := D1.out _ _ (c_1 _ _ _ tb1)
      have V4 := D2.out _ _ (c_1 _ _ _ tb2)
      have V5 := D2.out _ _ (c_1 _ _ _ tb3)
      have V6 := D1.out _ _ (c_1 _ _ _ tb4)
      clear D1 D2 T1 T2 c_1 tb1 tb2 tb3 tb4
      have WHO := Lib.hid (p := ∀ W, Calls Try.prog 13 #[.string N1, .string N2, .int .i64 (z k)] W fun e w' => (∃ B, e = .returned (.agg #[.string N1, .int .i64 0, .int .i64 0, .int .i64 0, .string ⟨#[]⟩, .slice (some ⟨B, 0, none⟩) 2 2]) ∧ ReadsAG (fun q => W.heap.size ≤ q) w' (some ⟨B, 0, none⟩) 2 (whoA N2 (z k))) ∧ Below W.heap.size W w') (fun W => who_any N1 N2 (z k) W)
      have CZ := Lib.hid (p := ∀ V, Below Z wr V → V.cell? ⟨b, off + k, none⟩ = some (.int .i64 (z k)) ∧ V.cell? ⟨b, off + bst, none⟩ = some (.int .i64 (z bst))) (fun V hb => ⟨(hb.cell (p := ⟨b, off + k, none⟩) hbw2).trans c1, (hb.cell (p := ⟨b, off + bst, none⟩) hbw2).trans c2⟩)
      have H63 : k + 1 ≤ maxLen := by unfold maxLen; omega
      have HBY : (k + 1) * 80 ≤ 140737488355328 := by omega
      have OL := Lib.hid (p := ∀ q, (Value.slice va k vc).ownBlock = some q → Z ≤ q ∧ q < wr.heap.size) (fun q hq => HO.out.lt q hq)
      go_upto_region 10 with fail
      go_cut [3] (fun v3 wc => ∃ (va6 : Option Addr) (vc6 : Nat) (T6 : List RTd), v3 = .slice va6 (k + 1) vc6 ∧ Hid (T6.map (·.1) = LW z (k + 1)) ∧ Hid (wc.ownsRow Z 42 6 (.slice va6 (k + 1) vc6) (k + 1) (T6.flatMap sixD)) ∧ Hid (∀ t ∈ T6, ReadsAG (fun q => (Value.slice va6 (k + 1) vc6).ownBlock ≠ some q) wc t.2.1 t.1.len t.1.A) ∧ Hid (Below Z wr wc))
      case first =>
        have S1 : (wr.alloc (.cells #[.int .u8 (97 + (k : Int))] 5)).drew.cell? ⟨b, off + k, none⟩ = some (.int .i64 (z k)) := (CZ.out _ (Below.mono (((Below.refl wr.heap.size wr).alloc (Nat.le_refl _) _).trans ((drewD' _).mono (by simp <;> omega))) hzr)).1
        have S2 : (wr.alloc (.cells #[.int .u8 (122 - (k : Int))] 5)).drew.cell? ⟨b, off + k, none⟩ = some (.int .i64 (z k)) := (CZ.out _ (Below.mono (((Below.refl wr.heap.size wr).alloc (Nat.le_refl _) _).trans ((drewD' _).mono (by simp <;> omega))) hzr)).1
        have S12 : ((wr.alloc (.cells #[.int .u8 (97 + (k : Int))] 5)).alloc (.cells #[.int .u8 (122 - (k : Int))] 5)).drew.cell? ⟨b, off + k, none⟩ = some (.int .i64 (z k)) := (CZ.out _ (Below.mono (((two_boxes wr _ _).1).trans ((drewD' _).mono (by simp <;> omega))) hzr)).1
        have S21 : ((wr.alloc (.cells #[.int .u8 (122 - (k : Int))] 5)).alloc (.cells #[.int .u8 (97 + (k : Int))] 5)).drew.cell? ⟨b, off + k, none⟩ = some (.int .i64 (z k)) := (CZ.out _ (Below.mono (((two_boxes wr _ _).1).trans ((drewD' _).mono (by simp <;> omega))) hzr)).1
        refine wp_region_held_drew (S := fun w' => w'.cell? ⟨b, off + k, none⟩ = some (.int .i64 (z k))) (by kernel_rfl) ((CZ.out _ ((drewD' wr).mono hzr)).1) (fun hHeld => ?_)
        refine takeHYtpdobbdbmgeoiaa (i := 0) (d := some 26) (v := .slice va k vc) rfl rfl (by kernel_rfl) (by kernel_rfl) (by kernel_rfl) (fun _ _ _ h => h) (Or.inl ⟨by rfl, by intro w hSw; have hS0 := hSw; go_simp⟩) hHeld ?_
        simp only [Act.put, List.setIfInBounds_toArray, List.set_cons_zero, List.set_cons_succ]
        refine takeHYtpdobbdbmgeoiaa (i := 1) (d := some 27) (v := .int .i64 (k : Nat)) rfl rfl (by kernel_rfl) (by kernel_rfl) (by kernel_rfl) (fun _ _ _ h => h) (Or.inl ⟨by rfl, by intro w hSw; have hS0 := hSw; go_simp⟩) hHeld ?_
        simp only [Act.put, List.setIfInBounds_toArray, List.set_cons_zero, List.set_cons_succ]
        refine takeHYtpdobbdbmgeoiaa (i := 2) (d := some 28) (v := .int .i64 (97 + (k : Int))) rfl rfl (by kernel_rfl) (by kernel_rfl) (by kernel_rfl) (fun _ _ _ h => h) (Or.inl ⟨by rfl, by intro w hSw; have hS0 := hSw; go_simp⟩) hHeld ?_
        simp only [Act.put, List.setIfInBounds_toArray, List.set_cons_zero, List.set_cons_succ]
        refine takeHYtpdobbdbmgeoiaa (i := 3) (d := some 29) (v := .int .u8 (97 + (k : Int))) rfl rfl (by kernel_rfl) (by kernel_rfl) (by kernel_rfl) (fun _ _ _ h => h) (Or.inl ⟨by rfl, by intro w hSw; have hS0 := hSw; go_simp⟩) hHeld ?_
        simp only [Act.put, List.setIfInBounds_toArray, List.set_cons_zero, List.set_cons_succ]
        refine takeHYtpdobbdbmgeoiaa (i := 7) (d := some 33) (v := .int .i64 (k : Nat)) rfl rfl (by kernel_rfl) (by kernel_rfl) (by kernel_rfl) (fun _ _ _ h => h) (Or.inl ⟨by rfl, by intro w hSw; have hS0 := hSw; go_simp⟩) hHeld ?_
        simp only [Act.put, List.setIfInBounds_toArray, List.set_cons_zero, List.set_cons_succ]
        refine takeHYtpdobbdbmgeoiaa (i := 8) (d := some 34) (v := .int .i64 (122 - (k : Int))) rfl rfl (by kernel_rfl) (by kernel_rfl) (by kernel_rfl) (fun _ _ _ h => h) (Or.inl ⟨by rfl, by intro w hSw; have hS0 := hSw; go_simp⟩) hHeld ?_
        simp only [Act.put, List.setIfInBounds_toArray, List.set_cons_zero, List.set_cons_succ]
        refine takeHYtpdobbdbmgeoiaa (i := 9) (d := some 35) (v := .int .u8 (122 - (k : Int))) rfl rfl (by kernel_rfl) (by kernel_rfl) (by kernel_rfl) (fun _ _ _ h => h) (Or.inl ⟨by rfl, by intro w hSw; have hS0 := hSw; go_simp⟩) hHeld ?_
        simp only [Act.put, List.setIfInBounds_toArray, List.set_cons_zero, List.set_cons_succ]
        refine takeHYtpdobbdbmgeoiaa (i := 13) (d := some 39) (v := .slice (some ⟨b, off, none⟩) n c) rfl rfl (by kernel_rfl) (by kernel_rfl) (by kernel_rfl) (fun _ _ _ h => h) (Or.inl ⟨by rfl, by intro w hSw; have hS0 := hSw; go_simp⟩) hHeld ?_
        simp only [Act.put, List.setIfInBounds_toArray, List.set_cons_zero, List.set_cons_succ]
        refine takeHYtpdobbdbmgeoiaa (i := 14) (d := some 40) (v := .int .i64 (k : Nat)) rfl rfl (by kernel_rfl) (by kernel_rfl) (by kernel_rfl) (fun _ _ _ h => h) (Or.inl ⟨by rfl, by intro w hSw; have hS0 := hSw; go_simp⟩) hHeld ?_
        simp only [Act.put, List.setIfInBounds_toArray, List.set_cons_zero, List.set_cons_succ]
        refine takeHYtpdobbdbmgeoiaa (i := 15) (d := some 41) (v := .pointer (some ⟨b, off + k, none⟩)) rfl rfl (by kernel_rfl) (by kernel_rfl) (by kernel_rfl) (fun _ _ _ h => h) (Or.inl ⟨by rfl, by intro w hSw; have hS0 := hSw; go_simp⟩) hHeld ?_
        simp only [Act.put, List.setIfInBounds_toArray, List.set_cons_zero, List.set_cons_succ]
        refine takeHYtpdobbdbmgeoiaa (i := 16) (d := some 42) (v := .int .i64 (z k)) rfl rfl (by kernel_rfl) (by kernel_rfl) (by kernel_rfl) (fun _ _ _ h => h) (Or.inl ⟨by rfl, by intro w hSw; have hS0 := hSw; go_simp⟩) hHeld ?_
        simp only [Act.put, List.setIfInBounds_toArray, List.set_cons_zero, List.set_cons_succ]
        refine wpAnyH_ready (rs := [4, 10]) (by kernel_rfl) (by simp) ?_
        refine AllReadyH.cons (o := _) rfl (fun K hK => ?_) (AllReadyH.cons (o := _) rfl (fun K hK => ?_) AllReadyH.nil)
        · go_simp
          refine hK.out _ _ S1 (fun hHeld => ?_)
          try simp only [Act.put, List.setIfInBounds_toArray, List.set_cons_zero, List.set_cons_succ]
          clear hK K
          refine wpAnyH_ready (rs := [5, 10]) (by kernel_rfl) (by simp) ?_
          refine AllReadyH.cons (o := _) rfl (fun K hK => ?_) (AllReadyH.cons (o := _) rfl (fun K hK => ?_) AllReadyH.nil)
          · go_simp
            refine hK.out _ _ hHeld (fun hHeld => ?_)
            try simp only [Act.put, List.setIfInBounds_toArray, List.set_cons_zero, List.set_cons_succ]
            clear hK K
            refine takeHYtpdobbdbmgeoiaa (i := 6) (d := some 32) (v := .string N1) rfl rfl (by kernel_rfl) (by kernel_rfl) (by kernel_rfl) (fun _ _ _ h => h) (Or.inl ⟨by rfl, by intro w hSw; have hS0 := hSw; go_simp⟩) hHeld ?_
            simp only [Act.put, List.setIfInBounds_toArray, List.set_cons_zero, List.set_cons_succ]
            refine wpAnyH_ready (rs := [10]) (by kernel_rfl) (by simp) ?_
            refine AllReadyH.cons (o := _) rfl (fun K hK => ?_) AllReadyH.nil
            · go_simp
              refine hK.out _ _ S12 (fun hHeld => ?_)
              try simp only [Act.put, List.setIfInBounds_toArray, List.set_cons_zero, List.set_cons_succ]
              clear hK K
              refine wpAnyH_ready (rs := [11]) (by kernel_rfl) (by simp) ?_
              refine AllReadyH.cons (o := _) rfl (fun K hK => ?_) AllReadyH.nil
              · go_simp
                refine hK.out _ _ hHeld (fun hHeld => ?_)
                try simp only [Act.put, List.setIfInBounds_toArray, List.set_cons_zero, List.set_cons_succ]
                clear hK K
                refine takeHYtpdobbdbmgeoiaa (i := 12) (d := some 38) (v := .string N2) rfl rfl (by kernel_rfl) (by kernel_rfl) (by kernel_rfl) (fun _ _ _ h => h) (Or.inl ⟨by rfl, by intro w hSw; have hS0 := hSw; go_simp⟩) hHeld ?_
                simp only [Act.put, List.setIfInBounds_toArray, List.set_cons_zero, List.set_cons_succ]
                refine wpAnyH_ready (rs := [17]) (by kernel_rfl) (by simp) ?_
                refine AllReadyH.cons (o := _) rfl (fun K hK => ?_) AllReadyH.nil
                go_simp
                refine (WHO.out _).mono ?_
                rintro e w5 ⟨⟨B5, rfl, hr5⟩, hb⟩
                have B9 := Lib.hid ((grow2 wr _ _).trans (hb.mono (grow2 wr _ _).size))
                have R5 := Lib.hid (ReadsAG.mono (H := fun q => wr.heap.size ≤ q ∧ q < w5.heap.size) hr5 (fun q h1 h2 => And.intro (Nat.le_trans (grow2 wr _ _).size h1) h2))
                have O9 := Lib.hid (owns_below HO.out B9.out)
                have NEW := Lib.hid (new_sixD w5 (whoR N1 N2 (z k), some ⟨B5, 0, none⟩, 2))
                have HBS : Z ≤ (w5.alloc (rowB (whoR N1 N2 (z k), some ⟨B5, 0, none⟩, 2))).heap.size := Nat.le_trans hzr (Nat.le_trans B9.out.size (alloc_le w5 _))
                have cc := (CZ.out _ (B9.out.mono hzr)).1
                have cc2 := (CZ.out _ ((B9.out.mono hzr).alloc (Nat.le_trans hzr B9.out.size) (rowB (whoR N1 N2 (z k), some ⟨B5, 0, none⟩, 2)))).1
                unfold rowB at cc2
                clear hb hr5
                refine hK.out _ _ cc (fun hHeld => ?_)
                try simp only [Act.put, List.setIfInBounds_toArray, List.set_cons_zero, List.set_cons_succ]
                clear hK K
                refine wpAnyH_ready (rs := [18]) (by kernel_rfl) (by simp) ?_
                refine AllReadyH.cons (o := _) rfl (fun K hK => ?_) AllReadyH.nil
                go_simp
                refine hK.out _ _ cc2 (fun hHeld => ?_)
                try simp only [Act.put, List.setIfInBounds_toArray, List.set_cons_zero, List.set_cons_succ]
                clear hK K
                refine wpAnyH_ready (rs := [19]) (by kernel_rfl) (by simp) ?_
                refine AllReadyH.cons (o := _) rfl (fun K hK => ?_) AllReadyH.nil
                refine step_append_new (w := w5.alloc (rowB (whoR N1 N2 (z k), some ⟨B5, 0, none⟩, 2))) (base := Z) (size := 6) (e := 42) rfl (.tmp 26) (.tmp 44) 22 rfl und hi hz0 hz1 hz2 rfl (by decide) (.slice va k vc) k 1 1 ⟨w5.heap.size, 0, none⟩ (T.flatMap sixD) (sixD (whoR N1 N2 (z k), some ⟨B5, 0, none⟩, 2)) rfl rfl (World.ownsRow.alloc O9.out _) rfl NEW.out (sixD_one _) H63 HBY HBS ?_
                intro v6 w6 ho hg hq
                obtain ⟨va6, vc6, rfl⟩ := own_rowG ho
                have O6 := Lib.hid ho
                have G6 := Lib.hid hg
                have Q6 := Lib.hid hq
                have B6 := Lib.hid (((B9.out.mono hzr).alloc (Nat.le_trans hzr B9.out.size) _).grown hg HBS (fun q hq => (OL.out q hq).1))
                clear ho hg hq
                refine hK.out _ _ (CZ.out _ B6.out).1 (fun hHeld => ?_)
                try simp only [Act.put, List.setIfInBounds_toArray, List.set_cons_zero, List.set_cons_succ]
                clear hK K
                refine takeHYtpdobbdbmgeoiaa (i := 20) (d := some 3) (v := .slice va6 (k + 1) vc6) rfl rfl (by kernel_rfl) (by kernel_rfl) (by kernel_rfl) (fun _ _ _ h => h) (Or.inl ⟨by rfl, by intro w hSw; have hS0 := hSw; go_simp⟩) hHeld ?_
                simp only [Act.put, List.setIfInBounds_toArray, List.set_cons_zero, List.set_cons_succ]
                refine wpAnyH_done (by kernel_rfl) ?_ _
                go_wp2_with fail
                go_meet
                case rel =>
                  refine ⟨va6, vc6, T ++ [(whoR N1 N2 (z k), some ⟨B5, 0, none⟩, 2)], rfl, Lib.hid ?_, Lib.hid ?_, Lib.hid (fun t ht => ?_), B6⟩
                  · rw [List.map_append, HM.out, LW_succ]
                    show _ ++ [whoR N1 N2 (z k)] = _ ++ [whoR (kI k) (pI k) (z k)]
                    rw [HNN.out.1, HNN.out.2]
                  · rw [List.flatMap_append]; simpa using O6.out
                  · have hk6 : Kept (fun q => (Value.slice va k vc).ownBlock = some q) w5 w6 := ((Kept.refl _ w5).alloc _).grown G6.out (fun q hq => .inl hq)
                    have hz59 := B9.out.size
                    rcases List.mem_append.1 ht with ht | ht
                    · have h1 := (HT.out t ht).mono (H := fun q => (Value.slice va k vc).ownBlock ≠ some q ∧ q < wr.heap.size) (fun q h1 h2 => ⟨h1, h2⟩)
                      have h2 := (h1.kept (keptNew B9.out) (fun _ _ h => h)).kept hk6 (fun q hq h => hq.1 h)
                      refine h2.mono (fun q hq _ e => ?_)
                      rcases Q6.out q e with h | h
                      · exact hq.1 h
                      · have : w5.heap.size ≤ q := Nat.le_trans (alloc_le w5 _) h
                        omega
                    · rw [List.mem_singleton] at ht
                      subst ht
                      have h2 := R5.out.kept hk6 (fun q hq h => by have := (OL.out q h).2; omega)
                      refine h2.mono (fun q hq _ e => ?_)
                      rcases Q6.out q e with h | h
                      · have := (OL.out q h).2; omega
                      · have : w5.heap.size ≤ q := Nat.le_trans (alloc_le w5 _) h
                        omega
          · go_simp
            refine hK.out _ _ S12 (fun hHeld => ?_)
            try simp only [Act.put, List.setIfInBounds_toArray, List.set_cons_zero, List.set_cons_succ]
            clear hK K
            refine wpAnyH_ready (rs := [5, 11]) (by kernel_rfl) (by simp) ?_
            refine AllReadyH.cons (o := _) rfl (fun K hK => ?_) (AllReadyH.cons (o := _) rfl (fun K hK => ?_) AllReadyH.nil)
            · go_simp
              refine hK.out _ _ hHeld (fun hHeld => ?_)
              try simp only [Act.put, List.setIfInBounds_toArray, List.set_cons_zero, List.set_cons_succ]
              clear hK K
              refine takeHYtpdobbdbmgeoiaa (i := 6) (d := some 32) (v := .string N1) rfl rfl (by kernel_rfl) (by kernel_rfl) (by kernel_rfl) (fun _ _ _ h => h) (Or.inl ⟨by rfl, by intro w hSw; have hS0 := hSw; go_simp⟩) hHeld ?_
              simp only [Act.put, List.setIfInBounds_toArray, List.set_cons_zero, List.set_cons_succ]
              refine wpAnyH_ready (rs := [11]) (by kernel_rfl) (by simp) ?_
              refine AllReadyH.cons (o := _) rfl (fun K hK => ?_) AllReadyH.nil
              · go_simp
                refine hK.out _ _ hHeld (fun hHeld => ?_)
                try simp only [Act.put, List.setIfInBounds_toArray, List.set_cons_zero, List.set_cons_succ]
                clear hK K
                refine takeHYtpdobbdbmgeoiaa (i := 12) (d := some 38) (v := .string N2) rfl rfl (by kernel_rfl) (by kernel_rfl) (by kernel_rfl) (fun _ _ _ h => h) (Or.inl ⟨by rfl, by intro w hSw; have hS0 := hSw; go_simp⟩) hHeld ?_
                simp only [Act.put, List.setIfInBounds_toArray, List.set_cons_zero, List.set_cons_succ]
                refine wpAnyH_ready (rs := [17]) (by kernel_rfl) (by simp) ?_
                refine AllReadyH.cons (o := _) rfl (fun K hK => ?_) AllReadyH.nil
                go_simp
                refine (WHO.out _).mono ?_
                rintro e w5 ⟨⟨B5, rfl, hr5⟩, hb⟩
                have B9 := Lib.hid ((grow2 wr _ _).trans (hb.mono (grow2 wr _ _).size))
                have R5 := Lib.hid (ReadsAG.mono (H := fun q => wr.heap.size ≤ q ∧ q < w5.heap.size) hr5 (fun q h1 h2 => And.intro (Nat.le_trans (grow2 wr _ _).size h1) h2))
                have O9 := Lib.hid (owns_below HO.out B9.out)
                have NEW := Lib.hid (new_sixD w5 (whoR N1 N2 (z k), some ⟨B5, 0, none⟩, 2))
                have HBS : Z ≤ (w5.alloc (rowB (whoR N1 N2 (z k), some ⟨B5, 0, none⟩, 2))).heap.size := Nat.le_trans hzr (Nat.le_trans B9.out.size (alloc_le w5 _))
                have cc := (CZ.out _ (B9.out.mono hzr)).1
                have cc2 := (CZ.out _ ((B9.out.mono hzr).alloc (Nat.le_trans hzr B9.out.size) (rowB (whoR N1 N2 (z k), some ⟨B5, 0, none⟩, 2)))).1
                unfold rowB at cc2
                clear hb hr5
                refine hK.out _ _ cc (fun hHeld => ?_)
                try simp only [Act.put, List.setIfInBounds_toArray, List.set_cons_zero, List.set_cons_succ]
                clear hK K
                refine wpAnyH_ready (rs := [18]) (by kernel_rfl) (by simp) ?_
                refine AllReadyH.cons (o := _) rfl (fun K hK => ?_) AllReadyH.nil
                go_simp
                refine hK.out _ _ cc2 (fun hHeld => ?_)
                try simp only [Act.put, List.setIfInBounds_toArray, List.set_cons_zero, List.set_cons_succ]
                clear hK K
                refine wpAnyH_ready (rs := [19]) (by kernel_rfl) (by simp) ?_
                refine AllReadyH.cons (o := _) rfl (fun K hK => ?_) AllReadyH.nil
                refine step_append_new (w := w5.alloc (rowB (whoR N1 N2 (z k), some ⟨B5, 0, none⟩, 2))) (base := Z) (size := 6) (e := 42) rfl (.tmp 26) (.tmp 44) 22 rfl und hi hz0 hz1 hz2 rfl (by decide) (.slice va k vc) k 1 1 ⟨w5.heap.size, 0, none⟩ (T.flatMap sixD) (sixD (whoR N1 N2 (z k), some ⟨B5, 0, none⟩, 2)) rfl rfl (World.ownsRow.alloc O9.out _) rfl NEW.out (sixD_one _) H63 HBY HBS ?_
                intro v6 w6 ho hg hq
                obtain ⟨va6, vc6, rfl⟩ := own_rowG ho
                have O6 := Lib.hid ho
                have G6 := Lib.hid hg
                have Q6 := Lib.hid hq
                have B6 := Lib.hid (((B9.out.mono hzr).alloc (Nat.le_trans hzr B9.out.size) _).grown hg HBS (fun q hq => (OL.out q hq).1))
                clear ho hg hq
                refine hK.out _ _ (CZ.out _ B6.out).1 (fun hHeld => ?_)
                try simp only [Act.put, List.setIfInBounds_toArray, List.set_cons_zero, List.set_cons_succ]
                clear hK K
                refine takeHYtpdobbdbmgeoiaa (i := 20) (d := some 3) (v := .slice va6 (k + 1) vc6) rfl rfl (by kernel_rfl) (by kernel_rfl) (by kernel_rfl) (fun _ _ _ h => h) (Or.inl ⟨by rfl, by intro w hSw; have hS0 := hSw; go_simp⟩) hHeld ?_
                simp only [Act.put, List.setIfInBounds_toArray, List.set_cons_zero, List.set_cons_succ]
                refine wpAnyH_done (by kernel_rfl) ?_ _
                go_wp2_with fail
                go_meet
                case rel =>
                  refine ⟨va6, vc6, T ++ [(whoR N1 N2 (z k), some ⟨B5, 0, none⟩, 2)], rfl, Lib.hid ?_, Lib.hid ?_, Lib.hid (fun t ht => ?_), B6⟩
                  · rw [List.map_append, HM.out, LW_succ]
                    show _ ++ [whoR N1 N2 (z k)] = _ ++ [whoR (kI k) (pI k) (z k)]
                    rw [HNN.out.1, HNN.out.2]
                  · rw [List.flatMap_append]; simpa using O6.out
                  · have hk6 : Kept (fun q => (Value.slice va k vc).ownBlock = some q) w5 w6 := ((Kept.refl _ w5).alloc _).grown G6.out (fun q hq => .inl hq)
                    have hz59 := B9.out.size
                    rcases List.mem_append.1 ht with ht | ht
                    · have h1 := (HT.out t ht).mono (H := fun q => (Value.slice va k vc).ownBlock ≠ some q ∧ q < wr.heap.size) (fun q h1 h2 => ⟨h1, h2⟩)
                      have h2 := (h1.kept (keptNew B9.out) (fun _ _ h => h)).kept hk6 (fun q hq h => hq.1 h)
                      refine h2.mono (fun q hq _ e => ?_)
                      rcases Q6.out q e with h | h
                      · exact hq.1 h
                      · have : w5.heap.size ≤ q := Nat.le_trans (alloc_le w5 _) h
                        omega
                    · rw [List.mem_singleton] at ht
                      subst ht
                      have h2 := R5.out.kept hk6 (fun q hq h => by have := (OL.out q h).2; omega)
                      refine h2.mono (fun q hq _ e => ?_)
                      rcases Q6.out q e with h | h
                      · have := (OL.out q h).2; omega
                      · have : w5.heap.size ≤ q := Nat.le_trans (alloc_le w5 _) h
                        omega
            · go_simp
              refine hK.out _ _ hHeld (fun hHeld => ?_)
              try simp only [Act.put, List.setIfInBounds_toArray, List.set_cons_zero, List.set_cons_succ]
              clear hK K
              refine takeHYtpdobbdbmgeoiaa (i := 12) (d := some 38) (v := .string N2) rfl rfl (by kernel_rfl) (by kernel_rfl) (by kernel_rfl) (fun _ _ _ h => h) (Or.inl ⟨by rfl, by intro w hSw; have hS0 := hSw; go_simp⟩) hHeld ?_
              simp only [Act.put, List.setIfInBounds_toArray, List.set_cons_zero, List.set_cons_succ]
              refine wpAnyH_ready (rs := [5]) (by kernel_rfl) (by simp) ?_
              refine AllReadyH.cons (o := _) rfl (fun K hK => ?_) AllReadyH.nil
              · go_simp
                refine hK.out _ _ hHeld (fun hHeld => ?_)
                try simp only [Act.put, List.setIfInBounds_toArray, List.set_cons_zero, List.set_cons_succ]
                clear hK K
                refine takeHYtpdobbdbmgeoiaa (i := 6) (d := some 32) (v := .string N1) rfl rfl (by kernel_rfl) (by kernel_rfl) (by kernel_rfl) (fun _ _ _ h => h) (Or.inl ⟨by rfl, by intro w hSw; have hS0 := hSw; go_simp⟩) hHeld ?_
                simp only [Act.put, List.setIfInBounds_toArray, List.set_cons_zero, List.set_cons_succ]
                refine wpAnyH_ready (rs := [17]) (by kernel_rfl) (by simp) ?_
                refine AllReadyH.cons (o := _) rfl (fun K hK => ?_) AllReadyH.nil
                go_simp
                refine (WHO.out _).mono ?_
                rintro e w5 ⟨⟨B5, rfl, hr5⟩, hb⟩
                have B9 := Lib.hid ((grow2 wr _ _).trans (hb.mono (grow2 wr _ _).size))
                have R5 := Lib.hid (ReadsAG.mono (H := fun q => wr.heap.size ≤ q ∧ q < w5.heap.size) hr5 (fun q h1 h2 => And.intro (Nat.le_trans (grow2 wr _ _).size h1) h2))
                have O9 := Lib.hid (owns_below HO.out B9.out)
                have NEW := Lib.hid (new_sixD w5 (whoR N1 N2 (z k), some ⟨B5, 0, none⟩, 2))
                have HBS : Z ≤ (w5.alloc (rowB (whoR N1 N2 (z k), some ⟨B5, 0, none⟩, 2))).heap.size := Nat.le_trans hzr (Nat.le_trans B9.out.size (alloc_le w5 _))
                have cc := (CZ.out _ (B9.out.mono hzr)).1
                have cc2 := (CZ.out _ ((B9.out.mono hzr).alloc (Nat.le_trans hzr B9.out.size) (rowB (whoR N1 N2 (z k), some ⟨B5, 0, none⟩, 2)))).1
                unfold rowB at cc2
                clear hb hr5
                refine hK.out _ _ cc (fun hHeld => ?_)
                try simp only [Act.put, List.setIfInBounds_toArray, List.set_cons_zero, List.set_cons_succ]
                clear hK K
                refine wpAnyH_ready (rs := [18]) (by kernel_rfl) (by simp) ?_
                refine AllReadyH.cons (o := _) rfl (fun K hK => ?_) AllReadyH.nil
                go_simp
                refine hK.out _ _ cc2 (fun hHeld => ?_)
                try simp only [Act.put, List.setIfInBounds_toArray, List.set_cons_zero, List.set_cons_succ]
                clear hK K
                refine wpAnyH_ready (rs := [19]) (by kernel_rfl) (by simp) ?_
                refine AllReadyH.cons (o := _) rfl (fun K hK => ?_) AllReadyH.nil
                refine step_append_new (w := w5.alloc (rowB (whoR N1 N2 (z k), some ⟨B5, 0, none⟩, 2))) (base := Z) (size := 6) (e := 42) rfl (.tmp 26) (.tmp 44) 22 rfl und hi hz0 hz1 hz2 rfl (by decide) (.slice va k vc) k 1 1 ⟨w5.heap.size, 0, none⟩ (T.flatMap sixD) (sixD (whoR N1 N2 (z k), some ⟨B5, 0, none⟩, 2)) rfl rfl (World.ownsRow.alloc O9.out _) rfl NEW.out (sixD_one _) H63 HBY HBS ?_
                intro v6 w6 ho hg hq
                obtain ⟨va6, vc6, rfl⟩ := own_rowG ho
                have O6 := Lib.hid ho
                have G6 := Lib.hid hg
                have Q6 := Lib.hid hq
                have B6 := Lib.hid (((B9.out.mono hzr).alloc (Nat.le_trans hzr B9.out.size) _).grown hg HBS (fun q hq => (OL.out q hq).1))
                clear ho hg hq
                refine hK.out _ _ (CZ.out _ B6.out).1 (fun hHeld => ?_)
                try simp only [Act.put, List.setIfInBounds_toArray, List.set_cons_zero, List.set_cons_succ]
                clear hK K
                refine takeHYtpdobbdbmgeoiaa (i := 20) (d := some 3) (v := .slice va6 (k + 1) vc6) rfl rfl (by kernel_rfl) (by kernel_rfl) (by kernel_rfl) (fun _ _ _ h => h) (Or.inl ⟨by rfl, by intro w hSw; have hS0 := hSw; go_simp⟩) hHeld ?_
                simp only [Act.put, List.setIfInBounds_toArray, List.set_cons_zero, List.set_cons_succ]
                refine wpAnyH_done (by kernel_rfl) ?_ _
                go_wp2_with fail
                go_meet
                case rel =>
                  refine ⟨va6, vc6, T ++ [(whoR N1 N2 (z k), some ⟨B5, 0, none⟩, 2)], rfl, Lib.hid ?_, Lib.hid ?_, Lib.hid (fun t ht => ?_), B6⟩
                  · rw [List.map_append, HM.out, LW_succ]
                    show _ ++ [whoR N1 N2 (z k)] = _ ++ [whoR (kI k) (pI k) (z k)]
                    rw [HNN.out.1, HNN.out.2]
                  · rw [List.flatMap_append]; simpa using O6.out
                  · have hk6 : Kept (fun q => (Value.slice va k vc).ownBlock = some q) w5 w6 := ((Kept.refl _ w5).alloc _).grown G6.out (fun q hq => .inl hq)
                    have hz59 := B9.out.size
                    rcases List.mem_append.1 ht with ht | ht
                    · have h1 := (HT.out t ht).mono (H := fun q => (Value.slice va k vc).ownBlock ≠ some q ∧ q < wr.heap.size) (fun q h1 h2 => ⟨h1, h2⟩)
                      have h2 := (h1.kept (keptNew B9.out) (fun _ _ h => h)).kept hk6 (fun q hq h => hq.1 h)
                      refine h2.mono (fun q hq _ e => ?_)
                      rcases Q6.out q e with h | h
                      · exact hq.1 h
                      · have : w5.heap.size ≤ q := Nat.le_trans (alloc_le w5 _) h
                        omega
                    · rw [List.mem_singleton] at ht
                      subst ht
                      have h2 := R5.out.kept hk6 (fun q hq h => by have := (OL.out q h).2; omega)
                      refine h2.mono (fun q hq _ e => ?_)
                      rcases Q6.out q e with h | h
                      · have := (OL.out q h).2; omega
                      · have : w5.heap.size ≤ q := Nat.le_trans (alloc_le w5 _) h
                        omega
        · go_simp
          refine hK.out _ _ S2 (fun hHeld => ?_)
          try simp only [Act.put, List.setIfInBounds_toArray, List.set_cons_zero, List.set_cons_succ]
          clear hK K
          refine wpAnyH_ready (rs := [4, 11]) (by kernel_rfl) (by simp) ?_
          refine AllReadyH.cons (o := _) rfl (fun K hK => ?_) (AllReadyH.cons (o := _) rfl (fun K hK => ?_) AllReadyH.nil)
          · go_simp
            refine hK.out _ _ S21 (fun hHeld => ?_)
            try simp only [Act.put, List.setIfInBounds_toArray, List.set_cons_zero, List.set_cons_succ]
            clear hK K
            refine wpAnyH_ready (rs := [5, 11]) (by kernel_rfl) (by simp) ?_
            refine AllReadyH.cons (o := _) rfl (fun K hK => ?_) (AllReadyH.cons (o := _) rfl (fun K hK => ?_) AllReadyH.nil)
            · go_simp
              refine hK.out _ _ hHeld (fun hHeld => ?_)
              try simp only [Act.put, List.setIfInBounds_toArray, List.set_cons_zero, List.set_cons_succ]
              clear hK K
              refine takeHYtpdobbdbmgeoiaa (i := 6) (d := some 32) (v := .string N1) rfl rfl (by kernel_rfl) (by kernel_rfl) (by kernel_rfl) (fun _ _ _ h => h) (Or.inl ⟨by rfl, by intro w hSw; have hS0 := hSw; go_simp⟩) hHeld ?_
              simp only [Act.put, List.setIfInBounds_toArray, List.set_cons_zero, List.set_cons_succ]
              refine wpAnyH_ready (rs := [11]) (by kernel_rfl) (by simp) ?_
              refine AllReadyH.cons (o := _) rfl (fun K hK => ?_) AllReadyH.nil
              · go_simp
                refine hK.out _ _ hHeld (fun hHeld => ?_)
                try simp only [Act.put, List.setIfInBounds_toArray, List.set_cons_zero, List.set_cons_succ]
                clear hK K
                refine takeHYtpdobbdbmgeoiaa (i := 12) (d := some 38) (v := .string N2) rfl rfl (by kernel_rfl) (by kernel_rfl) (by kernel_rfl) (fun _ _ _ h => h) (Or.inl ⟨by rfl, by intro w hSw; have hS0 := hSw; go_simp⟩) hHeld ?_
                simp only [Act.put, List.setIfInBounds_toArray, List.set_cons_zero, List.set_cons_succ]
                refine wpAnyH_ready (rs := [17]) (by kernel_rfl) (by simp) ?_
                refine AllReadyH.cons (o := _) rfl (fun K hK => ?_) AllReadyH.nil
                go_simp
                refine (WHO.out _).mono ?_
                rintro e w5 ⟨⟨B5, rfl, hr5⟩, hb⟩
                have B9 := Lib.hid ((grow2 wr _ _).trans (hb.mono (grow2 wr _ _).size))
                have R5 := Lib.hid (ReadsAG.mono (H := fun q => wr.heap.size ≤ q ∧ q < w5.heap.size) hr5 (fun q h1 h2 => And.intro (Nat.le_trans (grow2 wr _ _).size h1) h2))
                have O9 := Lib.hid (owns_below HO.out B9.out)
                have NEW := Lib.hid (new_sixD w5 (whoR N1 N2 (z k), some ⟨B5, 0, none⟩, 2))
                have HBS : Z ≤ (w5.alloc (rowB (whoR N1 N2 (z k), some ⟨B5, 0, none⟩, 2))).heap.size := Nat.le_trans hzr (Nat.le_trans B9.out.size (alloc_le w5 _))
                have cc := (CZ.out _ (B9.out.mono hzr)).1
                have cc2 := (CZ.out _ ((B9.out.mono hzr).alloc (Nat.le_trans hzr B9.out.size) (rowB (whoR N1 N2 (z k), some ⟨B5, 0, none⟩, 2)))).1
                unfold rowB at cc2
                clear hb hr5
                refine hK.out _ _ cc (fun hHeld => ?_)
                try simp only [Act.put, List.setIfInBounds_toArray, List.set_cons_zero, List.set_cons_succ]
                clear hK K
                refine wpAnyH_ready (rs := [18]) (by kernel_rfl) (by simp) ?_
                refine AllReadyH.cons (o := _) rfl (fun K hK => ?_) AllReadyH.nil
                go_simp
                refine hK.out _ _ cc2 (fun hHeld => ?_)
                try simp only [Act.put, List.setIfInBounds_toArray, List.set_cons_zero, List.set_cons_succ]
                clear hK K
                refine wpAnyH_ready (rs := [19]) (by kernel_rfl) (by simp) ?_
                refine AllReadyH.cons (o := _) rfl (fun K hK => ?_) AllReadyH.nil
                refine step_append_new (w := w5.alloc (rowB (whoR N1 N2 (z k), some ⟨B5, 0, none⟩, 2))) (base := Z) (size := 6) (e := 42) rfl (.tmp 26) (.tmp 44) 22 rfl und hi hz0 hz1 hz2 rfl (by decide) (.slice va k vc) k 1 1 ⟨w5.heap.size, 0, none⟩ (T.flatMap sixD) (sixD (whoR N1 N2 (z k), some ⟨B5, 0, none⟩, 2)) rfl rfl (World.ownsRow.alloc O9.out _) rfl NEW.out (sixD_one _) H63 HBY HBS ?_
                intro v6 w6 ho hg hq
                obtain ⟨va6, vc6, rfl⟩ := own_rowG ho
                have O6 := Lib.hid ho
                have G6 := Lib.hid hg
                have Q6 := Lib.hid hq
                have B6 := Lib.hid (((B9.out.mono hzr).alloc (Nat.le_trans hzr B9.out.size) _).grown hg HBS (fun q hq => (OL.out q hq).1))
                clear ho hg hq
                refine hK.out _ _ (CZ.out _ B6.out).1 (fun hHeld => ?_)
                try simp only [Act.put, List.setIfInBounds_toArray, List.set_cons_zero, List.set_cons_succ]
                clear hK K
                refine takeHYtpdobbdbmgeoiaa (i := 20) (d := some 3) (v := .slice va6 (k + 1) vc6) rfl rfl (by kernel_rfl) (by kernel_rfl) (by kernel_rfl) (fun _ _ _ h => h) (Or.inl ⟨by rfl, by intro w hSw; have hS0 := hSw; go_simp⟩) hHeld ?_
                simp only [Act.put, List.setIfInBounds_toArray, List.set_cons_zero, List.set_cons_succ]
                refine wpAnyH_done (by kernel_rfl) ?_ _
                go_wp2_with fail
                go_meet
                case rel =>
                  refine ⟨va6, vc6, T ++ [(whoR N1 N2 (z k), some ⟨B5, 0, none⟩, 2)], rfl, Lib.hid ?_, Lib.hid ?_, Lib.hid (fun t ht => ?_), B6⟩
                  · rw [List.map_append, HM.out, LW_succ]
                    show _ ++ [whoR N1 N2 (z k)] = _ ++ [whoR (kI k) (pI k) (z k)]
                    rw [HNN.out.1, HNN.out.2]
                  · rw [List.flatMap_append]; simpa using O6.out
                  · have hk6 : Kept (fun q => (Value.slice va k vc).ownBlock = some q) w5 w6 := ((Kept.refl _ w5).alloc _).grown G6.out (fun q hq => .inl hq)
                    have hz59 := B9.out.size
                    rcases List.mem_append.1 ht with ht | ht
                    · have h1 := (HT.out t ht).mono (H := fun q => (Value.slice va k vc).ownBlock ≠ some q ∧ q < wr.heap.size) (fun q h1 h2 => ⟨h1, h2⟩)
                      have h2 := (h1.kept (keptNew B9.out) (fun _ _ h => h)).kept hk6 (fun q hq h => hq.1 h)
                      refine h2.mono (fun q hq _ e => ?_)
                      rcases Q6.out q e with h | h
                      · exact hq.1 h
                      · have : w5.heap.size ≤ q := Nat.le_trans (alloc_le w5 _) h
                        omega
                    · rw [List.mem_singleton] at ht
                      subst ht
                      have h2 := R5.out.kept hk6 (fun q hq h => by have := (OL.out q h).2; omega)
                      refine h2.mono (fun q hq _ e => ?_)
                      rcases Q6.out q e with h | h
                      · have := (OL.out q h).2; omega
                      · have : w5.heap.size ≤ q := Nat.le_trans (alloc_le w5 _) h
                        omega
            · go_simp
              refine hK.out _ _ hHeld (fun hHeld => ?_)
              try simp only [Act.put, List.setIfInBounds_toArray, List.set_cons_zero, List.set_cons_succ]
              clear hK K
              refine takeHYtpdobbdbmgeoiaa (i := 12) (d := some 38) (v := .string N2) rfl rfl (by kernel_rfl) (by kernel_rfl) (by kernel_rfl) (fun _ _ _ h => h) (Or.inl ⟨by rfl, by intro w hSw; have hS0 := hSw; go_simp⟩) hHeld ?_
              simp only [Act.put, List.setIfInBounds_toArray, List.set_cons_zero, List.set_cons_succ]
              refine wpAnyH_ready (rs := [5]) (by kernel_rfl) (by simp) ?_
              refine AllReadyH.cons (o := _) rfl (fun K hK => ?_) AllReadyH.nil
              · go_simp
                refine hK.out _ _ hHeld (fun hHeld => ?_)
                try simp only [Act.put, List.setIfInBounds_toArray, List.set_cons_zero, List.set_cons_succ]
                clear hK K
                refine takeHYtpdobbdbmgeoiaa (i := 6) (d := some 32) (v := .string N1) rfl rfl (by kernel_rfl) (by kernel_rfl) (by kernel_rfl) (fun _ _ _ h => h) (Or.inl ⟨by rfl, by intro w hSw; have hS0 := hSw; go_simp⟩) hHeld ?_
                simp only [Act.put, List.setIfInBounds_toArray, List.set_cons_zero, List.set_cons_succ]
                refine wpAnyH_ready (rs := [17]) (by kernel_rfl) (by simp) ?_
                refine AllReadyH.cons (o := _) rfl (fun K hK => ?_) AllReadyH.nil
                go_simp
                refine (WHO.out _).mono ?_
                rintro e w5 ⟨⟨B5, rfl, hr5⟩, hb⟩
                have B9 := Lib.hid ((grow2 wr _ _).trans (hb.mono (grow2 wr _ _).size))
                have R5 := Lib.hid (ReadsAG.mono (H := fun q => wr.heap.size ≤ q ∧ q < w5.heap.size) hr5 (fun q h1 h2 => And.intro (Nat.le_trans (grow2 wr _ _).size h1) h2))
                have O9 := Lib.hid (owns_below HO.out B9.out)
                have NEW := Lib.hid (new_sixD w5 (whoR N1 N2 (z k), some ⟨B5, 0, none⟩, 2))
                have HBS : Z ≤ (w5.alloc (rowB (whoR N1 N2 (z k), some ⟨B5, 0, none⟩, 2))).heap.size := Nat.le_trans hzr (Nat.le_trans B9.out.size (alloc_le w5 _))
                have cc := (CZ.out _ (B9.out.mono hzr)).1
                have cc2 := (CZ.out _ ((B9.out.mono hzr).alloc (Nat.le_trans hzr B9.out.size) (rowB (whoR N1 N2 (z k), some ⟨B5, 0, none⟩, 2)))).1
                unfold rowB at cc2
                clear hb hr5
                refine hK.out _ _ cc (fun hHeld => ?_)
                try simp only [Act.put, List.setIfInBounds_toArray, List.set_cons_zero, List.set_cons_succ]
                clear hK K
                refine wpAnyH_ready (rs := [18]) (by kernel_rfl) (by simp) ?_
                refine AllReadyH.cons (o := _) rfl (fun K hK => ?_) AllReadyH.nil
                go_simp
                refine hK.out _ _ cc2 (fun hHeld => ?_)
                try simp only [Act.put, List.setIfInBounds_toArray, List.set_cons_zero, List.set_cons_succ]
                clear hK K
                refine wpAnyH_ready (rs := [19]) (by kernel_rfl) (by simp) ?_
                refine AllReadyH.cons (o := _) rfl (fun K hK => ?_) AllReadyH.nil
                refine step_append_new (w := w5.alloc (rowB (whoR N1 N2 (z k), some ⟨B5, 0, none⟩, 2))) (base := Z) (size := 6) (e := 42) rfl (.tmp 26) (.tmp 44) 22 rfl und hi hz0 hz1 hz2 rfl (by decide) (.slice va k vc) k 1 1 ⟨w5.heap.size, 0, none⟩ (T.flatMap sixD) (sixD (whoR N1 N2 (z k), some ⟨B5, 0, none⟩, 2)) rfl rfl (World.ownsRow.alloc O9.out _) rfl NEW.out (sixD_one _) H63 HBY HBS ?_
                intro v6 w6 ho hg hq
                obtain ⟨va6, vc6, rfl⟩ := own_rowG ho
                have O6 := Lib.hid ho
                have G6 := Lib.hid hg
                have Q6 := Lib.hid hq
                have B6 := Lib.hid (((B9.out.mono hzr).alloc (Nat.le_trans hzr B9.out.size) _).grown hg HBS (fun q hq => (OL.out q hq).1))
                clear ho hg hq
                refine hK.out _ _ (CZ.out _ B6.out).1 (fun hHeld => ?_)
                try simp only [Act.put, List.setIfInBounds_toArray, List.set_cons_zero, List.set_cons_succ]
                clear hK K
                refine takeHYtpdobbdbmgeoiaa (i := 20) (d := some 3) (v := .slice va6 (k + 1) vc6) rfl rfl (by kernel_rfl) (by kernel_rfl) (by kernel_rfl) (fun _ _ _ h => h) (Or.inl ⟨by rfl, by intro w hSw; have hS0 := hSw; go_simp⟩) hHeld ?_
                simp only [Act.put, List.setIfInBounds_toArray, List.set_cons_zero, List.set_cons_succ]
                refine wpAnyH_done (by kernel_rfl) ?_ _
                go_wp2_with fail
                go_meet
                case rel =>
                  refine ⟨va6, vc6, T ++ [(whoR N1 N2 (z k), some ⟨B5, 0, none⟩, 2)], rfl, Lib.hid ?_, Lib.hid ?_, Lib.hid (fun t ht => ?_), B6⟩
                  · rw [List.map_append, HM.out, LW_succ]
                    show _ ++ [whoR N1 N2 (z k)] = _ ++ [whoR (kI k) (pI k) (z k)]
                    rw [HNN.out.1, HNN.out.2]
                  · rw [List.flatMap_append]; simpa using O6.out
                  · have hk6 : Kept (fun q => (Value.slice va k vc).ownBlock = some q) w5 w6 := ((Kept.refl _ w5).alloc _).grown G6.out (fun q hq => .inl hq)
                    have hz59 := B9.out.size
                    rcases List.mem_append.1 ht with ht | ht
                    · have h1 := (HT.out t ht).mono (H := fun q => (Value.slice va k vc).ownBlock ≠ some q ∧ q < wr.heap.size) (fun q h1 h2 => ⟨h1, h2⟩)
                      have h2 := (h1.kept (keptNew B9.out) (fun _ _ h => h)).kept hk6 (fun q hq h => hq.1 h)
                      refine h2.mono (fun q hq _ e => ?_)
                      rcases Q6.out q e with h | h
                      · exact hq.1 h
                      · have : w5.heap.size ≤ q := Nat.le_trans (alloc_le w5 _) h
                        omega
                    · rw [List.mem_singleton] at ht
                      subst ht
                      have h2 := R5.out.kept hk6 (fun q hq h => by have := (OL.out q h).2; omega)
                      refine h2.mono (fun q hq _ e => ?_)
                      rcases Q6.out q e with h | h
                      · have := (OL.out q h).2; omega
                      · have : w5.heap.size ≤ q := Nat.le_trans (alloc_le w5 _) h
                        omega
          · go_simp
            refine hK.out _ _ hHeld (fun hHeld => ?_)
            try simp only [Act.put, List.setIfInBounds_toArray, List.set_cons_zero, List.set_cons_succ]
            clear hK K
            refine takeHYtpdobbdbmgeoiaa (i := 12) (d := some 38) (v := .string N2) rfl rfl (by kernel_rfl) (by kernel_rfl) (by kernel_rfl) (fun _ _ _ h => h) (Or.inl ⟨by rfl, by intro w hSw; have hS0 := hSw; go_simp⟩) hHeld ?_
            simp only [Act.put, List.setIfInBounds_toArray, List.set_cons_zero, List.set_cons_succ]
            refine wpAnyH_ready (rs := [4]) (by kernel_rfl) (by simp) ?_
            refine AllReadyH.cons (o := _) rfl (fun K hK => ?_) AllReadyH.nil
            · go_simp
              refine hK.out _ _ S21 (fun hHeld => ?_)
              try simp only [Act.put, List.setIfInBounds_toArray, List.set_cons_zero, List.set_cons_succ]
              clear hK K
              refine wpAnyH_ready (rs := [5]) (by kernel_rfl) (by simp) ?_
              refine AllReadyH.cons (o := _) rfl (fun K hK => ?_) AllReadyH.nil
              · go_simp
                refine hK.out _ _ hHeld (fun hHeld => ?_)
                try simp only [Act.put, List.setIfInBounds_toArray, List.set_cons_zero, List.set_cons_succ]
                clear hK K
                refine takeHYtpdobbdbmgeoiaa (i := 6) (d := some 32) (v := .string N1) rfl rfl (by kernel_rfl) (by kernel_rfl) (by kernel_rfl) (fun _ _ _ h => h) (Or.inl ⟨by rfl, by intro w hSw; have hS0 := hSw; go_simp⟩) hHeld ?_
                simp only [Act.put, List.setIfInBounds_toArray, List.set_cons_zero, List.set_cons_succ]
                refine wpAnyH_ready (rs := [17]) (by kernel_rfl) (by simp) ?_
                refine AllReadyH.cons (o := _) rfl (fun K hK => ?_) AllReadyH.nil
                go_simp
                refine (WHO.out _).mono ?_
                rintro e w5 ⟨⟨B5, rfl, hr5⟩, hb⟩
                have B9 := Lib.hid ((grow2 wr _ _).trans (hb.mono (grow2 wr _ _).size))
                have R5 := Lib.hid (ReadsAG.mono (H := fun q => wr.heap.size ≤ q ∧ q < w5.heap.size) hr5 (fun q h1 h2 => And.intro (Nat.le_trans (grow2 wr _ _).size h1) h2))
                have O9 := Lib.hid (owns_below HO.out B9.out)
                have NEW := Lib.hid (new_sixD w5 (whoR N1 N2 (z k), some ⟨B5, 0, none⟩, 2))
                have HBS : Z ≤ (w5.alloc (rowB (whoR N1 N2 (z k), some ⟨B5, 0, none⟩, 2))).heap.size := Nat.le_trans hzr (Nat.le_trans B9.out.size (alloc_le w5 _))
                have cc := (CZ.out _ (B9.out.mono hzr)).1
                have cc2 := (CZ.out _ ((B9.out.mono hzr).alloc (Nat.le_trans hzr B9.out.size) (rowB (whoR N1 N2 (z k), some ⟨B5, 0, none⟩, 2)))).1
                unfold rowB at cc2
                clear hb hr5
                refine hK.out _ _ cc (fun hHeld => ?_)
                try simp only [Act.put, List.setIfInBounds_toArray, List.set_cons_zero, List.set_cons_succ]
                clear hK K
                refine wpAnyH_ready (rs := [18]) (by kernel_rfl) (by simp) ?_
                refine AllReadyH.cons (o := _) rfl (fun K hK => ?_) AllReadyH.nil
                go_simp
                refine hK.out _ _ cc2 (fun hHeld => ?_)
                try simp only [Act.put, List.setIfInBounds_toArray, List.set_cons_zero, List.set_cons_succ]
                clear hK K
                refine wpAnyH_ready (rs := [19]) (by kernel_rfl) (by simp) ?_
                refine AllReadyH.cons (o := _) rfl (fun K hK => ?_) AllReadyH.nil
                refine step_append_new (w := w5.alloc (rowB (whoR N1 N2 (z k), some ⟨B5, 0, none⟩, 2))) (base := Z) (size := 6) (e := 42) rfl (.tmp 26) (.tmp 44) 22 rfl und hi hz0 hz1 hz2 rfl (by decide) (.slice va k vc) k 1 1 ⟨w5.heap.size, 0, none⟩ (T.flatMap sixD) (sixD (whoR N1 N2 (z k), some ⟨B5, 0, none⟩, 2)) rfl rfl (World.ownsRow.alloc O9.out _) rfl NEW.out (sixD_one _) H63 HBY HBS ?_
                intro v6 w6 ho hg hq
                obtain ⟨va6, vc6, rfl⟩ := own_rowG ho
                have O6 := Lib.hid ho
                have G6 := Lib.hid hg
                have Q6 := Lib.hid hq
                have B6 := Lib.hid (((B9.out.mono hzr).alloc (Nat.le_trans hzr B9.out.size) _).grown hg HBS (fun q hq => (OL.out q hq).1))
                clear ho hg hq
                refine hK.out _ _ (CZ.out _ B6.out).1 (fun hHeld => ?_)
                try simp only [Act.put, List.setIfInBounds_toArray, List.set_cons_zero, List.set_cons_succ]
                clear hK K
                refine takeHYtpdobbdbmgeoiaa (i := 20) (d := some 3) (v := .slice va6 (k + 1) vc6) rfl rfl (by kernel_rfl) (by kernel_rfl) (by kernel_rfl) (fun _ _ _ h => h) (Or.inl ⟨by rfl, by intro w hSw; have hS0 := hSw; go_simp⟩) hHeld ?_
                simp only [Act.put, List.setIfInBounds_toArray, List.set_cons_zero, List.set_cons_succ]
                refine wpAnyH_done (by kernel_rfl) ?_ _
                go_wp2_with fail
                go_meet
                case rel =>
                  refine ⟨va6, vc6, T ++ [(whoR N1 N2 (z k), some ⟨B5, 0, none⟩, 2)], rfl, Lib.hid ?_, Lib.hid ?_, Lib.hid (fun t ht => ?_), B6⟩
                  · rw [List.map_append, HM.out, LW_succ]
                    show _ ++ [whoR N1 N2 (z k)] = _ ++ [whoR (kI k) (pI k) (z k)]
                    rw [HNN.out.1, HNN.out.2]
                  · rw [List.flatMap_append]; simpa using O6.out
                  · have hk6 : Kept (fun q => (Value.slice va k vc).ownBlock = some q) w5 w6 := ((Kept.refl _ w5).alloc _).grown G6.out (fun q hq => .inl hq)
                    have hz59 := B9.out.size
                    rcases List.mem_append.1 ht with ht | ht
                    · have h1 := (HT.out t ht).mono (H := fun q => (Value.slice va k vc).ownBlock ≠ some q ∧ q < wr.heap.size) (fun q h1 h2 => ⟨h1, h2⟩)
                      have h2 := (h1.kept (keptNew B9.out) (fun _ _ h => h)).kept hk6 (fun q hq h => hq.1 h)
                      refine h2.mono (fun q hq _ e => ?_)
                      rcases Q6.out q e with h | h
                      · exact hq.1 h
                      · have : w5.heap.size ≤ q := Nat.le_trans (alloc_le w5 _) h
                        omega
                    · rw [List.mem_singleton] at ht
                      subst ht
                      have h2 := R5.out.kept hk6 (fun q hq h => by have := (OL.out q h).2; omega)
                      refine h2.mono (fun q hq _ e => ?_)
                      rcases Q6.out q e with h | h
                      · have := (OL.out q h).2; omega
                      · have : w5.heap.size ≤ q := Nat.le_trans (alloc_le w5 _) h
                        omega
      case rest =>
      obtain ⟨va6, vc6, T6, rfl, M6, O6, A6, B6⟩ := hcut
      obtain ⟨c3, c4⟩ := CZ.out wc B6.out
      have D6 := Lib.hid (p := ∀ m, (wc.drewN m).ownsRow Z 42 6 (.slice va6 (k + 1) vc6) (k + 1) (T6.flatMap sixD) ∧ (∀ t ∈ T6, ReadsAG (fun q => (Value.slice va6 (k + 1) vc6).ownBlock ≠ some q) (wc.drewN m) t.2.1 t.1.len t.1.A) ∧ Below Z w1 (wc.drewN m)) (fun m => ⟨owns_below O6.out (drewND' wc m), fun t ht => (A6.out t ht).kept (keptNew (drewND' wc m)) (fun _ _ h => h), (BW.out.trans B6.out).trans ((drewND' wc m).mono (by have := B6.out.size; omega))⟩)
      clear CZ OL WHO V1 V2 V3 V4 V5 V6 O6 A6 B6 HO HT HM BW BR x1 x2 hN1 hN2 q1 q2 q3 q4 z1 z2 H63 HBY c1 c2 HNN
      by_cases hle : z k ≤ z bst
      · have BY := Lib.hid (best_yes HB.out hle)
        go_wp2_with (go_quiet (fail))
        go_roundw
        case rel => exact ⟨k + 1, T6, k, va6, vc6, rfl, rfl, by go_num, by omega, by omega, BY, M6, Lib.hid (D6.out _).1, Lib.hid (D6.out _).2.1, Lib.hid (D6.out _).2.2⟩
        case measure => simp [intOf]; omega
      · have BY := Lib.hid (best_no HB.out hle)
        go_wp2_with (go_quiet (fail))
        go_roundw
        case rel => exact ⟨k + 1, T6, bst, va6, vc6, rfl, rfl, by go_num, by omega, by omega, BY, M6, Lib.hid (D6.out _).1, Lib.hid (D6.out _).2.1, Lib.hid (D6.out _).2.2⟩
        case measure => simp [intOf]; omega
    · obtain rfl : k = n := by omega
      have a1 : ¬ ((k : Nat) : Int) < (k : Int) := by omega
      have hTl : T.length = k := by have := congrArg List.length HM.out; rwa [List.length_map, LW_len] at this
      have B2 := Lib.hid (B1.out.trans (BW.out.mono hwZ.out))
      have RD := Lib.hid (p := ∀ V, Below wr.heap.size wr V → ReadsR V va (LW z k).length (atD (LW z k))) (fun V hb => by
        have hO : OwnRG (fun q => True) wr Z (.slice va k vc) T := ⟨by rw [hTl]; exact HO.out, fun t ht => (HT.out t ht).mono (fun _ _ _ => trivial)⟩
        have h1 := (hO.reads (H := fun q => True) (atD (LW z k)) (fun j x hx => by
          have h1 : (T.map (·.1))[j]? = some x.1 := by rw [List.getElem?_map, hx]; rfl
          rw [HM.out] at h1
          obtain ⟨h2, h3⟩ := List.getElem?_eq_some_iff.1 h1
          rw [atD_lt h2, h3]) (fun _ _ => trivial) (fun _ _ => trivial)).2.2
        rw [hTl] at h1
        rw [LW_len]
        exact ReadsR.below (h1.mono (fun q _ h => h)) hb)
      have hLL := LW_len z k
      have hbk1 : bst < k := HB.out.2.1 (by omega)
      have MIN := Lib.hid (best_min HB.out (by omega) (by omega))
      have ST := Lib.hid (LW_stand (z := z) (n := k) (by omega))
      have RP := Lib.hid (rep_any (LW z k) va vc (by omega) (LW_ok z k) wr (RD.out wr (Below.refl _ _)))
      have OR := Lib.hid (p := ∀ V, Below wr.heap.size wr V → Calls Try.prog 8 #[.slice va k vc] V (OrderP V (LW z k))) (fun V hb => by have := order_any (LW z k) va vc (by omega) (LW_ok z k) V (RD.out V hb); rwa [LW_len] at this)
      rw [hLL] at RP
      clear HO HT HM BW hTl hLL HB
      go_wp2_with fail
      refine RP.out.mono ?_
      rintro e w5 ⟨h5, hb5⟩
      have U5 := Lib.hid hb5
      clear hb5 RP
      rcases h5 with ⟨q, rfl, hq⟩ | ⟨-, hq⟩
      case inr =>
        exfalso
        have h1 := CW_len z k
        rw [ST.out] at hq
        rw [hq] at h1
        simp at h1
        omega
      rw [ST.out] at hq
      obtain rfl := hq.one MIN.out
      clear hq MIN
      go_upto_region 14 with fail
      generalize hV : World.alloc w5 _ = V
      have hbV : Below w5.heap.size w5 V := by rw [← hV]; exact (Below.refl _ _).alloc (Nat.le_refl _) _
      have hV3 : V.heap[w5.heap.size]? = some (.cells #[.string (chW z bst).key, .string (chW z bst).rep, .int .i64 (chW z bst).load] 32 (0, 0)) := by rw [← hV]; exact heap_alloc_new w5 _
      have U6 := Lib.hid (U5.out.trans (hbV.mono U5.out.size))
      have X6 := Lib.hid hV3
      clear hV hbV hV3 U5
      go_wp2_with fail
      refine (OR.out V U6.out).mono ?_
      rintro e w7 ⟨⟨g, d, L', rfl, hp, ha, hc, -, -⟩, hb⟩
      rw [ST.out] at hp
      have hLk : L'.length = k := by rw [hp.length_eq, CW_len]
      have NX := Lib.hid (p := ∀ i j x y, i < j → L'[i]? = some x → L'[j]? = some y → x.load < y.load ∨ (x.load = y.load ∧ lsS x.rep y.rep = true)) (fun i j x y hij hx hy => asc_next (by omega) hp ha hij hx hy)
      have U7 := Lib.hid (U6.out.trans (hb.mono U6.out.size))
      have X7 := Lib.hid ((hb.block _ (lt_of_block X6.out)).trans X6.out)
      have C7 := Lib.hid hc
      clear hp ha hc hb OR X6 U6 ST
      rw [hLk]
      have HLK := Lib.hid hLk
      have B7 := Lib.hid (B2.out.trans (U7.out.mono B2.out.size))
      obtain ⟨y0, y1, y2⟩ := threeE X7.out
      have hr7 := RD.out w7 U7.out
      rw [LW_len] at hr7
      obtain ⟨bl, ol, yy, cy, rfl, -, ⟨r0, -, -, -, -, -⟩, -⟩ := hr7.cellsD hbk1
      have hkb : (atD (LW z k) bst).key = kI bst := by
        rw [atD_lt (by rw [LW_len]; exact hbk1)]
        simp [LW, rowW, whoR]
      rw [hkb] at r0
      obtain ⟨b, off, rfl, hcc⟩ := (HL.out w7 B7.out).2.resolve_left (by omega)
      have c1 := hcc bst hbk1
      have y0' : w7.cell? ⟨w5.heap.size, 0, none⟩ = some (.string (kI bst)) := y0
      have y2' : w7.cell? ⟨w5.heap.size, 2, none⟩ = some (.int .i64 (z bst)) := y2
      clear y0 y1 y2
      obtain ⟨KB, hKB⟩ : ∃ K, kI bst = K := ⟨_, rfl⟩
      obtain ⟨NB, hNB⟩ : ∃ N, z bst = N := ⟨_, rfl⟩
      rw [hKB] at y0' r0
      rw [hNB] at y2' c1
      have e1 : (KB.toList != KB.toList) = false := by simp
      have e2 : (NB != NB) = false := by simp
      clear hKB hNB
      have e3 : (bst : Int) < (k : Int) := by omega
      have D7 := Lib.hid (p := ∀ m, Below w7.heap.size w7 (w7.drewN m)) (fun m => drewND' w7 m)
      clear hr7 hkb hcc RD HL X7 hLk
      go_wp2_with (go_quiet (fail))
      go_loopw [9] (fun i wr => ∃ j : Nat, i = .int .i64 j ∧ 1 ≤ j ∧ j ≤ k ∧ Hid (Below w7.heap.size w7 wr)) (fun i _ => k - (intOf i).toNat)
      case atStart => exact ⟨1, rfl, Nat.le_refl _, by omega, Lib.hid (D7.out _)⟩
      case round =>
        obtain ⟨j, rfl, hj1, hj, BQ⟩ := hrel
        by_cases hjk : j < k
        · have f1 : (j : Int) < (k : Int) := by omega
          obtain ⟨x, hx⟩ : ∃ x, L'[j - 1]? = some x := ⟨_, List.getElem?_eq_getElem (by have := HLK.out; omega)⟩
          obtain ⟨y, hy⟩ : ∃ y, L'[j]? = some y := ⟨_, List.getElem?_eq_getElem (by have := HLK.out; omega)⟩
          have hn := NX.out (j - 1) j x y (by omega) hx hy
          obtain ⟨x0, x1, x2⟩ := (C7.out.kept (w' := wr) (fun o v h => (keptNew BQ.out).cell h (fun h => h))) (j - 1) x hx
          obtain ⟨z0, z1, z2⟩ := (C7.out.kept (w' := wr) (fun o v h => (keptNew BQ.out).cell h (fun h => h))) j y hy
          have f2 : IntKind.i64.wrap ((j : Int) - 1) = (j : Int) - 1 := IntWalk.i64_in _ (by omega)
          have f3 : (0 : Int) ≤ (j : Int) - 1 := by omega
          have f4 : ((j : Int) - 1).toNat = j - 1 := by omega
          have f5 : (j : Int) - 1 < (k : Int) := by omega
          have f6 : (1 : Int) ≤ (j : Int) := by omega
          have DQ := Lib.hid (p := ∀ m, Below w7.heap.size w7 (wr.drewN m)) (fun m => BQ.out.trans ((drewND' wr m).mono BQ.out.size))
          clear hx hy
          rcases hn with h | ⟨h, hl⟩
          · have g1 : ¬ y.load < x.load := by omega
            have g2 : (x.load == y.load) = false := by rw [beq_eq_false_iff_ne]; omega
            have g3 : decide (y.load < x.load) = false := decide_eq_false g1
            go_wp2_with (go_quiet (fail))
            go_roundw
            case rel => exact ⟨j + 1, by go_num, by omega, by omega, Lib.hid (DQ.out _)⟩
            case measure => simp [intOf]; omega
          · have g1 : ¬ y.load < x.load := by omega
            have g3 : decide (y.load < x.load) = false := decide_eq_false g1
            obtain ⟨l1, l2⟩ := leqS_no hl
            have l3 : Op.bytesLess x.rep.toList y.rep.toList = true := hl
            go_wp2_with (go_quiet (fail))
            go_roundw
            case rel => exact ⟨j + 1, by go_num, by omega, by omega, Lib.hid (DQ.out _)⟩
            case measure => simp [intOf]; omega
        · obtain rfl : j = k := by omega
          have f1 : ¬ ((j : Nat) : Int) < (j : Int) := by omega
          have P := Lib.hid (B7.out.trans (BQ.out.mono B7.out.size))
          go_wp2_with fail
          go_ret
          exact ⟨rfl, P.out⟩

end Go.Proofs.Ytpdobbdbmgeoiaa
