/-
  No statement: CalcNames' walk.
-/
import Derived.Test.YtcmcnmmhkpolcaaCalcAnyWalk
import Derived.Test.YtcmcnmmhkpolcaaHNames
import Derived.Test.YtcmcnmmhkpolcaaTextsQ
import Derived.Test.YtcmcnmmhkpolcaaHE4
import Derived.Test.YtcmcnmmhkpolcaaHW5
namespace Go.Proofs.Ytcmcnmmhkpolcaa
open Go.RowKit

theorem rowInfo : (Try.prog.info? 51).map (fun i => (i.zero, i.size, i.bytes)) = some (some (.agg #[.string ⟨#[]⟩, .int .i64 0, .int .i64 0, .string ⟨#[]⟩, .slice none 0 0]), 5, 72) := by kernel_rfl

theorem rowNew (w : World) (x : ByteArray) (v : Int) : ∀ j u, (Wr.fiveL ⟨x, 1, v, ⟨#[]⟩, 0, fun _ => 0⟩ none 0)[j]? = some u → (w.alloc (.cells #[.string x, .int .i64 1, .int .i64 v, .string ⟨#[]⟩, .slice none 0 0] 51)).cell? ((⟨w.heap.size, 0, none⟩ : Addr).add j) = some u := fun j u hj => by
  have e : Wr.fiveL ⟨x, 1, v, ⟨#[]⟩, 0, fun _ => 0⟩ none 0 = (#[.string x, .int .i64 1, .int .i64 v, .string ⟨#[]⟩, .slice none 0 0] : Array Value).toList := rfl
  rw [e] at hj
  rw [Addr.add_lit, Nat.zero_add, cell_of_row _ _ _ _ _ (0, 0) (heap_alloc_new w _)]
  simpa using hj

theorem cells_ext {A B : Nat → Wr.AD} {Y : Nat → Option Addr} {C : Nat → Nat} : ∀ n, (∀ j, j < n → A j = B j) → Wr.cellsA A Y C n = Wr.cellsA B Y C n
  | 0, _ => rfl
  | n + 1, h => by rw [Wr.cellsA, Wr.cellsA, cells_ext n (fun j hj => h j (Nat.lt_succ_of_lt hj)), h n (Nat.lt_succ_self n)]

theorem cells_put (A : Nat → Wr.AD) (n : Nat) (x : Wr.AD) : Wr.cellsA (putA A n x) (fun _ => none) (fun _ => 0) (n + 1) = Wr.cellsA A (fun _ => none) (fun _ => 0) n ++ Wr.fiveL x none 0 := by
  rw [Wr.cellsA, putA_at, cells_ext n (fun j hj => putA_lt hj)]

set_option maxHeartbeats 8000000 in
set_option maxRecDepth 100000 in
theorem calcNames_walk (t : TN) (a : Option Addr) (c : Nat) (z : Nat → Int) (n0 : Nat) (y : Option Addr) (cy : Nat) (th : Nat) (hB : BitF t.f) (hZ : ∀ j, In64 (z j)) (hth : th < 65536) (w : World) (hr : ReadsN (fun b => b < w.heap.size) w a t.ks) (hl : Wr.Reads w y n0 z) :
    Calls Try.prog 5 #[nodeV t.op t.nm t.n a t.ks.len c, .slice y n0 cy, .int .u16 th] w fun e w' => e = .returned (.bool true) ∧ Below w.heap.size w w' := by
  have K0 := kn10_new (c := c) hr
  have L0 := hl.kept ((Below.refl w.heap.size w).alloc (Nat.le_refl _) (ndG t.op t.nm t.n a t.ks.len c))
  generalize hW : w.alloc (ndG t.op t.nm t.n a t.ks.len c) = W at K0 L0
  have HW := Lib.hid hW
  have KN := Lib.hid (known10_any W)
  have HK := Lib.hid K0
  have HL := Lib.hid L0
  have HB := Lib.hid hB
  have HZ := Lib.hid hZ
  have HT := Lib.hid hth
  clear hW K0 L0 hr hl hB hZ hth
  go_enter Try.func5, Try.ntmps5
  go_upto_region 1 with fail
  rw [HW.out]
  go_wp2_with fail
  refine KN.out.mono ?_
  rintro e w1 ⟨rfl, hb⟩
  have K1 := Lib.hid (HK.out.step hb)
  have L1 := Lib.hid (HL.out.kept hb)
  clear hb HK HL HW KN
  obtain ⟨⟨m0, m1, m2, m3⟩, -⟩ := four K1.out.n
  have FW := Lib.hid (few_any c HB.out.lens K1.out.r)
  by_cases h60 : 0 ≤ leftT t 60
  · have hfew : decide (0 ≤ leftT t 60) = true := decide_eq_true h60
    rw [hfew] at FW
    clear hfew
    have hg := few_good h60 (HB.out.lens).1
    have HG := Lib.hid hg
    clear hg h60
    go_wp2_with fail
    refine FW.out.mono ?_
    rintro e w2 ⟨rfl, hb⟩
    have K2 := Lib.hid (K1.out.step hb)
    have L2 := Lib.hid (L1.out.kept hb)
    clear hb K1 L1 FW m0 m1 m2 m3
    obtain ⟨⟨m0, m1, m2, m3⟩, -⟩ := four K2.out.n
    have OF := Lib.hid (lof_any t _ w2 a c (by have := HG.out.1; omega) K2.out.r)
    go_wp2_with fail
    refine OF.out.mono ?_
    rintro e w3 ⟨a3, c3, rfl, hr3, hb'⟩
    have hb : Below w2.heap.size w2 w3 := hb'
    have K3 := Lib.hid (K2.out.step hb)
    have L3 := Lib.hid (L2.out.kept hb)
    have CK := Lib.hid (rCheck_any (t := t) c3 HG.out.2 hr3)
    clear hb hb' hr3 K2 L2 OF m0 m1 m2 m3
    obtain ⟨er, her⟩ : ∃ r, checkT t = r := ⟨_, rfl⟩
    rw [her] at CK
    have HER := Lib.hid her
    clear her
    go_wp2_with fail
    refine CK.out.mono ?_
    rintro e w4 ⟨rfl, hb⟩
    have K4 := Lib.hid (K3.out.step hb)
    have L4 := Lib.hid (L3.out.kept hb)
    clear hb K3 L3 CK
    by_cases h0 : er = 0
    · subst h0
      obtain ⟨⟨m0, m1, m2, m3⟩, -⟩ := four K4.out.n
      have DV := Lib.hid (div_any t _ w4 a c HB.out.lens K4.out.r)
      cases hdv : divT t with
      | true =>
        rw [hdv] at DV
        clear hdv
        go_wp2_with fail
        refine DV.out.mono ?_
        rintro e w5 ⟨rfl, hb⟩
        have K5 := Lib.hid (K4.out.step hb)
        clear hb
        go_wp2_with fail
        go_ret
        exact ⟨rfl, K5.out.b⟩
      | false =>
        rw [hdv] at DV
        have HD := Lib.hid hdv
        clear hdv
        go_wp2_with fail
        refine DV.out.mono ?_
        rintro e w5 ⟨rfl, hb⟩
        have K5 := Lib.hid (K4.out.step hb)
        have L5 := Lib.hid (L4.out.kept hb)
        clear hb K4 L4 DV m0 m1 m2 m3
        obtain ⟨⟨m0, m1, m2, m3⟩, -⟩ := four K5.out.n
        have HOK := Lib.hid ((check_iff t).1 HER.out)
        have NA := Lib.hid (pNames_any t _ w5 a c HOK.out.1 HB.out.nums HOK.out.2 K5.out.r)
        have LE := Lib.hid (namesT_len t)
        have RI := Lib.hid (namesT_rising t)
        have FIN := Lib.hid (fun (bit : Nat → Bool) n A h => names_all (t := t) HOK.out.1 HB.out.nums HD.out (bit := bit) (n := n) (A := A) h)
        obtain ⟨l, hl⟩ : ∃ l, namesT t = l := ⟨_, rfl⟩
        rw [hl] at NA LE RI FIN
        have hl40 : l.length ≤ 32 := by have := LE.out; have := HOK.out.2; omega
        clear hl LE
        go_wp2_with fail
        refine NA.out.mono ?_
        rintro e w6 ⟨v6, rfl, ho, hb'⟩
        obtain ⟨a6, c6, rfl⟩ := own_rowG ho
        have hb : Below w5.heap.size w5 w6 := hb'
        have K6 := Lib.hid (K5.out.step hb)
        have L6 := Lib.hid (L5.out.kept hb)
        have R6 := Lib.hid (rowS_own (w := w6) rfl ho)
        clear hb hb' ho K5 L5 NA m0 m1 m2 m3
        go_wp2_with fail
        obtain ⟨i0, hi, hz0, hz1, hz2⟩ := info_parts rowInfo
        have und : Try.prog.underlying 25 = some (.slice 51) := Try.underlying25
        go_loopw [8, 9, 10, 11] (fun lv ov iv vv wr => ∃ (k n : Nat) (va : Option Addr) (vc : Nat) (A : Nat → Wr.AD) (v0 : Value), lv = .slice va n vc ∧ ov = .bool (allB (bitU th) k) ∧ iv = .int .i64 k ∧ vv = v0 ∧ k ≤ l.length ∧ n ≤ k ∧ Hid (NmI l (bitU th) k n A) ∧ Hid (wr.ownsRow w6.heap.size 51 5 (.slice va n vc) n (Wr.cellsA A (fun _ => none) (fun _ => 0) n)) ∧ Hid (Below w6.heap.size w6 wr)) (fun _ _ i _ _ => l.length - (intOf i).toNat)
        case atStart => exact ⟨0, 0, none, 0, fun _ => a10, _, rfl, rfl, rfl, rfl, Nat.zero_le _, Nat.le_refl _, Lib.hid (nmI_zero _ _ _), Lib.hid (World.ownsRow_nil _ _ _ _), Lib.hid (Below.refl _ _)⟩
        case round =>
          obtain ⟨k, n, va, vc, A, v0, rfl, rfl, rfl, rfl, hk, hnk, HN, HO, HBw⟩ := hrel
          have hz := HBw.out.size
          by_cases hlt : k < l.length
          · have a1 : (k : Int) < (l.length : Int) := by omega
            have a2 : (0 : Int) ≤ (k : Int) := by omega
            have a3 : ((k : Int)).toNat = k := by omega
            cases hbk : bitU th k with
            | false =>
              have gb : (bits BinOp.and IntKind.u16 ((th : Int) / 2 ^ (k % 16)) 1 == 0) = true := by unfold bitU at hbk; simpa using hbk
              have HA := Lib.hid (show false = allB (bitU th) (k + 1) by rw [allB_succ, hbk, Bool.and_false])
              have HN2 := Lib.hid (nmI_skip HN.out hbk)
              clear hbk
              go_wp2_with fail
              go_roundw
              case rel => exact ⟨k + 1, n, va, vc, A, _, rfl, by rw [HA.out], by go_num, rfl, by omega, by omega, HN2, HO, HBw⟩
              case measure => simp [intOf]; omega
            | true =>
              have gb : (bits BinOp.and IntKind.u16 ((th : Int) / 2 ^ (k % 16)) 1 == 0) = false := by unfold bitU at hbk; simpa using hbk
              have HA := Lib.hid (show allB (bitU th) k = allB (bitU th) (k + 1) by rw [allB_succ, hbk, Bool.and_true])
              obtain ⟨x, hx⟩ : ∃ x, l[k]? = some x := ⟨_, List.getElem?_eq_getElem hlt⟩
              have hne : ¬ l = [] := fun e => by rw [e] at hlt; simp at hlt
              obtain ⟨g, rfl, -, hc⟩ := (R6.out.kept HBw.out).resolve_left hne
              have p0 := hc k x hx
              have HN2 := Lib.hid (p := ∀ v, In64 v → NmI l (bitU th) (k + 1) (n + 1) (putA A n ⟨x, 1, v, ⟨#[]⟩, 0, fun _ => 0⟩)) (fun v hv => nmI_put HN.out RI.out hbk hx hv _)
              have BA := Lib.hid (show ∀ o : Obj, w6.heap.size ≤ (wr.alloc o).heap.size from fun o => by rw [World.size_alloc]; omega)
              have OLt := Lib.hid (fun q hq => HO.out.lt q hq)
              clear hbk hne hc hx
              by_cases hkn : k < n0
              · have a4 : (k : Int) < (n0 : Int) := by omega
                obtain ⟨by0, offy, rfl, hzc⟩ := (L6.out.kept HBw.out).2.resolve_left (by omega)
                have p1 := hzc k hkn
                have HV := Lib.hid (HZ.out k)
                obtain ⟨v, hv⟩ : ∃ v, z k = v := ⟨_, rfl⟩
                rw [hv] at p1 HV
                have OA := Lib.hid (HO.out.alloc (.cells #[.string x, .int .i64 1, .int .i64 v, .string ⟨#[]⟩, .slice none 0 0] 51))
                have NA := Lib.hid (rowNew wr x v)
                clear hzc hv
                go_wp2_with (first | fail | (at_builtin; refine wpList_append_new rfl _ _ 25 rfl (base := w6.heap.size) und hi hz0 hz1 hz2 rfl (by decide) (.slice va n vc) n 1 1 ⟨wr.heap.size, 0, none⟩ (Wr.cellsA A (fun _ => none) (fun _ => 0) n) (Wr.fiveL ⟨x, 1, v, ⟨#[]⟩, 0, fun _ => 0⟩ none 0) rfl rfl OA.out rfl NA.out (Wr.fiveL_one _ _ _) (by unfold maxLen; omega) (by omega) (BA.out _) ?_))
                intro v9 w9 ho hg _
                obtain ⟨va9, c9, rfl⟩ := own_rowG ho
                have B9 := Lib.hid (show Below w6.heap.size w6 w9 from (HBw.out.alloc HBw.out.size _).grown hg (BA.out _) (fun q hq => (OLt.out q hq).1))
                have O9 := Lib.hid (show w9.ownsRow w6.heap.size 51 5 (.slice va9 (n + 1) c9) (n + 1) (Wr.cellsA (putA A n ⟨x, 1, v, ⟨#[]⟩, 0, fun _ => 0⟩) (fun _ => none) (fun _ => 0) (n + 1)) by rw [cells_put]; exact ho)
                have N9 := Lib.hid (HN2.out v HV.out)
                clear ho hg OA NA BA OLt HN2
                go_wp2_with fail
                go_roundw
                case rel => exact ⟨k + 1, n + 1, va9, c9, _, _, rfl, by rw [HA.out], by go_num, rfl, by omega, by omega, N9, O9, B9⟩
                case measure => simp [intOf]; omega
              · have a4 : ¬ (k : Int) < (n0 : Int) := by omega
                have OA := Lib.hid (HO.out.alloc (.cells #[.string x, .int .i64 1, .int .i64 0, .string ⟨#[]⟩, .slice none 0 0] 51))
                have NA := Lib.hid (rowNew wr x 0)
                go_wp2_with (first | fail | (at_builtin; refine wpList_append_new rfl _ _ 25 rfl (base := w6.heap.size) und hi hz0 hz1 hz2 rfl (by decide) (.slice va n vc) n 1 1 ⟨wr.heap.size, 0, none⟩ (Wr.cellsA A (fun _ => none) (fun _ => 0) n) (Wr.fiveL ⟨x, 1, 0, ⟨#[]⟩, 0, fun _ => 0⟩ none 0) rfl rfl OA.out rfl NA.out (Wr.fiveL_one _ _ _) (by unfold maxLen; omega) (by omega) (BA.out _) ?_))
                intro v9 w9 ho hg _
                obtain ⟨va9, c9, rfl⟩ := own_rowG ho
                have B9 := Lib.hid (show Below w6.heap.size w6 w9 from (HBw.out.alloc HBw.out.size _).grown hg (BA.out _) (fun q hq => (OLt.out q hq).1))
                have O9 := Lib.hid (show w9.ownsRow w6.heap.size 51 5 (.slice va9 (n + 1) c9) (n + 1) (Wr.cellsA (putA A n ⟨x, 1, 0, ⟨#[]⟩, 0, fun _ => 0⟩) (fun _ => none) (fun _ => 0) (n + 1)) by rw [cells_put]; exact ho)
                have N9 := Lib.hid (HN2.out 0 (by unfold In64; omega))
                clear ho hg OA NA BA OLt HN2
                go_wp2_with fail
                go_roundw
                case rel => exact ⟨k + 1, n + 1, va9, c9, _, _, rfl, by rw [HA.out], by go_num, rfl, by omega, by omega, N9, O9, B9⟩
                case measure => simp [intOf]; omega
          · obtain rfl : k = l.length := by omega
            have a1 : ¬ (l.length : Int) < (l.length : Int) := by omega
            have K9 := Lib.hid (KN10.mk (K6.out.b.trans (HBw.out.mono K6.out.z)) (Nat.le_trans K6.out.z hz) ((HBw.out.block _ (lt_block K6.out.n)).trans K6.out.n) (K6.out.r.kept HBw.out))
            have U := under_of HN.out (by omega)
            have RA : Wr.ReadsA wr va n A := by
              obtain ⟨a', c', e, h⟩ := Wr.readsA_own HO.out (fun j hj => by rw [(HN.out.one j hj).2.1]; exact ⟨Nat.zero_le _, .inl rfl⟩)
              cases e
              exact h
            have EV := Lib.hid (pEval_any U t HER.out HB.out.nums HG.out.2 _ wr a c va vc K9.out.r RA)
            rw [FIN.out _ _ _ HN.out] at EV
            obtain ⟨bb, hbb⟩ : ∃ b, allB (bitU th) l.length = b := ⟨_, rfl⟩
            obtain ⟨q, hq⟩ : ∃ q, (evT (getG A n) t).getD 0 = q := ⟨_, rfl⟩
            rw [hbb, hq] at EV
            rw [hbb]
            have e1 : (bb == bb) = true := by simp
            obtain ⟨⟨m0, m1, m2, m3⟩, -⟩ := four K9.out.n
            clear U RA hbb hq FIN
            go_wp2_with fail
            refine EV.out.mono ?_
            rintro e w10 ⟨rfl, hb⟩
            have K10 := Lib.hid (K9.out.step hb)
            clear hb
            go_wp2_with fail
            go_ret
            exact ⟨rfl, K10.out.b⟩
    · have e1 : (er == 0) = false := by simpa using h0
      have e2 : (er != 0) = true := by simpa using h0
      go_wp2_with fail
      go_ret
      exact ⟨rfl, K4.out.b⟩
  · have hfew : decide (0 ≤ leftT t 60) = false := decide_eq_false h60
    rw [hfew] at FW
    clear hfew h60
    go_wp2_with fail
    refine FW.out.mono ?_
    rintro e w2 ⟨rfl, hb⟩
    have K2 := Lib.hid (K1.out.step hb)
    clear hb
    go_wp2_with fail
    go_ret
    exact ⟨rfl, K2.out.b⟩

end Go.Proofs.Ytcmcnmmhkpolcaa
