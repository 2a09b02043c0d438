/-
  No statement: ExprNames' walk.
-/
import Derived.Test.YtcmcnmmhkpolcaaGreatDoorHZ10
import Derived.Test.YtcmcnmmhkpolcaaGreatDoorHZ9
import Derived.Test.YtcmcnmmhkpolcaaGreatDoorHZ8
import Derived.Test.YtcmcnmmhkpolcaaGreatDoorGBare
import Derived.Test.YtcmcnmmhkpolcaaGreatDoorNodeOf
import Derived.WalkLawsBesides
import Derived.Deep.QuietTactic
import Derived.BigQuiet
namespace Go.Proofs.YtcmcnmmhkpolcaaGreatDoor
open Go.RowKit

theorem bare_szF : ∀ {f : F}, SzF f → SzF (bareF f)
  | .nil, _ => trivial
  | .cons o m n ks r, ⟨_, h2, h3, h4⟩ => by
    rw [bareF]
    refine ⟨by show (0 : Nat) ≤ _; omega, ?_, ?_, bare_szF h4⟩
    · split
      · show (0 : Nat) ≤ _; omega
      · rw [bare_len]; exact h2
    · split
      · trivial
      · exact bare_szF h3

theorem bare_nums : ∀ {f : F}, NumsF f → NumsF (bareF f)
  | .nil, _ => trivial
  | .cons o m n ks r, ⟨h1, h2, h3⟩ => by
    rw [bareF]
    refine ⟨?_, ?_, bare_nums h3⟩
    · split
      · decide
      · exact h1
    · split
      · trivial
      · exact bare_nums h2

/-- Of a row that rises each is below the next. -/
theorem names_below {t : TN} {k : Nat} {x y : ByteArray} (hx : (namesT t)[k]? = some x) (hy : (namesT t)[k + 1]? = some y) : lsS x y = true :=
  rising_at (namesT_rising t) (Nat.lt_succ_self k) hx hy

theorem geqS_no {x y : ByteArray} (h : lsS x y = true) : (Op.bytesLess y.toList x.toList || y.toList == x.toList) = false ∧ Op.bytesLess x.toList y.toList = true ∧ Op.bytesLess y.toList x.toList = false ∧ (y.toList == x.toList) = false ∧ (x.toList == y.toList) = false := by
  have h2 : Op.bytesLess y.toList x.toList = false := by
    cases e : Op.bytesLess y.toList x.toList with
    | false => rfl
    | true => have := strictS.trans _ _ _ h e; rw [strictS.irrefl] at this; cases this
  have h3 : (y.toList == x.toList) = false := by
    rw [beq_eq_false_iff_ne]
    intro e
    rw [bytes_eq e, strictS.irrefl] at h
    cases h
  refine ⟨by rw [h2, h3]; rfl, h, h2, h3, ?_⟩
  rw [beq_eq_false_iff_ne] at h3 ⊢
  exact fun e => h3 e.symm

set_option maxHeartbeats 8000000 in
set_option maxRecDepth 100000 in
theorem exprNames_walk (t : TN) (a : Option Addr) (c : Nat) (hB : BitF t.f) (w : World) (hr : ReadsN (fun b => b < w.heap.size) w a t.ks) (hw : Laid9 w) : Calls Tryz.prog 4 #[nodeV t.op t.nm t.n a t.ks.len c] w fun e w' => e = .returned (.bool true) ∧ Below w.heap.size w w' := by
  have B0 := (Below.refl w.heap.size w).alloc (Nat.le_refl _) (ndG t.op t.nm t.n a t.ks.len c)
  have N0 := heap_alloc_new w (ndG t.op t.nm t.n a t.ks.len c)
  have K0 : KB9 w (w.alloc (ndG t.op t.nm t.n a t.ks.len c)) := ⟨B0, hw.step B0, B0.size⟩
  have R0 := hr.kept B0
  generalize hW : w.alloc (ndG t.op t.nm t.n a t.ks.len c) = W at B0 N0 K0 R0
  have HW := Lib.hid hW
  have KN := Lib.hid (known9_any W K0.l)
  have HK := Lib.hid K0
  have HN := Lib.hid N0
  have HR := Lib.hid R0
  have HB := Lib.hid hB
  clear hW B0 N0 K0 R0 hr hw hB
  go_enter Tryz.func4, Tryz.ntmps4
  go_upto_region 1 with fail
  rw [HW.out]
  go_wp2_with fail
  refine KN.out.mono ?_
  rintro e w1 ⟨rfl, hb⟩
  have K1 := Lib.hid (HK.out.step hb)
  have N1 := (hb.block _ (lt_block HN.out)).trans HN.out
  have HN1 := Lib.hid N1
  have HR1 := Lib.hid (HR.out.kept hb)
  clear hb HK HN HR HW KN
  obtain ⟨⟨m0, m1, m2, m3⟩, -⟩ := four N1
  clear N1
  have FW := Lib.hid (few_any c HB.out.lens HR1.out)
  by_cases h60 : 0 ≤ leftT t 60
  · have hfew : decide (0 ≤ leftT t 60) = true := decide_eq_true h60
    rw [hfew] at FW
    clear hfew
    have hg := few_good h60 (HB.out.lens).1
    have HG := Lib.hid hg
    clear hg h60
    go_wp2_with fail
    refine FW.out.mono ?_
    rintro e w2 ⟨rfl, hb⟩
    have K2 := Lib.hid (K1.out.step hb)
    have N2 := (hb.block _ (lt_block HN1.out)).trans HN1.out
    have HN2 := Lib.hid N2
    have HR2 := Lib.hid (HR1.out.kept hb)
    clear hb K1 HN1 HR1 FW m0 m1 m2 m3
    obtain ⟨⟨m0, m1, m2, m3⟩, -⟩ := four N2
    clear N2
    have OF := Lib.hid (lof_any t _ w2 a c (by have := HG.out.1; omega) HR2.out)
    go_wp2_with fail
    refine OF.out.mono ?_
    rintro e w3 ⟨a3, c3, rfl, hr3, hb'⟩
    have hb : Below w2.heap.size w2 w3 := hb'
    have K3 := Lib.hid (K2.out.step hb)
    have N3 := (hb.block _ (lt_block HN2.out)).trans HN2.out
    have HN3 := Lib.hid N3
    have HR3 := Lib.hid (HR2.out.kept hb)
    have CK := Lib.hid (rCheck_any (t := t) c3 HG.out.2 hr3)
    clear hb hb' hr3 K2 HN2 HR2 OF m0 m1 m2 m3
    obtain ⟨⟨m0, m1, m2, m3⟩, -⟩ := four N3
    clear N3
    obtain ⟨er, her⟩ : ∃ r, checkT t = r := ⟨_, rfl⟩
    rw [her] at CK
    have HER := Lib.hid her
    clear her
    go_wp2_with fail
    refine CK.out.mono ?_
    rintro e w4 ⟨rfl, hb⟩
    have K4 := Lib.hid (K3.out.step hb)
    have N4 := (hb.block _ (lt_block HN3.out)).trans HN3.out
    have HN4 := Lib.hid N4
    have HR4 := Lib.hid (HR3.out.kept hb)
    clear hb K3 HN3 HR3 CK m0 m1 m2 m3
    obtain ⟨⟨m0, m1, m2, m3⟩, -⟩ := four N4
    clear N4
    by_cases h0 : er = 0
    · subst h0
      have HOK := Lib.hid ((check_iff t).1 HER.out)
      have NA := Lib.hid (pNames_any t _ w4 a c HOK.out.1 HB.out.nums HOK.out.2 HR4.out)
      go_wp2_with fail
      refine NA.out.mono ?_
      rintro e w5 ⟨v5, rfl, ho, hb'⟩
      have hb : Below w4.heap.size w4 w5 := hb'
      have K5 := Lib.hid (K4.out.step hb)
      have N5 := (hb.block _ (lt_block HN4.out)).trans HN4.out
      have HN5 := Lib.hid N5
      have HR5 := Lib.hid (HR4.out.kept hb)
      have HO5 := Lib.hid ho
      clear hb hb' ho K4 HN4 HR4 NA m0 m1 m2 m3
      obtain ⟨⟨m0, m1, m2, m3⟩, -⟩ := four N5
      clear N5
      have TA := Lib.hid (pText_any t _ w5 a c HOK.out.1 HB.out.nums HOK.out.2 K5.out.l.2 HR5.out)
      go_wp2_with fail
      refine TA.out.mono ?_
      rintro e w6 ⟨rfl, hb⟩
      have K6 := Lib.hid (K5.out.step hb)
      have N6 := (hb.block _ (lt_block HN5.out)).trans HN5.out
      have HN6 := Lib.hid N6
      have HR6 := Lib.hid (HR5.out.kept hb)
      have HO6 := Lib.hid (owns_below HO5.out hb)
      clear hb K5 HN5 HR5 HO5 TA m0 m1 m2 m3 N6
      obtain ⟨a5, c5, rfl⟩ := own_rowG HO6.out
      have TL := Lib.hid (show (⟨(textE t).toArray⟩ : ByteArray).size ≤ 4000 by
        have h1 := text_len t HOK.out.1 HB.out.nums
        have h2 := HOK.out.2
        show (textE t).toArray.size ≤ 4000
        rw [List.size_toArray]
        omega)
      have WI := Lib.hid (p := ∀ y ∈ namesT t, ∀ V, Calls Tryz.prog 18 #[.string y, .string ⟨(textE t).toArray⟩] V fun e w' => e = .returned (.bool true) ∧ V = w') (fun y hy V => by
        obtain ⟨A, B, h⟩ := name_within t HOK.out.1 HB.out.nums y hy
        exact within_any y ⟨(textE t).toArray⟩ (a := A) (b := B) (by simpa using h) TL.out V)
      have LB := Lib.hid (p := ∀ k x y, (namesT t)[k]? = some x → (namesT t)[k + 1]? = some y → lsS x y = true) (fun k x y hx hy => names_below hx hy)
      have LE := Lib.hid (namesT_len t)
      obtain ⟨S, hS⟩ : ∃ S, (⟨(textE t).toArray⟩ : ByteArray) = S := ⟨_, rfl⟩
      rw [hS] at WI ⊢
      clear hS TL
      obtain ⟨l, hl⟩ : ∃ l, namesT t = l := ⟨_, rfl⟩
      rw [hl] at WI LB HO6 LE ⊢
      have hl40 : l.length ≤ 32 := by have := LE.out; have := HOK.out.2; omega
      clear hl LE
      go_wp2_with fail
      go_loopw [5] (fun i wr => ∃ k : Nat, i = .int .i64 k ∧ k ≤ l.length ∧ Hid (KB9 w wr) ∧ Hid (wr.heap[w.heap.size]? = some (ndG t.op t.nm t.n a t.ks.len c)) ∧ Hid (ReadsN (fun b => b < w.heap.size) wr a t.ks) ∧ Hid (wr.ownsRow w4.heap.size 9 1 (.slice a5 l.length c5) l.length (l.map Value.string))) (fun i _ => l.length - (intOf i).toNat)
      case atStart => exact ⟨0, rfl, Nat.zero_le _, K6, HN6, HR6, HO6⟩
      case round =>
        obtain ⟨k, rfl, hk, HK, HN, HR, HO⟩ := hrel
        by_cases hlt : k < l.length
        · obtain ⟨g, cc, hv, -, -, hc⟩ := own_full HO.out (by omega)
          simp only [Value.slice.injEq, true_and] at hv
          obtain ⟨rfl, rfl⟩ := hv
          obtain ⟨y, hy⟩ : ∃ y, l[k]? = some y := ⟨_, List.getElem?_eq_getElem hlt⟩
          have p1 : wr.cell? ⟨g, k, none⟩ = some (.string y) := hc k _ (by rw [List.getElem?_map, hy]; rfl)
          have CW := Lib.hid (WI.out y (List.mem_of_getElem? hy))
          have a1 : (k : Int) < (l.length : Int) := by omega
          have a2 : (0 : Int) ≤ (k : Int) := by omega
          have a3 : ((k : Int)).toNat = k := by omega
          by_cases hk0 : k = 0
          · subst hk0
            clear hc hy
            go_wp2_with fail
            go_quiet ((first | (go_at_call 18; refine (CW.out _).mono ?_; rintro e w' ⟨he, rfl⟩; exact ⟨he, _, rfl⟩) | fail))
            go_wp2_with fail
            go_roundw
            case rel => exact ⟨0 + 1, by go_num, by omega, Lib.hid (HK.out.step ⟨rfl, rfl, rfl, Nat.le_refl _, fun _ _ => rfl⟩), Lib.hid HN.out, Lib.hid (HR.out.kept ⟨rfl, rfl, rfl, Nat.le_refl _, fun _ _ => rfl⟩), Lib.hid (owns_below HO.out ⟨rfl, rfl, rfl, Nat.le_refl _, fun _ _ => rfl⟩)⟩
            case measure => simp [intOf]; omega
          · have e0 : 0 < k := by omega
            obtain ⟨x, hx⟩ : ∃ x, l[k - 1]? = some x := ⟨_, List.getElem?_eq_getElem (by omega)⟩
            have p0 : wr.cell? ⟨g, k - 1, none⟩ = some (.string x) := hc (k - 1) _ (by rw [List.getElem?_map, hx]; rfl)
            obtain ⟨l1, l2, l3, l4, l5⟩ := geqS_no (LB.out (k - 1) x y hx (by rw [show k - 1 + 1 = k by omega]; exact hy))
            have e1 : IntKind.i64.wrap ((k : Int) - 1) = (k : Int) - 1 := IntWalk.i64_in _ (by omega)
            have e2 : 0 ≤ (k : Int) - 1 := by omega
            have e3 : ((k : Int) - 1).toNat = k - 1 := by omega
            have e4 : (k : Int) - 1 < l.length := by omega
            clear hc hy hx
            go_wp2_with fail
            go_quiet ((first | (go_at_call 18; refine (CW.out _).mono ?_; rintro e w' ⟨he, rfl⟩; exact ⟨he, _, rfl⟩) | fail))
            clear e1 e2 e3 e4 l1 l2 l3 l4 l5
            go_wp2_with fail
            go_roundw
            case rel => exact ⟨k + 1, by go_num, by omega, Lib.hid (HK.out.step ⟨rfl, rfl, rfl, Nat.le_refl _, fun _ _ => rfl⟩), Lib.hid HN.out, Lib.hid (HR.out.kept ⟨rfl, rfl, rfl, Nat.le_refl _, fun _ _ => rfl⟩), Lib.hid (owns_below HO.out ⟨rfl, rfl, rfl, Nat.le_refl _, fun _ _ => rfl⟩)⟩
            case measure => simp [intOf]; omega
        · obtain rfl : k = l.length := by omega
          have a1 : ¬ (l.length : Int) < (l.length : Int) := by omega
          obtain ⟨⟨m0, m1, m2, m3⟩, -⟩ := four HN.out
          have BA := Lib.hid (bare_any t _ wr a c (by have := HOK.out.2; omega) HR.out)
          clear WI LB
          go_wp2_with fail
          refine BA.out.mono ?_
          rintro e w7 ⟨a7, c7, rfl, hr7, hb'⟩
          have hb : Below wr.heap.size wr w7 := hb'
          obtain ⟨ck, nm⟩ := bare_check HER.out
          have SZ := Lib.hid (show SzF (bareT t).f by rw [bare_tree]; exact bare_szF HG.out.2)
          have NU := Lib.hid (show NumsF (bareT t).f by rw [bare_tree]; exact bare_nums HB.out.nums)
          have BO := Lib.hid ((check_iff (bareT t)).1 ck)
          have BAl := (Below.refl w7.heap.size w7).alloc (Nat.le_refl _) (ndG (bareT t).op (bareT t).nm (bareT t).n a7 (bareT t).ks.len c7)
          have N8 := heap_alloc_new w7 (ndG (bareT t).op (bareT t).nm (bareT t).n a7 (bareT t).ks.len c7)
          have R8 := hr7.kept BAl
          have K8 := (HK.out.step hb).step BAl
          generalize hW8 : w7.alloc (ndG (bareT t).op (bareT t).nm (bareT t).n a7 (bareT t).ks.len c7) = W8 at N8 R8 K8
          generalize hB8 : w7.heap.size = B8 at N8
          have HB8 := Lib.hid hB8
          have HW8 := Lib.hid hW8
          have HN8 := Lib.hid N8
          have HR8 := Lib.hid R8
          have HK8 := Lib.hid K8
          have CK := Lib.hid (pCheck_any (bareT t) _ W8 a7 c7 SZ.out R8)
          rw [ck] at CK
          have HNM := Lib.hid nm
          clear hb hb' hr7 BA BAl N8 R8 K8 hW8 hB8 m0 m1 m2 m3 HK HN HR HO ck nm
          go_upto_region 13 with fail
          rw [HW8.out, HB8.out]
          clear HW8 HB8
          obtain ⟨⟨m0, m1, m2, m3⟩, -⟩ := four HN8.out
          go_wp2_with fail
          refine CK.out.mono ?_
          rintro e w9 ⟨rfl, hb⟩
          have K9 := Lib.hid (HK8.out.step hb)
          have N9 := (hb.block _ (lt_block HN8.out)).trans HN8.out
          have R9 := HR8.out.kept hb
          have NA := Lib.hid (pNames_any (bareT t) _ w9 a7 c7 BO.out.1 NU.out BO.out.2 R9)
          rw [HNM.out] at NA
          clear hb R9 HN8 HR8 HK8 CK m0 m1 m2 m3
          obtain ⟨⟨m0, m1, m2, m3⟩, -⟩ := four N9
          clear N9
          go_wp2_with fail
          refine NA.out.mono ?_
          rintro e w10 ⟨v10, rfl, ho, hb'⟩
          obtain ⟨a10, c10, rfl⟩ := own_rowG ho
          have hb : Below w9.heap.size w9 w10 := hb'
          have K10 := Lib.hid (K9.out.step hb)
          clear hb hb' ho
          go_wp2_with fail
          go_ret
          exact ⟨rfl, K10.out.b⟩
    · have e1 : (er == 0) = false := by simpa using h0
      have e2 : (er != 0) = true := by simpa using h0
      go_wp2_with fail
      go_ret
      exact ⟨rfl, K4.out.b⟩
  · have hfew : decide (0 ≤ leftT t 60) = false := decide_eq_false h60
    rw [hfew] at FW
    clear hfew h60
    go_wp2_with fail
    refine FW.out.mono ?_
    rintro e w2 ⟨rfl, hb⟩
    have K2 := Lib.hid (K1.out.step hb)
    clear hb
    go_wp2_with fail
    go_ret
    exact ⟨rfl, K2.out.b⟩

end Go.Proofs.YtcmcnmmhkpolcaaGreatDoor
