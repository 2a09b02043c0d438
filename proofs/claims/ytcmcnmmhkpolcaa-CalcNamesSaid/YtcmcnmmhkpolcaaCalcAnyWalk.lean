/-
  No statement: CalcAny's walk.
-/
import Derived.Test.YtcmcnmmhkpolcaaHKnown
import Derived.Test.YtcmcnmmhkpolcaaHPut
import Derived.Test.YtcmcnmmhkpolcaaHE3
import Derived.Test.YtcmcnmmhkpolcaaNodeOf
namespace Go.Proofs.Ytcmcnmmhkpolcaa
open Go.RowKit

/-- What the walk keeps: the tree in its block, its kids. -/
structure KN10 (w : World) (t : TN) (a : Option Addr) (c : Nat) (V : World) : Prop where
  b : Below w.heap.size w V
  z : w.heap.size ≤ V.heap.size
  n : V.heap[w.heap.size]? = some (ndG t.op t.nm t.n a t.ks.len c)
  r : ReadsN (fun b => b < w.heap.size) V a t.ks
theorem KN10.step {w V V' : World} {t : TN} {a : Option Addr} {c : Nat} (h : KN10 w t a c V) (hb : Below V.heap.size V V') : KN10 w t a c V' :=
  ⟨h.b.trans (hb.mono h.z), Nat.le_trans h.z hb.size, (hb.block _ (lt_block h.n)).trans h.n, h.r.kept hb⟩

theorem kn10_new {w : World} {t : TN} {a : Option Addr} {c : Nat} (hr : ReadsN (fun b => b < w.heap.size) w a t.ks) : KN10 w t a c (w.alloc (ndG t.op t.nm t.n a t.ks.len c)) :=
  ⟨(Below.refl _ _).alloc (Nat.le_refl _) _, by rw [World.size_alloc]; omega, heap_alloc_new w _, hr.kept ((Below.refl _ _).alloc (Nat.le_refl _) _)⟩

set_option maxHeartbeats 8000000 in
theorem calcAny_walk (t : TN) (a : Option Addr) (c : Nat) (A : Nat → Wr.AD) (n : Nat) (y : Option Addr) (cy : Nat) (hB : BitF t.f) (hA : ∀ j, Wr.SizA (A j) ∧ Wr.NumA (A j)) (w : World) (hr : ReadsN (fun b => b < w.heap.size) w a t.ks) (hl : Wr.ReadsA w y n A) :
    Calls Try.prog 3 #[nodeV t.op t.nm t.n a t.ks.len c, .slice y n cy] w fun e w' => e = .returned (.bool true) ∧ Below w.heap.size w w' := by
  have K0 := kn10_new (c := c) hr
  have L0 := hl.kept ((Below.refl w.heap.size w).alloc (Nat.le_refl _) (ndG t.op t.nm t.n a t.ks.len c))
  generalize hW : w.alloc (ndG t.op t.nm t.n a t.ks.len c) = W at K0 L0
  have HW := Lib.hid hW
  have KN := Lib.hid (known10_any W)
  have HK := Lib.hid K0
  have HL := Lib.hid L0
  have HB := Lib.hid hB
  have HA := Lib.hid hA
  clear hW K0 L0 hr hl hB hA
  go_enter Try.func3, Try.ntmps3
  go_upto_region 1 with fail
  rw [HW.out]
  go_wp2_with fail
  refine KN.out.mono ?_
  rintro e w1 ⟨rfl, hb⟩
  have K1 := Lib.hid (HK.out.step hb)
  have L1 := Lib.hid (HL.out.kept hb)
  clear hb HK HL HW KN
  obtain ⟨⟨m0, m1, m2, m3⟩, -⟩ := four K1.out.n
  have FW := Lib.hid (few_any c HB.out.lens K1.out.r)
  by_cases h60 : 0 ≤ leftT t 60
  · have hfew : decide (0 ≤ leftT t 60) = true := decide_eq_true h60
    rw [hfew] at FW
    clear hfew
    have hg := few_good h60 (HB.out.lens).1
    have HG := Lib.hid hg
    clear hg h60
    go_wp2_with fail
    refine FW.out.mono ?_
    rintro e w2 ⟨rfl, hb⟩
    have K2 := Lib.hid (K1.out.step hb)
    have L2 := Lib.hid (L1.out.kept hb)
    clear hb K1 L1 FW m0 m1 m2 m3
    obtain ⟨⟨m0, m1, m2, m3⟩, -⟩ := four K2.out.n
    have OF := Lib.hid (lof_any t _ w2 a c (by have := HG.out.1; omega) K2.out.r)
    go_wp2_with fail
    refine OF.out.mono ?_
    rintro e w3 ⟨a3, c3, rfl, hr3, hb'⟩
    have hb : Below w2.heap.size w2 w3 := hb'
    have K3 := Lib.hid (K2.out.step hb)
    have L3 := Lib.hid (L2.out.kept hb)
    have CK := Lib.hid (rCheck_any (t := t) c3 HG.out.2 hr3)
    clear hb hb' hr3 K2 L2 OF m0 m1 m2 m3
    obtain ⟨er, her⟩ : ∃ r, checkT t = r := ⟨_, rfl⟩
    rw [her] at CK
    have HER := Lib.hid her
    clear her
    go_wp2_with fail
    refine CK.out.mono ?_
    rintro e w4 ⟨rfl, hb⟩
    have K4 := Lib.hid (K3.out.step hb)
    have L4 := Lib.hid (L3.out.kept hb)
    clear hb K3 L3 CK
    by_cases h0 : er = 0
    · subst h0
      have GA := Lib.hid (Wr.good_any y n cy A (fun j _ => (HA.out j).1) w4 L4.out)
      cases hgd : Wr.goodL n A with
      | false =>
        rw [hgd] at GA
        clear hgd
        go_wp2_with fail
        refine GA.out.mono ?_
        rintro e w5 ⟨rfl, hb⟩
        have K5 := Lib.hid (K4.out.step hb)
        clear hb
        go_wp2_with fail
        go_ret
        exact ⟨rfl, K5.out.b⟩
      | true =>
        rw [hgd] at GA
        obtain ⟨g1, g2, g3⟩ := (Wr.goodL_iff n A).1 hgd
        rw [Wr.fromA_len] at g1
        have hR := rise_of g3
        have hLen : ∀ j, j < n → (A j).len ≤ 1000000 := fun j hj => by
          have := (g2 (A j) (List.mem_map.2 ⟨j, List.mem_range.2 hj, by rw [Nat.zero_add]⟩)).1
          unfold Wr.FewA at this
          omega
        have U : Under A n (getG A n) := ⟨getG_ok hR (fun j _ => (HA.out j).2.2.1), hR, by omega, hLen⟩
        have HU := Lib.hid U
        have H32 := Lib.hid g1
        clear hgd g1 g2 g3 hR hLen U
        go_wp2_with fail
        refine GA.out.mono ?_
        rintro e w5 ⟨rfl, hb⟩
        have K5 := Lib.hid (K4.out.step hb)
        have L5 := Lib.hid (L4.out.kept hb)
        clear hb K4 L4 GA
        obtain ⟨⟨m0, m1, m2, m3⟩, -⟩ := four K5.out.n
        have EV := Lib.hid (pEval_any HU.out t HER.out HB.out.nums HG.out.2 _ w5 a c y cy K5.out.r L5.out)
        have RV := Lib.hid (fun V G a2 c2 y2 cy2 hr hA => (rev_any HU.out t ((check_iff t).1 HER.out).1 HB.out.nums).1 G V a2 c2 y2 cy2 hr hA)
        obtain ⟨q, hq⟩ : ∃ q, (evT (getG A n) t).getD 0 = q := ⟨_, rfl⟩
        obtain ⟨z, hz⟩ : ∃ z, (evT (getG A n) t).isSome = z := ⟨_, rfl⟩
        rw [hq, hz] at EV RV
        clear hq hz
        go_wp2_with fail
        refine EV.out.mono ?_
        rintro e w6 ⟨rfl, hb⟩
        have K6 := Lib.hid (K5.out.step hb)
        have L6 := Lib.hid (L5.out.kept hb)
        clear hb K5 L5 EV m0 m1 m2 m3
        obtain ⟨⟨m0, m1, m2, m3⟩, -⟩ := four K6.out.n
        have OF := Lib.hid (lof_any t _ w6 a c (by have := HG.out.1; omega) K6.out.r)
        go_wp2_with fail
        refine OF.out.mono ?_
        rintro e w7 ⟨a7, c7, rfl, hr7, hb'⟩
        have hb : Below w6.heap.size w6 w7 := hb'
        have K7 := Lib.hid (K6.out.step hb)
        have L7 := Lib.hid (L6.out.kept hb)
        have R7 := Lib.hid hr7
        clear hb hb' hr7 K6 L6 OF m0 m1 m2 m3
        have OA := Lib.hid (Wr.ofAttrs_any y n cy A (by have := H32.out; omega) w7 w7 L7.out (Below.refl _ _))
        go_wp2_with fail
        refine OA.out.mono ?_
        rintro e w8 ⟨⟨a8, c8, rfl, h8⟩, hb⟩
        have K8 := Lib.hid (K7.out.step hb)
        have R8 := Lib.hid (R7.out.kept hb)
        have L8 := Lib.hid (h8 w8 (Kept.refl _ _))
        clear hb h8 K7 L7 R7 OA
        have RV8 := Lib.hid (RV.out w8 _ a7 c7 a8 c8 R8.out L8.out)
        go_wp2_with fail
        refine RV8.out.mono ?_
        rintro e w9 ⟨rfl, hb⟩
        have K9 := Lib.hid (K8.out.step hb)
        clear hb K8 R8 L8 RV8 RV
        have e1 : (q == q) = true := by simp
        have e2 : (z == z) = true := by simp
        go_wp2_with fail
        go_ret
        exact ⟨rfl, K9.out.b⟩
    · have e1 : (er == 0) = false := by simpa using h0
      have e2 : (er != 0) = true := by simpa using h0
      go_wp2_with fail
      go_ret
      exact ⟨rfl, K4.out.b⟩
  · have hfew : decide (0 ≤ leftT t 60) = false := decide_eq_false h60
    rw [hfew] at FW
    clear hfew h60
    go_wp2_with fail
    refine FW.out.mono ?_
    rintro e w2 ⟨rfl, hb⟩
    have K2 := Lib.hid (K1.out.step hb)
    clear hb
    go_wp2_with fail
    go_ret
    exact ⟨rfl, K2.out.b⟩

end Go.Proofs.Ytcmcnmmhkpolcaa
