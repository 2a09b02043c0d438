/-
  No statement: ExprBack's walk.
-/
import Derived.Test.YtcmcnmmhkpolcaaGreatDoorHZ10
import Derived.Test.YtcmcnmmhkpolcaaGreatDoorHZ9
import Derived.Test.YtcmcnmmhkpolcaaGreatDoorHZ5
import Derived.Test.YtcmcnmmhkpolcaaGreatDoorHZ8
import Derived.Test.YtcmcnmmhkpolcaaGreatDoorHN1
import Derived.Test.YtcmcnmmhkpolcaaGreatDoorNodeOf
import Derived.Test.YtcmcnmmhkpolcaaGreatDoorTextsQ
namespace Go.Proofs.YtcmcnmmhkpolcaaGreatDoor
open Go.RowKit

/-- What the walk keeps: the two trees in their blocks, their kids, the library's variables. -/
structure KB10 (w : World) (t : TN) (a : Option Addr) (c : Nat) (u : TN) (b : Option Addr) (d : Nat) (V : World) : Prop where
  k : KB9 w V
  n : V.heap[w.heap.size]? = some (ndG t.op t.nm t.n a t.ks.len c)
  o : V.heap[w.heap.size + 1]? = some (ndG u.op u.nm u.n b u.ks.len d)
  r : ReadsN (fun b => b < w.heap.size) V a t.ks
  s : ReadsN (fun b => b < w.heap.size) V b u.ks
theorem KB10.step {w V V' : World} {t u : TN} {a b : Option Addr} {c d : Nat} (h : KB10 w t a c u b d V) (hb : Below V.heap.size V V') : KB10 w t a c u b d V' :=
  ⟨h.k.step hb, (hb.block _ (lt_block h.n)).trans h.n, (hb.block _ (lt_block h.o)).trans h.o, h.r.kept hb, h.s.kept hb⟩

theorem same_canT (t : TN) : sameT (canT t) t = true := same_can t.f
theorem text_size (t : TN) (h : OkT t) (hn : NumsF t.f) (hs : sizeT t ≤ 32) : (textE t).length ≤ 608 := by have := text_len t h hn; omega

set_option maxHeartbeats 16000000 in
set_option maxRecDepth 100000 in
theorem exprBack_walk (t u : TN) (a : Option Addr) (c : Nat) (hB : BitF t.f) (b : Option Addr) (d : Nat) (hD : BitF u.f) (w : World) (hr : ReadsN (fun b => b < w.heap.size) w a t.ks) (hs : ReadsN (fun b => b < w.heap.size) w b u.ks) (hw : Laid9 w) :
    Calls Tryz.prog 3 #[nodeV t.op t.nm t.n a t.ks.len c, nodeV u.op u.nm u.n b u.ks.len d] w fun e w' => e = .returned (.bool true) ∧ Below w.heap.size w w' := by
  have B0 := (Below.refl w.heap.size w).alloc (Nat.le_refl _) (ndG t.op t.nm t.n a t.ks.len c)
  have N0 := heap_alloc_new w (ndG t.op t.nm t.n a t.ks.len c)
  have s0 : (w.alloc (ndG t.op t.nm t.n a t.ks.len c)).heap.size = w.heap.size + 1 := World.size_alloc _ _
  have L0 := hw.step B0
  have R0 := hr.kept B0
  have S0 := hs.kept B0
  generalize hW1 : w.alloc (ndG t.op t.nm t.n a t.ks.len c) = W1 at B0 N0 s0 L0 R0 S0
  have B1 := (Below.refl W1.heap.size W1).alloc (Nat.le_refl _) (ndG u.op u.nm u.n b u.ks.len d)
  have N1 := heap_alloc_new W1 (ndG u.op u.nm u.n b u.ks.len d)
  have K0 : KB10 w t a c u b d (W1.alloc (ndG u.op u.nm u.n b u.ks.len d)) := ⟨⟨B0.trans (B1.mono (by omega)), L0.step B1, by rw [World.size_alloc]; omega⟩, (B1.block _ (by omega)).trans N0, by rw [s0] at N1; exact N1, R0.kept B1, S0.kept B1⟩
  generalize hW : W1.alloc (ndG u.op u.nm u.n b u.ks.len d) = W at K0
  have HW1 := Lib.hid hW1
  have HW := Lib.hid hW
  have KN := Lib.hid (known9_any W K0.k.l)
  have HK := Lib.hid K0
  have HB := Lib.hid hB
  have HD := Lib.hid hD
  have FT := Lib.hid (p := ∀ V, KB10 w t a c u b d V → Calls Tryz.prog 6 #[nodeV t.op t.nm t.n a t.ks.len c] V fun e w' => e = .returned (.bool (decide (0 ≤ leftT t 60))) ∧ Below V.heap.size V w') (fun V h => few_any c hB.lens h.r)
  have FU := Lib.hid (p := ∀ V, KB10 w t a c u b d V → Calls Tryz.prog 6 #[nodeV u.op u.nm u.n b u.ks.len d] V fun e w' => e = .returned (.bool (decide (0 ≤ leftT u 60))) ∧ Below V.heap.size V w') (fun V h => few_any d hD.lens h.s)
  clear hW1 hW B0 N0 s0 L0 R0 S0 B1 N1 K0 hr hs hw hB hD
  go_enter Tryz.func3, Tryz.ntmps3
  go_upto_region 1 with fail
  rw [HW1.out, HW.out]
  go_wp2_with fail
  refine KN.out.mono ?_
  rintro e w1 ⟨rfl, hb⟩
  have K1 := Lib.hid (HK.out.step hb)
  clear hb HK HW HW1 KN
  obtain ⟨⟨m0, m1, m2, m3⟩, -⟩ := four K1.out.n
  obtain ⟨⟨q0, q1, q2, q3⟩, -⟩ := four K1.out.o
  have F1 := Lib.hid (FT.out w1 K1.out)
  by_cases h60 : 0 ≤ leftT t 60
  · rw [decide_eq_true h60] at F1
    have HG := Lib.hid (few_good h60 (HB.out.lens).1)
    clear h60
    go_wp2_with fail
    refine F1.out.mono ?_
    rintro e w2 ⟨rfl, hb⟩
    have K2 := Lib.hid (K1.out.step hb)
    clear hb K1 F1 FT m0 m1 m2 m3 q0 q1 q2 q3
    obtain ⟨⟨m0, m1, m2, m3⟩, -⟩ := four K2.out.n
    obtain ⟨⟨q0, q1, q2, q3⟩, -⟩ := four K2.out.o
    have F2 := Lib.hid (FU.out w2 K2.out)
    by_cases h61 : 0 ≤ leftT u 60
    · rw [decide_eq_true h61] at F2
      have HH := Lib.hid (few_good h61 (HD.out.lens).1)
      clear h61
      have CO := Lib.hid (p := ∀ V, KB10 w t a c u b d V → Calls Tryz.prog 8 #[nodeV t.op t.nm t.n a t.ks.len c] V fun e w' => ∃ a2 c2, e = .returned (nodeV t.op t.nm t.n a2 t.ks.len c2) ∧ ReadsK V.heap.size w' a2 t.ks ∧ Below V.heap.size V w') (fun V h => lof_any t _ V a c (by have := HG.out.1; omega) h.r)
      have CU := Lib.hid (p := ∀ V, KB10 w t a c u b d V → Calls Tryz.prog 8 #[nodeV u.op u.nm u.n b u.ks.len d] V fun e w' => ∃ a2 c2, e = .returned (nodeV u.op u.nm u.n a2 u.ks.len c2) ∧ ReadsK V.heap.size w' a2 u.ks ∧ Below V.heap.size V w') (fun V h => lof_any u _ V b d (by have := HH.out.1; omega) h.s)
      go_wp2_with fail
      refine F2.out.mono ?_
      rintro e w3 ⟨rfl, hb⟩
      have K3 := Lib.hid (K2.out.step hb)
      clear hb K2 F2 FU m0 m1 m2 m3 q0 q1 q2 q3
      obtain ⟨⟨m0, m1, m2, m3⟩, -⟩ := four K3.out.n
      obtain ⟨⟨q0, q1, q2, q3⟩, -⟩ := four K3.out.o
      have O3 := Lib.hid (CO.out w3 K3.out)
      go_wp2_with fail
      refine O3.out.mono ?_
      rintro e w4 ⟨a4, c4, rfl, hr4, hb⟩
      have K4 := Lib.hid (K3.out.step hb)
      have CK := Lib.hid (rCheck_any (t := t) c4 HG.out.2 hr4)
      obtain ⟨er, her⟩ : ∃ r, checkT t = r := ⟨_, rfl⟩
      rw [her] at CK
      have HER := Lib.hid her
      clear hb hr4 her K3 O3 m0 m1 m2 m3 q0 q1 q2 q3
      go_wp2_with fail
      refine CK.out.mono ?_
      rintro e w5 ⟨rfl, hb⟩
      have K5 := Lib.hid (K4.out.step hb)
      clear hb K4 CK
      obtain ⟨⟨m0, m1, m2, m3⟩, -⟩ := four K5.out.n
      obtain ⟨⟨q0, q1, q2, q3⟩, -⟩ := four K5.out.o
      have PC := Lib.hid (pCheck_any t _ w5 a c HG.out.2 K5.out.r)
      rw [HER.out] at PC
      go_wp2_with fail
      refine PC.out.mono ?_
      rintro e w6 ⟨rfl, hb⟩
      have K6 := Lib.hid (K5.out.step hb)
      clear hb K5 PC m0 m1 m2 m3 q0 q1 q2 q3
      obtain ⟨⟨m0, m1, m2, m3⟩, -⟩ := four K6.out.n
      obtain ⟨⟨q0, q1, q2, q3⟩, -⟩ := four K6.out.o
      have e0 : (er != er) = false := by simp
      by_cases h0 : er = 0
      · subst h0
        clear e0
        have U6 := Lib.hid (CU.out w6 K6.out)
        go_wp2_with fail
        refine U6.out.mono ?_
        rintro e w7 ⟨a7, c7, rfl, hr7, hb⟩
        have K7 := Lib.hid (K6.out.step hb)
        have CK := Lib.hid (rCheck_any (t := u) c7 HH.out.2 hr7)
        obtain ⟨fr, hfr⟩ : ∃ r, checkT u = r := ⟨_, rfl⟩
        rw [hfr] at CK
        have HFR := Lib.hid hfr
        clear hb hr7 hfr K6 U6 m0 m1 m2 m3 q0 q1 q2 q3
        go_wp2_with fail
        refine CK.out.mono ?_
        rintro e w8 ⟨rfl, hb⟩
        have K8 := Lib.hid (K7.out.step hb)
        clear hb K7 CK
        by_cases h1 : fr = 0
        · subst h1
          have OT := Lib.hid ((check_iff t).1 HER.out)
          have OU := Lib.hid ((check_iff u).1 HFR.out)
          obtain ⟨⟨m0, m1, m2, m3⟩, -⟩ := four K8.out.n
          obtain ⟨⟨q0, q1, q2, q3⟩, -⟩ := four K8.out.o
          have TX := Lib.hid (pText_any t _ w8 a c OT.out.1 HB.out.nums OT.out.2 K8.out.k.l.2 K8.out.r)
          have TZ := Lib.hid (text_size t OT.out.1 HB.out.nums OT.out.2)
          have PT := Lib.hid (parse_text t OT.out.1 HB.out.nums OT.out.2)
          have PA := Lib.hid (p := ∀ V, Laid V → Calls Tryz.prog 11 #[.string ⟨(textE t).toArray⟩] V (PxPost (.ok (canT t)) V)) (fun V hV => by
            have h := pParse_any ⟨(textE t).toArray⟩ (by show (textE t).toArray.size ≤ _; rw [List.size_toArray]; have := TZ.out; omega) V hV
            have e : (⟨(textE t).toArray⟩ : ByteArray).data.toList = textE t := by simp
            rw [e, PT.out] at h
            exact h)
          have NT := Lib.hid (p := ∀ lo V a c, ReadsK lo V a t.ks → Calls Tryz.prog 12 #[nodeV t.op t.nm t.n a t.ks.len c] V fun e w' => e = .returned (.string ⟨(textE t).toArray⟩) ∧ Below V.heap.size V w') (fun lo V a c hr => txt_any t OT.out.1 HB.out.nums _ V a c (by have := TZ.out; omega) hr)
          have XG := Lib.hid (And.intro (parse_sz PT.out) (And.intro (parse_good PT.out) (same_canT t)))
          obtain ⟨S, hS⟩ : ∃ S, (⟨(textE t).toArray⟩ : ByteArray) = S := ⟨_, rfl⟩
          obtain ⟨X, hX⟩ : ∃ X, canT t = X := ⟨_, rfl⟩
          rw [hS] at TX PA NT
          rw [hX] at PA XG
          have CX := Lib.hid (p := ∀ lo V a c, ReadsK lo V a X.ks → Calls Tryz.prog 7 #[nodeV X.op X.nm X.n a X.ks.len c] V fun e w' => e = .returned (.int .i64 0) ∧ Below V.heap.size V w') (fun lo V a c hr => by
            have h := rCheck_any (t := X) c XG.out.1 hr
            rw [XG.out.2.1.1] at h
            exact h)
          have SX := Lib.hid (p := ∀ lo lo' V a c a' c', ReadsK lo V a X.ks → ReadsK lo' V a' t.ks → Calls Tryz.prog 13 #[nodeV X.op X.nm X.n a X.ks.len c, nodeV t.op t.nm t.n a' t.ks.len c'] V fun e w' => e = .returned (.bool true) ∧ Below V.heap.size V w') (fun lo lo' V a c a' c' hr hr' => by
            have h := same_any X _ _ V a a' c c' t XG.out.1.lens hr hr'
            rw [XG.out.2.2] at h
            exact h)
          have OX := Lib.hid (p := ∀ lo V a c, ReadsK lo V a X.ks → Calls Tryz.prog 8 #[nodeV X.op X.nm X.n a X.ks.len c] V fun e w' => ∃ a2 c2, e = .returned (nodeV X.op X.nm X.n a2 X.ks.len c2) ∧ ReadsK V.heap.size w' a2 X.ks ∧ Below V.heap.size V w') (fun lo V a c hr => lof_any X _ V a c (by have := XG.out.2.1.2; omega) hr)
          have SU := Lib.hid (p := ∀ lo lo' V a c a' c', ReadsK lo V a t.ks → ReadsK lo' V a' u.ks → Calls Tryz.prog 13 #[nodeV t.op t.nm t.n a t.ks.len c, nodeV u.op u.nm u.n a' u.ks.len c'] V fun e w' => e = .returned (.bool (sameT t u)) ∧ Below V.heap.size V w') (fun lo lo' V a c a' c' hr hr' => same_any t _ _ V a a' c c' u HG.out.2.lens hr hr')
          have PS := Lib.hid (p := ∀ V, KB10 w t a c u b d V → Calls Tryz.prog 14 #[nodeV t.op t.nm t.n a t.ks.len c, nodeV u.op u.nm u.n b u.ks.len d] V fun e w' => e = .returned (.bool (sameT t u)) ∧ Below V.heap.size V w') (fun V h => pSame_any t u _ _ V a b c d OT.out.1 HB.out.nums OT.out.2 OU.out.1 HD.out.nums OU.out.2 h.r h.s)
          have PN := Lib.hid (p := ∀ V, KB10 w t a c u b d V → Calls Tryz.prog 16 #[nodeV t.op t.nm t.n a t.ks.len c] V fun e w' => ∃ a2 c2, e = .returned (.slice a2 (namesT t).length c2) ∧ RowS w' a2 (namesT t) ∧ Below V.heap.size V w') (fun V h => (pNames_any t _ V a c OT.out.1 HB.out.nums OT.out.2 h.r).mono fun e w' ⟨v, he, ho, hb⟩ => by
            obtain ⟨a2, c2, rfl⟩ := own_rowG ho
            exact ⟨a2, c2, he, rowS_own rfl ho, hb⟩)
          have RN := Lib.hid (p := ∀ lo V a c, ReadsK lo V a t.ks → Calls Tryz.prog 17 #[nodeV t.op t.nm t.n a t.ks.len c] V fun e w' => ∃ a2 c2, e = .returned (.slice a2 (namesT t).length c2) ∧ RowS w' a2 (namesT t) ∧ Below V.heap.size V w') (fun lo V a c hr => (En.nam_any t _ V a c (by have := OT.out.2; omega) hr).mono fun e w' ⟨⟨v, he, ho⟩, hb⟩ => by
            obtain ⟨a2, c2, rfl⟩ := own_rowG ho
            exact ⟨a2, c2, he, rowS_own rfl ho, hb⟩)
          have TS := Lib.hid (p := ∀ V a2 c2 a3 c3, RowS V a2 (namesT t) → RowS V a3 (namesT t) → Calls Tryz.prog 15 #[.slice a2 (namesT t).length c2, .slice a3 (namesT t).length c3] V fun e w' => e = .returned (.bool true) ∧ Below V.heap.size V w') (fun V a2 c2 a3 c3 h k => texts_own a2 a3 c2 c3 (namesT t) (by have := namesT_len t; have := OT.out.2; omega) V h k)
          obtain ⟨z, hz⟩ : ∃ z, sameT t u = z := ⟨_, rfl⟩
          rw [hz] at SU PS
          obtain ⟨nl, hnl⟩ : ∃ nl, namesT t = nl := ⟨_, rfl⟩
          rw [hnl] at PN RN TS
          clear hS hX hz hnl TZ PT
          go_wp2_with fail
          refine TX.out.mono ?_
          rintro e w9 ⟨rfl, hb⟩
          have K9 := Lib.hid (K8.out.step hb)
          have P9 := Lib.hid (PA.out w9 K9.out.k.l.1)
          clear hb K8 TX PA m0 m1 m2 m3 q0 q1 q2 q3
          go_wp2_with fail
          refine P9.out.mono ?_
          rintro e v ⟨hb, ax, cx, rfl, hrx⟩
          have BA := (Below.refl v.heap.size v).alloc (Nat.le_refl _) (ndG X.op X.nm X.n ax X.ks.len cx)
          have NX := heap_alloc_new v (ndG X.op X.nm X.n ax X.ks.len cx)
          have RX := hrx.kept BA
          have KX := (K9.out.step hb).step BA
          generalize hW : v.alloc (ndG X.op X.nm X.n ax X.ks.len cx) = W at NX RX KX
          generalize hBX : v.heap.size = BX at NX
          have HBX := Lib.hid hBX
          have HW := Lib.hid hW
          have HNX := Lib.hid NX
          have HRX := Lib.hid RX
          have HKX := Lib.hid KX
          clear hb hrx BA NX RX KX hW hBX K9 P9
          go_upto_region 12 with fail
          rw [HW.out, HBX.out]
          clear HW HBX
          obtain ⟨⟨m0, m1, m2, m3⟩, -⟩ := four HKX.out.n
          obtain ⟨⟨q0, q1, q2, q3⟩, -⟩ := four HKX.out.o
          obtain ⟨⟨x0, x1, x2, x3⟩, -⟩ := four HNX.out
          have CELLS := Lib.hid (p := ∀ w', Below W.heap.size W w' → (w'.cell? ⟨w.heap.size, 0, none⟩ = some (.string t.op) ∧ w'.cell? ⟨w.heap.size, 1, none⟩ = some (.string t.nm) ∧ w'.cell? ⟨w.heap.size, 2, none⟩ = some (.int .i64 t.n) ∧ w'.cell? ⟨w.heap.size, 3, none⟩ = some (.slice a t.ks.len c) ∧ w'.cell? ⟨w.heap.size + 1, 0, none⟩ = some (.string u.op) ∧ w'.cell? ⟨w.heap.size + 1, 1, none⟩ = some (.string u.nm) ∧ w'.cell? ⟨w.heap.size + 1, 2, none⟩ = some (.int .i64 u.n) ∧ w'.cell? ⟨w.heap.size + 1, 3, none⟩ = some (.slice b u.ks.len d) ∧ w'.cell? ⟨BX, 0, none⟩ = some (.string X.op) ∧ w'.cell? ⟨BX, 1, none⟩ = some (.string X.nm) ∧ w'.cell? ⟨BX, 2, none⟩ = some (.int .i64 X.n) ∧ w'.cell? ⟨BX, 3, none⟩ = some (.slice ax X.ks.len cx))) (fun w' h => by
            obtain ⟨⟨m0, m1, m2, m3⟩, -⟩ := four ((h.block _ (lt_block HKX.out.n)).trans HKX.out.n)
            obtain ⟨⟨q0, q1, q2, q3⟩, -⟩ := four ((h.block _ (lt_block HKX.out.o)).trans HKX.out.o)
            obtain ⟨⟨x0, x1, x2, x3⟩, -⟩ := four ((h.block _ (lt_block HNX.out)).trans HNX.out)
            exact ⟨m0, m1, m2, m3, q0, q1, q2, q3, x0, x1, x2, x3⟩)
          have g1 : (S.toList == S.toList) = true := by simp
          have g2 : (z == z) = true := by simp
          have D0 := Lib.hid (drew_below W)
          go_region_held3 (fun w' => w'.cell? ⟨w.heap.size, 0, none⟩ = some (.string t.op) ∧ w'.cell? ⟨w.heap.size, 1, none⟩ = some (.string t.nm) ∧ w'.cell? ⟨w.heap.size, 2, none⟩ = some (.int .i64 t.n) ∧ w'.cell? ⟨w.heap.size, 3, none⟩ = some (.slice a t.ks.len c) ∧ w'.cell? ⟨w.heap.size + 1, 0, none⟩ = some (.string u.op) ∧ w'.cell? ⟨w.heap.size + 1, 1, none⟩ = some (.string u.nm) ∧ w'.cell? ⟨w.heap.size + 1, 2, none⟩ = some (.int .i64 u.n) ∧ w'.cell? ⟨w.heap.size + 1, 3, none⟩ = some (.slice b u.ks.len d) ∧ w'.cell? ⟨BX, 0, none⟩ = some (.string X.op) ∧ w'.cell? ⟨BX, 1, none⟩ = some (.string X.nm) ∧ w'.cell? ⟨BX, 2, none⟩ = some (.int .i64 X.n) ∧ w'.cell? ⟨BX, 3, none⟩ = some (.slice ax X.ks.len cx)) (first | assumption | exact ⟨m0, m1, m2, m3, q0, q1, q2, q3, x0, x1, x2, x3⟩ | exact CELLS.out _ B15.out | exact CELLS.out _ B14.out | exact CELLS.out _ B13.out | exact CELLS.out _ B12.out | exact CELLS.out _ B11.out | exact CELLS.out _ B10.out | exact CELLS.out _ B9.out | exact CELLS.out _ B8.out | exact CELLS.out _ B7.out | exact CELLS.out _ B6.out | exact CELLS.out _ B5.out | exact CELLS.out _ B4.out | exact CELLS.out _ B3.out | exact CELLS.out _ B2.out | exact CELLS.out _ B1.out) (first
            | (go_at_call 8
               with_reducible refine (CO.out W.drew (HKX.out.step D0.out)).mono ?_
               rintro e v1 ⟨y1, z1, rfl, hr, hb⟩
               have H1 := Lib.hid hb
               have B1 := Lib.hid (D0.out.trans (hb.mono D0.out.size))
               have R1 := Lib.hid hr
               have cc1 := CELLS.out _ B1.out
               clear hb hr)
            | (go_at_call 12
               with_reducible refine (NT.out _ v1 y1 z1 R1.out).mono ?_
               rintro e v2 ⟨rfl, hb⟩
               have H2 := Lib.hid hb
               have B2 := Lib.hid (B1.out.trans (hb.mono B1.out.size))
               have cc2 := CELLS.out _ B2.out
               clear hb)
            | (go_at_call 8
               with_reducible refine (OX.out _ v2 ax cx (HRX.out.kept B2.out)).mono ?_
               rintro e v3 ⟨y3, z3, rfl, hr, hb⟩
               have H3 := Lib.hid hb
               have B3 := Lib.hid (B2.out.trans (hb.mono B2.out.size))
               have R3 := Lib.hid hr
               have cc3 := CELLS.out _ B3.out
               clear hb hr)
            | (go_at_call 7
               with_reducible refine (CX.out _ v3 y3 z3 R3.out).mono ?_
               rintro e v4 ⟨rfl, hb⟩
               have H4 := Lib.hid hb
               have B4 := Lib.hid (B3.out.trans (hb.mono B3.out.size))
               have cc4 := CELLS.out _ B4.out
               clear hb)
            | (go_at_call 8
               with_reducible refine (OX.out _ v4 ax cx (HRX.out.kept B4.out)).mono ?_
               rintro e v5 ⟨y5, z5, rfl, hr, hb⟩
               have H5 := Lib.hid hb
               have B5 := Lib.hid (B4.out.trans (hb.mono B4.out.size))
               have R5 := Lib.hid hr
               have cc5 := CELLS.out _ B5.out
               clear hb hr)
            | (go_at_call 8
               with_reducible refine (CO.out v5 (HKX.out.step B5.out)).mono ?_
               rintro e v6 ⟨y6, z6, rfl, hr, hb⟩
               have H6 := Lib.hid hb
               have B6 := Lib.hid (B5.out.trans (hb.mono B5.out.size))
               have R6 := Lib.hid hr
               have cc6 := CELLS.out _ B6.out
               clear hb hr)
            | (go_at_call 13
               with_reducible refine (SX.out _ _ v6 y5 z5 y6 z6 (R5.out.kept H6.out) R6.out).mono ?_
               rintro e v7 ⟨rfl, hb⟩
               have H7 := Lib.hid hb
               have B7 := Lib.hid (B6.out.trans (hb.mono B6.out.size))
               have cc7 := CELLS.out _ B7.out
               clear hb)
            | (go_at_call 14
               with_reducible refine (PS.out v7 (HKX.out.step B7.out)).mono ?_
               rintro e v8 ⟨rfl, hb⟩
               have H8 := Lib.hid hb
               have B8 := Lib.hid (B7.out.trans (hb.mono B7.out.size))
               have cc8 := CELLS.out _ B8.out
               clear hb)
            | (go_at_call 8
               with_reducible refine (CO.out v8 (HKX.out.step B8.out)).mono ?_
               rintro e v9 ⟨y9, z9, rfl, hr, hb⟩
               have H9 := Lib.hid hb
               have B9 := Lib.hid (B8.out.trans (hb.mono B8.out.size))
               have R9 := Lib.hid hr
               have cc9 := CELLS.out _ B9.out
               clear hb hr)
            | (go_at_call 8
               with_reducible refine (CU.out v9 (HKX.out.step B9.out)).mono ?_
               rintro e v10 ⟨y10, z10, rfl, hr, hb⟩
               have H10 := Lib.hid hb
               have B10 := Lib.hid (B9.out.trans (hb.mono B9.out.size))
               have R10 := Lib.hid hr
               have cc10 := CELLS.out _ B10.out
               clear hb hr)
            | (go_at_call 13
               with_reducible refine (SU.out _ _ v10 y9 z9 y10 z10 (R9.out.kept H10.out) R10.out).mono ?_
               rintro e v11 ⟨rfl, hb⟩
               have H11 := Lib.hid hb
               have B11 := Lib.hid (B10.out.trans (hb.mono B10.out.size))
               have cc11 := CELLS.out _ B11.out
               clear hb)
            | (go_at_call 16
               with_reducible refine (PN.out v11 (HKX.out.step B11.out)).mono ?_
               rintro e v12 ⟨y12, z12, rfl, hr, hb⟩
               have H12 := Lib.hid hb
               have B12 := Lib.hid (B11.out.trans (hb.mono B11.out.size))
               have R12 := Lib.hid hr
               have cc12 := CELLS.out _ B12.out
               clear hb hr)
            | (go_at_call 8
               with_reducible refine (CO.out v12 (HKX.out.step B12.out)).mono ?_
               rintro e v13 ⟨y13, z13, rfl, hr, hb⟩
               have H13 := Lib.hid hb
               have B13 := Lib.hid (B12.out.trans (hb.mono B12.out.size))
               have R13 := Lib.hid hr
               have cc13 := CELLS.out _ B13.out
               clear hb hr)
            | (go_at_call 17
               with_reducible refine (RN.out _ v13 y13 z13 R13.out).mono ?_
               rintro e v14 ⟨y14, z14, rfl, hr, hb⟩
               have H14 := Lib.hid hb
               have B14 := Lib.hid (B13.out.trans (hb.mono B13.out.size))
               have R14 := Lib.hid hr
               have cc14 := CELLS.out _ B14.out
               clear hb hr)
            | (go_at_call 15
               with_reducible refine (TS.out v14 y12 z12 y14 z14 ((R12.out.kept H13.out).kept H14.out) R14.out).mono ?_
               rintro e v15 ⟨rfl, hb⟩
               have H15 := Lib.hid hb
               have B15 := Lib.hid (B14.out.trans (hb.mono B14.out.size))
               have cc15 := CELLS.out _ B15.out
               clear hb)
            | fail)
          have HE := Lib.hid ((HKX.out.step B15.out).k.b)
          clear CELLS m0 m1 m2 m3 q0 q1 q2 q3 x0 x1 x2 x3
          go_wp2_with fail
          go_ret
          exact ⟨rfl, HE.out⟩
        · have e1 : (fr == 0) = false := by simpa using h1
          have e2 : (fr != 0) = true := by simpa using h1
          go_wp2_with fail
          go_ret
          exact ⟨rfl, K8.out.k.b⟩
      · have e1 : (er == 0) = false := by simpa using h0
        have e2 : (er != 0) = true := by simpa using h0
        go_wp2_with fail
        go_ret
        exact ⟨rfl, K6.out.k.b⟩
    · rw [decide_eq_false h61] at F2
      clear h61
      go_wp2_with fail
      refine F2.out.mono ?_
      rintro e w3 ⟨rfl, hb⟩
      have K3 := Lib.hid (K2.out.step hb)
      clear hb
      go_wp2_with fail
      go_ret
      exact ⟨rfl, K3.out.k.b⟩
  · rw [decide_eq_false h60] at F1
    clear h60
    go_wp2_with fail
    refine F1.out.mono ?_
    rintro e w2 ⟨rfl, hb⟩
    have K2 := Lib.hid (K1.out.step hb)
    clear hb
    go_wp2_with fail
    go_ret
    exact ⟨rfl, K2.out.k.b⟩

end Go.Proofs.YtcmcnmmhkpolcaaGreatDoor
