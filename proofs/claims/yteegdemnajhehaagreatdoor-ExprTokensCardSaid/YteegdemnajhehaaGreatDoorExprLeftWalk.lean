/-
  No statement: ExprLeft's walk.
-/
import Derived.Test.YteegdemnajhehaaGreatDoorELeftP
namespace Go.Proofs.YteegdemnajhehaaGreatDoor
open Go.RowKit

/-- What the walk keeps of a tree in a block. -/
structure KT9 (w : World) (b : Nat) (t : TN) (a : Option Addr) (c : Nat) (V : World) : Prop where
  n : V.heap[b]? = some (ndG t.op t.nm t.n a t.ks.len c)
  r : ReadsK w.heap.size V a t.ks
theorem KT9.step {w V V' : World} {b : Nat} {t : TN} {a : Option Addr} {c : Nat} (h : KT9 w b t a c V) (hb : Below V.heap.size V V') : KT9 w b t a c V' :=
  ⟨(hb.block _ (Array.getElem?_eq_some_iff.1 h.n).1).trans h.n, h.r.kept hb⟩
/-- All else: below, the library's variables. -/
structure KB9 (w V : World) : Prop where
  b : Below w.heap.size w V
  l : Laid9 V
  z : w.heap.size ≤ V.heap.size
theorem KB9.step {w V V' : World} (h : KB9 w V) (hb : Below V.heap.size V V') : KB9 w V' := ⟨h.b.trans (hb.mono h.z), h.l.step hb, Nat.le_trans h.z hb.size⟩

/-- A tree parsed, laid into a block. -/
theorem kt9_new {w V V' : World} {t : TN} {a : Option Addr} {c : Nat} (hz : w.heap.size ≤ V.heap.size) (hr : ReadsK V.heap.size V' a t.ks) : KT9 w V'.heap.size t a c (V'.alloc (ndG t.op t.nm t.n a t.ks.len c)) :=
  ⟨heap_alloc_new V' _, (hr.kept ((Below.refl V'.heap.size V').alloc (Nat.le_refl _) _)).mono hz⟩

set_option maxHeartbeats 8000000 in
set_option maxRecDepth 100000 in
theorem exprLeft_walk (o1 o2 : Nat) (_h1 : o1 < 256) (_h2 : o2 < 256) (w : World) (hw : Laid9 w) : Calls Tryz.prog 7 #[.int .u8 o1, .int .u8 o2] w fun e w' => e = .returned (.bool true) ∧ Below w.heap.size w w' := by
  have KN := Lib.hid (known9_any w hw)
  have LD := Lib.hid hw
  obtain ⟨i, hi⟩ : ∃ i, o1 % 5 = i := ⟨_, rfl⟩
  obtain ⟨j, hj⟩ : ∃ j, o2 % 5 = j := ⟨_, rfl⟩
  have hi5 : i < 5 := by omega
  have hj5 : j < 5 := by omega
  have ei : (o1 : Int) % 5 = (i : Int) := by omega
  have ej : (o2 : Int) % 5 = (j : Int) := by omega
  have ti : ((i : Int)).toNat = i := by omega
  have tj : ((j : Int)).toNat = j := by omega
  have li : (i : Int) < 5 := by omega
  have lj : (j : Int) < 5 := by omega
  have gi : (0 : Int) ≤ (i : Int) := by omega
  have gj : (0 : Int) ≤ (j : Int) := by omega
  obtain ⟨pa, pb, pc⟩ := left_px i j hi5 hj5
  have PA := Lib.hid pa
  have PB := Lib.hid pb
  have PC := Lib.hid pc
  have SR := Lib.hid (left_sameR i j hi5 hj5)
  have SL := Lib.hid (left_sameL i j hi5 hj5)
  have D1 : decide ((i : Int) < 2) = decide (i < 2) := by
    by_cases h : i < 2
    · rw [decide_eq_true h, decide_eq_true (by omega)]
    · rw [decide_eq_false h, decide_eq_false (by omega)]
  have HI := Lib.hid (And.intro hi5 hj5)
  clear hw hi hj pa pb pc D1
  go_enter Tryz.func7, Tryz.ntmps7
  go_wp2_with fail
  refine KN.out.mono ?_
  rintro e w1 ⟨rfl, hb1⟩
  have K1 : KB9 w w1 := ⟨hb1, LD.out.step hb1, hb1.size⟩
  have BA := (Below.refl w1.heap.size w1).alloc (Nat.le_refl _) (.cells #[.string ⟨#[43]⟩, .string ⟨#[45]⟩, .string ⟨#[42]⟩, .string ⟨#[47]⟩, .string ⟨#[37]⟩] 9)
  have NA := heap_alloc_new w1 (.cells #[.string ⟨#[43]⟩, .string ⟨#[45]⟩, .string ⟨#[42]⟩, .string ⟨#[47]⟩, .string ⟨#[37]⟩] 9)
  have K2 := K1.step BA
  have at_ : ∀ k, k < 5 → (w1.alloc (.cells #[.string ⟨#[43]⟩, .string ⟨#[45]⟩, .string ⟨#[42]⟩, .string ⟨#[47]⟩, .string ⟨#[37]⟩] 9)).cell? ⟨w1.heap.size, k, none⟩ = some (.string ⟨#[sB k]⟩) := fun k hk => by
    rw [cell_of_row _ _ _ _ _ (0, 0) NA]
    rcases five_cases hk with rfl | rfl | rfl | rfl | rfl <;> rfl
  have ci := at_ i hi5
  have cj := at_ j hj5
  generalize hW : w1.alloc (.cells #[.string ⟨#[43]⟩, .string ⟨#[45]⟩, .string ⟨#[42]⟩, .string ⟨#[47]⟩, .string ⟨#[37]⟩] 9) = W at K2 ci cj
  have HW := Lib.hid hW
  have HK2 := Lib.hid K2
  obtain ⟨P, hP⟩ : ∃ P, sB i = P := ⟨_, rfl⟩
  obtain ⟨Q, hQ⟩ : ∃ Q, sB j = Q := ⟨_, rfl⟩
  rw [hP] at ci
  rw [hQ] at cj
  rw [hP, hQ] at PA PB PC
  have A1 := Lib.hid (p := ∀ V, Laid V → Calls Tryz.prog 10 #[.string (⟨#[97, 32]⟩ ++ ⟨#[P]⟩ ++ ⟨#[32, 98, 32]⟩ ++ ⟨#[Q]⟩ ++ ⟨#[32, 99]⟩)] V (PxPost (.ok (n1 i j)) V)) (fun V hV => by
    have h := pParse_any (⟨#[97, 32]⟩ ++ ⟨#[P]⟩ ++ ⟨#[32, 98, 32]⟩ ++ ⟨#[Q]⟩ ++ ⟨#[32, 99]⟩) (by simp [ByteArray.size_append]; simp [ByteArray.size]) V hV
    have e : (⟨#[97, 32]⟩ ++ ⟨#[P]⟩ ++ ⟨#[32, 98, 32]⟩ ++ ⟨#[Q]⟩ ++ ⟨#[32, 99]⟩ : ByteArray).data.toList = tx1 P Q := by simp [tx1]
    rw [e, PA.out] at h
    exact h)
  have A2 := Lib.hid (p := ∀ V, Laid V → Calls Tryz.prog 10 #[.string (⟨#[97, 32]⟩ ++ ⟨#[P]⟩ ++ ⟨#[32, 40, 98, 32]⟩ ++ ⟨#[Q]⟩ ++ ⟨#[32, 99, 41]⟩)] V (PxPost (.ok (nR i j)) V)) (fun V hV => by
    have h := pParse_any (⟨#[97, 32]⟩ ++ ⟨#[P]⟩ ++ ⟨#[32, 40, 98, 32]⟩ ++ ⟨#[Q]⟩ ++ ⟨#[32, 99, 41]⟩) (by simp [ByteArray.size_append]; simp [ByteArray.size]) V hV
    have e : (⟨#[97, 32]⟩ ++ ⟨#[P]⟩ ++ ⟨#[32, 40, 98, 32]⟩ ++ ⟨#[Q]⟩ ++ ⟨#[32, 99, 41]⟩ : ByteArray).data.toList = tx2 P Q := by simp [tx2]
    rw [e, PB.out] at h
    exact h)
  have A3 := Lib.hid (p := ∀ V, Laid V → Calls Tryz.prog 10 #[.string (⟨#[40, 97, 32]⟩ ++ ⟨#[P]⟩ ++ ⟨#[32, 98, 41, 32]⟩ ++ ⟨#[Q]⟩ ++ ⟨#[32, 99]⟩)] V (PxPost (.ok (nL i j)) V)) (fun V hV => by
    have h := pParse_any (⟨#[40, 97, 32]⟩ ++ ⟨#[P]⟩ ++ ⟨#[32, 98, 41, 32]⟩ ++ ⟨#[Q]⟩ ++ ⟨#[32, 99]⟩) (by simp [ByteArray.size_append]; simp [ByteArray.size]) V hV
    have e : (⟨#[40, 97, 32]⟩ ++ ⟨#[P]⟩ ++ ⟨#[32, 98, 41, 32]⟩ ++ ⟨#[Q]⟩ ++ ⟨#[32, 99]⟩ : ByteArray).data.toList = tx3 P Q := by simp [tx3]
    rw [e, PC.out] at h
    exact h)
  have NR := Lib.hid (And.intro (parse_okT PB.out) (And.intro (parse_nums PB.out) (parse_good PB.out).2))
  have NL := Lib.hid (And.intro (parse_okT PC.out) (And.intro (parse_nums PC.out) (parse_good PC.out).2))
  have N1 := Lib.hid (And.intro (parse_okT PA.out) (And.intro (parse_nums PA.out) (parse_good PA.out).2))
  have RB : rightB i j = (decide ((i : Int) < 2) && decide ((2 : Int) ≤ (j : Int))) := by
    unfold rightB
    congr 1
    · exact decide_eq_decide.2 (by omega)
    · exact decide_eq_decide.2 (by omega)
  have HRB := Lib.hid RB
  generalize n1 i j = t1 at A1 N1 SR SL
  generalize nR i j = tR at A2 NR SR
  generalize nL i j = tL at A3 NL SL
  clear hb1 K1 BA NA K2 at_ hW hP hQ KN PA PB PC RB HI
  have ti' : (((o1 : Int) % 5)).toNat = i := by omega
  have tj' : (((o2 : Int) % 5)).toNat = j := by omega
  have gi' : (0 : Int) ≤ (o1 : Int) % 5 := by omega
  have gj' : (0 : Int) ≤ (o2 : Int) % 5 := by omega
  have li' : (o1 : Int) % 5 < 5 := by omega
  have lj' : (o2 : Int) % 5 < 5 := by omega
  clear ti tj li lj gi gj
  have HEI := Lib.hid ei
  have HEJ := Lib.hid ej
  clear ei ej
  go_upto_region 4 with fail
  rw [HW.out]
  go_upto_region 6 with fail
  go_wp2_with fail
  refine (A1.out _ HK2.out.l.1).mono ?_
  rintro e v2 ⟨hb, a2, c2, rfl, hr⟩
  have BA := (Below.refl v2.heap.size v2).alloc (Nat.le_refl _) (ndG t1.op t1.nm t1.n a2 t1.ks.len c2)
  have T2 := kt9_new (t := t1) (a := a2) (c := c2) HK2.out.z hr
  have K3 := (HK2.out.step hb).step BA
  generalize hW3 : v2.alloc (ndG t1.op t1.nm t1.n a2 t1.ks.len c2) = W3 at T2 K3
  generalize hB2 : v2.heap.size = B2 at T2
  have HB2 := Lib.hid hB2
  have HW3 := Lib.hid hW3
  have HT2 := Lib.hid T2
  have HK3 := Lib.hid K3
  clear hb hr BA T2 K3 hW3 hB2 A1
  go_upto_region 7 with fail
  rw [HW3.out, HB2.out]
  clear HW3 HB2
  go_wp2_with fail
  refine (A2.out _ HK3.out.l.1).mono ?_
  rintro e v3 ⟨hb, a3, c3, rfl, hr⟩
  have BA := (Below.refl v3.heap.size v3).alloc (Nat.le_refl _) (ndG tR.op tR.nm tR.n a3 tR.ks.len c3)
  have T3 := kt9_new (t := tR) (a := a3) (c := c3) HK3.out.z hr
  have K4 := (HK3.out.step hb).step BA
  have T2 := (HT2.out.step hb).step BA
  generalize hW4 : v3.alloc (ndG tR.op tR.nm tR.n a3 tR.ks.len c3) = W4 at T2 T3 K4
  generalize hB3 : v3.heap.size = B3 at T3
  have HB3 := Lib.hid hB3
  have HW4 := Lib.hid hW4
  have HT2' := Lib.hid T2
  have HT3 := Lib.hid T3
  have HK4 := Lib.hid K4
  clear hb hr BA T2 T3 K4 hW4 hB3 A2 HT2 HK3
  go_upto_region 8 with fail
  rw [HW4.out, HB3.out]
  clear HW4 HB3
  go_wp2_with fail
  refine (A3.out _ HK4.out.l.1).mono ?_
  rintro e v4 ⟨hb, a4, c4, rfl, hr⟩
  have BA := (Below.refl v4.heap.size v4).alloc (Nat.le_refl _) (ndG tL.op tL.nm tL.n a4 tL.ks.len c4)
  have T4 := kt9_new (t := tL) (a := a4) (c := c4) HK4.out.z hr
  have K5 := (HK4.out.step hb).step BA
  have T2 := (HT2'.out.step hb).step BA
  have T3 := (HT3.out.step hb).step BA
  generalize hW5 : v4.alloc (ndG tL.op tL.nm tL.n a4 tL.ks.len c4) = W5 at T2 T3 T4 K5
  generalize hB4 : v4.heap.size = B4 at T4
  have HB4 := Lib.hid hB4
  have HW5 := Lib.hid hW5
  have HT2 := Lib.hid T2
  have HT3' := Lib.hid T3
  have HT4 := Lib.hid T4
  have HK5 := Lib.hid K5
  clear hb hr BA T2 T3 T4 K5 hW5 hB4 A3 HT2' HT3 HK4
  go_upto_region 11 with fail
  rw [HW5.out, HB4.out]
  clear HW5 HB4
  have key : ∀ b, rightB i j = b → Calls Tryz.prog 23 #[nodeV t1.op t1.nm t1.n a2 t1.ks.len c2, nodeV tR.op tR.nm tR.n a3 tR.ks.len c3] W5 (fun e w' => e = .returned (.bool b) ∧ Below W5.heap.size W5 w') := fun b hb => by
    have h := pSame_any t1 tR (fun b => w.heap.size ≤ b) (fun b => w.heap.size ≤ b) W5 a2 a3 c2 c3 N1.out.1 N1.out.2.1 N1.out.2.2 NR.out.1 NR.out.2.1 NR.out.2.2 HT2.out.r HT3'.out.r
    rw [SR.out, hb] at h
    exact h
  have key2 : ∀ b W6, Below W5.heap.size W5 W6 → rightB i j = b → Calls Tryz.prog 23 #[nodeV t1.op t1.nm t1.n a2 t1.ks.len c2, nodeV tL.op tL.nm tL.n a4 tL.ks.len c4] W6 (fun e w' => e = .returned (.bool (!b)) ∧ Below W6.heap.size W6 w') := fun b W6 hB hb => by
    have h := pSame_any t1 tL (fun b => w.heap.size ≤ b) (fun b => w.heap.size ≤ b) W6 a2 a4 c2 c4 N1.out.1 N1.out.2.1 N1.out.2.2 NL.out.1 NL.out.2.1 NL.out.2.2 (HT2.out.step hB).r (HT4.out.step hB).r
    rw [SL.out, hb] at h
    exact h
  have KEY := Lib.hid key
  have KEY2 := Lib.hid key2
  clear key key2 SR SL NR NL N1
  obtain ⟨⟨x0, x1, x2, x3⟩, -⟩ := four HT2.out.n
  obtain ⟨⟨y0, y1, y2, y3⟩, -⟩ := four HT3'.out.n
  have hR : rightB i j = (decide ((o1 : Int) % 5 < 2) && decide (2 ≤ (o2 : Int) % 5)) := by
    rw [HRB.out, HEI.out, HEJ.out]
  clear HRB
  by_cases b1 : (o1 : Int) % 5 < 2
  · by_cases b2 : 2 ≤ (o2 : Int) % 5
    · have hb : rightB i j = true := by rw [hR, decide_eq_true b1, decide_eq_true b2]; rfl
      have C1 := Lib.hid (KEY.out _ hb)
      have C2 := Lib.hid (fun W6 h => KEY2.out _ W6 h hb)
      clear hb hR KEY KEY2
      go_wp2_with fail
      refine C1.out.mono ?_
      rintro e w6 ⟨rfl, hb6⟩
      have HB6 := Lib.hid hb6
      have HT2'' := Lib.hid (HT2.out.step hb6)
      have HT4'' := Lib.hid (HT4.out.step hb6)
      clear hb6 C1 x0 x1 x2 x3 y0 y1 y2 y3
      obtain ⟨⟨x0, x1, x2, x3⟩, -⟩ := four HT2''.out.n
      obtain ⟨⟨y0, y1, y2, y3⟩, -⟩ := four HT4''.out.n
      go_wp2_with fail
      refine (C2.out w6 HB6.out).mono ?_
      rintro e w7 ⟨rfl, hb7⟩
      have HE := Lib.hid (((HK5.out.step HB6.out).step hb7).b)
      clear hb7 C2
      go_wp2_with fail
      go_ret
      exact ⟨rfl, HE.out⟩
    · have hb : rightB i j = false := by rw [hR, decide_eq_false b2, Bool.and_false]
      have C1 := Lib.hid (KEY.out _ hb)
      have C2 := Lib.hid (fun W6 h => KEY2.out _ W6 h hb)
      clear hb hR KEY KEY2
      go_wp2_with fail
      refine C1.out.mono ?_
      rintro e w6 ⟨rfl, hb6⟩
      have HB6 := Lib.hid hb6
      have HT2'' := Lib.hid (HT2.out.step hb6)
      have HT4'' := Lib.hid (HT4.out.step hb6)
      clear hb6 C1 x0 x1 x2 x3 y0 y1 y2 y3
      obtain ⟨⟨x0, x1, x2, x3⟩, -⟩ := four HT2''.out.n
      obtain ⟨⟨y0, y1, y2, y3⟩, -⟩ := four HT4''.out.n
      go_wp2_with fail
      refine (C2.out w6 HB6.out).mono ?_
      rintro e w7 ⟨rfl, hb7⟩
      have HE := Lib.hid (((HK5.out.step HB6.out).step hb7).b)
      clear hb7 C2
      go_wp2_with fail
      go_ret
      exact ⟨rfl, HE.out⟩
  · have hb : rightB i j = false := by rw [hR, decide_eq_false b1, Bool.false_and]
    have C1 := Lib.hid (KEY.out _ hb)
    have C2 := Lib.hid (fun W6 h => KEY2.out _ W6 h hb)
    clear hb hR KEY KEY2
    go_wp2_with fail
    refine C1.out.mono ?_
    rintro e w6 ⟨rfl, hb6⟩
    have HB6 := Lib.hid hb6
    have HT2'' := Lib.hid (HT2.out.step hb6)
    have HT4'' := Lib.hid (HT4.out.step hb6)
    clear hb6 C1 x0 x1 x2 x3 y0 y1 y2 y3
    obtain ⟨⟨x0, x1, x2, x3⟩, -⟩ := four HT2''.out.n
    obtain ⟨⟨y0, y1, y2, y3⟩, -⟩ := four HT4''.out.n
    go_wp2_with fail
    refine (C2.out w6 HB6.out).mono ?_
    rintro e w7 ⟨rfl, hb7⟩
    have HE := Lib.hid (((HK5.out.step HB6.out).step hb7).b)
    clear hb7 C2
    go_wp2_with fail
    go_ret
    exact ⟨rfl, HE.out⟩

end Go.Proofs.YteegdemnajhehaaGreatDoor
