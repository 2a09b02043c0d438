/-
 No statement: what AggTurnedCard needs, of the texts QCheck, QCond.
-/
import Derived.Test.YtapcjnoaofmmiaaGreatDoorVU13
namespace Go.Proofs.YtapcjnoaofmmiaaGreatDoor
section
open Go.RowKit
theorem Jg {x : AG} {a b : List UInt8} (h : (x.fn.data.toList == a) = true) (hne : a ≠ b) : (x.fn.data.toList == b) = false := by
 rw [beq_iff_eq] at h;rw [h];exact beq_eq_false_iff_ne.2 hne
set_option maxHeartbeats 16000000 in
theorem t6 {G : Nat -> Prop} (x : AG) (p : PA) (w : World) (hS : SzG x) (hr : aJ G w x p) : Calls Tryz.prog 11 #[agV x p] w fun e w' => e = .returned (.int .i64 (iD x)) /\ Below w.heap.size w w' := by
 have K0 := JL hr;generalize hW : w.alloc (agO x p) = W at K0;have HW := aA hW;have HK := aA K0;have HS := aA hS;have FA := aA (fun V => Dy x.fn V);obtain ⟨r, hR⟩ : ∃ r, iD x = r := ⟨_, rfl⟩;rw [hR];unfold iD at hR;clear hW K0 hr hS;obtain ⟨m0, m1, m2, m3, m4, m5, m6, m7, m8, m9, m10⟩ := aD HK.out.n
 go_enter Tryz.func11, Tryz.ntmps11
 go_upto_region 1 with fail
 rw [HW.out]
 go_wp2_with fail
 refine (FA.out _).mono ?_;rintro e v0 ⟨rfl, rfl⟩;cases hfn : cZ x.fn.data.toList with
 | false =>
   have TR := aA (show (5 : Int) = r by rw [<- hR, hfn, if_pos rfl]);clear hR
   go_wp2_with fail
   go_ret;exact ⟨congrArg (fun z => Ending.returned (.int .i64 z)) TR.out, HK.out.b⟩
 | true =>
   rw [hfn, if_neg (by decide)] at hR;clear hfn FA;cases ht : (x.fn.data.toList == eJ) with
   | true =>
     have f1 := Jg ht (b := aN) (by decide);have f2 := Jg ht (b := aT) (by decide);have g0 := bV ht;have g1 := aH f1;have g2 := aH f2;have ht' : x.fn.data.toList = eJ := by simpa using ht
     have EE : gR x = aI x.e := by
      unfold gR;rw [if_neg (show ¬ x.fn.data.toList = aN by simpa using f1), if_neg (show ¬ x.fn.data.toList = aT by simpa using f2)]
      by_cases h : aI x.e = 0
      · rw [if_pos h, h]
      · rw [if_neg h]
     have HEE := aA EE
     by_cases hk : x.k < 1 \/ 16 < x.k
     · have TR := aA (show (1 : Int) = r by rw [<- hR, if_pos ⟨ht', hk⟩])
       clear hR EE ht' ht f1 f2;unfold eJ at g0
       rcases hk with hk | hk
       · go_wp2_with fail
         go_ret;exact ⟨congrArg (fun z => Ending.returned (.int .i64 z)) TR.out, HK.out.b⟩
       · have hk1 : ¬ x.k < 1 := by omega
         go_wp2_with fail
         go_ret;exact ⟨congrArg (fun z => Ending.returned (.int .i64 z)) TR.out, HK.out.b⟩
     · rw [if_neg (fun h => hk h.2)] at hR
       have HT := aA hR;have hk1 : ¬ x.k < 1 := fun h => hk (.inl h)
       have hk2 : ¬ 16 < x.k := fun h => hk (.inr h)
       have hk3 : decide (x.k < 1) = false := decide_eq_false hk1;have hk4 : decide (16 < x.k) = false := decide_eq_false hk2;have CE := aA (cS (t := x.e) p.ec HS.out.e HK.out.r.e);clear hR EE ht' ht f1 f2 hk;unfold eJ at g0;unfold aN at g1;unfold aT at g2;obtain ⟨ev, hev⟩ : ∃ e, aI x.e = e := ⟨_, rfl⟩;rw [hev] at CE HEE
       go_wp2_with fail
       refine CE.out.mono ?_;rintro e v1 ⟨rfl, hb⟩;have K1 := aA (HK.out.step hb);clear hb CE hev m0 m1 m2 m3 m4 m5 m6 m7 m8 m9 m10
       by_cases he : ev = 0
       · subst he
         have HE := HEE;have TA := aA (p := (if gR x = 0 then (if 4 < x.wh.length then (4 : Int) else dA x.wh) else gR x) = r) HT.out;obtain ⟨m0, m1, m2, m3, m4, m5, m6, m7, m8, m9, m10⟩ := aD K1.out.n;have TB := aA (show (if 4 < x.wh.length then (4 : Int) else dA x.wh) = r by rw [<- TA.out, HE.out, if_pos rfl])
         by_cases h4 : 4 < x.wh.length
         · have a4 : (4 : Int) < (x.wh.length : Int) := by omega
           have TR := aA (show (4 : Int) = r by rw [<- TB.out, if_pos h4])
           go_wp2_with fail
           go_ret;exact ⟨congrArg (fun z => Ending.returned (.int .i64 z)) TR.out, K1.out.b⟩
         · have a4 : ¬ (4 : Int) < (x.wh.length : Int) := by omega
           have a5 : decide (4 < x.wh.length) = false := decide_eq_false h4;have T0 := aA (show dA (x.wh.drop 0) = r by rw [List.drop_zero, <- TB.out, if_neg h4]);clear TA TB
           go_wp2_with fail
           clear m0 m1 m2 m3 m4 m5 m6 m7 m8 m9 m10
           go_loopw [4, 5, 6, 7] (fun i x5 x6 x7 wr => ∃ (k : Nat) (y5 y6 y7 : Value), i = .int .i64 k /\ x5 = y5 /\ x6 = y6 /\ x7 = y7 /\ k <= x.wh.length /\ Hid (dA (x.wh.drop k) = r) /\ Hid (KA G w x p wr)) (fun i _ _ _ _ => x.wh.length - (intOf i).toNat)
           case atStart => exact ⟨0, _, _, _, rfl, rfl, rfl, rfl, Nat.zero_le _, T0, K1⟩
           case round =>
            obtain ⟨k, y5, y6, y7, rfl, rfl, rfl, rfl, hk, HC, HK⟩ := hrel;obtain ⟨m0, m1, m2, m3, m4, m5, m6, m7, m8, m9, m10⟩ := aD HK.out.n
            by_cases hlt : k < x.wh.length
            · obtain ⟨d, hd⟩ : ∃ d, x.wh[k]? = some d := ⟨_, List.getElem?_eq_getElem hlt⟩
              have hne : ¬ x.wh = [] := fun e => by rw [e] at hlt; simp at hlt
              obtain ⟨b, off, hwa', -, -, hcc⟩ := HK.out.r.c.resolve_left hne;have hwa := aA hwa';clear hwa';obtain ⟨a1, c1, a2, c2, ⟨p0, p1, p2, p3, p4, p5, p6, p7, p8⟩, r1, r2⟩ := hcc k d hd
              have hdr : x.wh.drop k = d :: x.wh.drop (k + 1) := by
               rw [List.drop_eq_getElem_cons hlt];have := List.getElem?_eq_getElem hlt;rw [this] at hd;rw [Option.some.inj hd]
              have hsz := HS.out.c d (List.mem_of_getElem? hd);have HD := aA (show (if (aO d.op 0 0).isSome = false then (5 : Int) else if aI d.a = 0 then (if aI d.b = 0 then dA (x.wh.drop (k + 1)) else aI d.b) else aI d.a) = r by rw [<- HC.out, hdr]; rfl);have A1 := aA (fun V (hV : Below wr.heap.size wr V) => cS (t := d.a) c1 hsz.1 (r1.kept hV));have A2 := aA (fun V (hV : Below wr.heap.size wr V) => cS (t := d.b) c2 hsz.2 (r2.kept hV));have HO := aA (fun V => kU d.op 0 0 V)
              have CE := aA (p := ∀ V, Below wr.heap.size wr V -> (V.cell? ⟨b, off + k * 9, none⟩ = some (.string d.op) /\ V.cell? ⟨b, off + k * 9 + 1, none⟩ = some (.string d.a.op) /\ V.cell? ⟨b, off + k * 9 + 1 + 1, none⟩ = some (.string d.a.nm) /\ V.cell? ⟨b, off + k * 9 + 1 + 2, none⟩ = some (.int .i64 d.a.n) /\ V.cell? ⟨b, off + k * 9 + 1 + 3, none⟩ = some (.slice a1 d.a.ks.len c1) /\ V.cell? ⟨b, off + k * 9 + 5, none⟩ = some (.string d.b.op) /\ V.cell? ⟨b, off + k * 9 + 5 + 1, none⟩ = some (.string d.b.nm) /\ V.cell? ⟨b, off + k * 9 + 5 + 2, none⟩ = some (.int .i64 d.b.n) /\ V.cell? ⟨b, off + k * 9 + 5 + 3, none⟩ = some (.slice a2 d.b.ks.len c2))) (fun V hV => by
               have hbl : b < wr.heap.size := by have := World.block_lt_of_cell? wr _ p0; simpa using this
               exact ⟨(hV.cell (p := ⟨b, _, none⟩) hbl).trans p0, (hV.cell (p := ⟨b, _, none⟩) hbl).trans p1, (hV.cell (p := ⟨b, _, none⟩) hbl).trans p2, (hV.cell (p := ⟨b, _, none⟩) hbl).trans p3, (hV.cell (p := ⟨b, _, none⟩) hbl).trans p4, (hV.cell (p := ⟨b, _, none⟩) hbl).trans p5, (hV.cell (p := ⟨b, _, none⟩) hbl).trans p6, (hV.cell (p := ⟨b, _, none⟩) hbl).trans p7, (hV.cell (p := ⟨b, _, none⟩) hbl).trans p8⟩)
              obtain ⟨z, hz⟩ : ∃ z, (aO d.op 0 0).isSome = z := ⟨_, rfl⟩;obtain ⟨y, hy⟩ : ∃ y, (aO d.op 0 0).getD false = y := ⟨_, rfl⟩;obtain ⟨e1, he1⟩ : ∃ e, aI d.a = e := ⟨_, rfl⟩;obtain ⟨e2, he2⟩ : ∃ e, aI d.b = e := ⟨_, rfl⟩;rw [hz, hy] at HO;rw [hz, he1, he2] at HD;rw [he1] at A1;rw [he2] at A2;rw [hwa.out] at m10;have b1 : (k : Int) < (x.wh.length : Int) := by omega
              have b2 : (0 : Int) <= (k : Int) := by omega
              have b3 : ((k : Int)).toNat = k := by omega
              clear hd hne hcc hdr hsz r1 r2 hz hy he1 he2
              go_wp2_with fail
              refine (HO.out _).mono ?_;rintro e v1 ⟨rfl, rfl⟩;cases z with
              | false =>
                have TR := aA (show (5 : Int) = r by rw [<- HD.out]; rfl)
                go_wp2_with fail
                go_ret;exact ⟨congrArg (fun z => Ending.returned (.int .i64 z)) TR.out, HK.out.b⟩
              | true =>
                have HD1 := aA (show (if e1 = 0 then (if e2 = 0 then dA (x.wh.drop (k + 1)) else e2) else e1) = r by rw [<- HD.out]; rfl);clear HD
                go_wp2_with fail
                refine (A1.out wr (Below.refl _ _)).mono ?_;rintro e v2 ⟨rfl, hb⟩;have K2 := aA (HK.out.step hb);have B2 := aA hb;clear hb p0 p1 p2 p3 p4 p5 p6 p7 p8 m0 m1 m2 m3 m4 m5 m6 m7 m8 m9 m10;obtain ⟨m0, m1, m2, m3, m4, m5, m6, m7, m8, m9, m10⟩ := aD K2.out.n;obtain ⟨p0, p1, p2, p3, p4, p5, p6, p7, p8⟩ := CE.out v2 B2.out;rw [hwa.out] at m10
                by_cases he : e1 = 0
                · subst he
                  have HD2 := aA (show (if e2 = 0 then dA (x.wh.drop (k + 1)) else e2) = r by rw [<- HD1.out, if_pos rfl]);clear HD1
                  go_wp2_with fail
                  refine (A2.out v2 B2.out).mono ?_;rintro e v3 ⟨rfl, hb⟩;have K3 := aA (K2.out.step hb);clear hb
                  by_cases he : e2 = 0
                  · subst he
                    have HD3 := aA (show dA (x.wh.drop (k + 1)) = r by rw [<- HD2.out, if_pos rfl])
                    go_wp2_with fail
                    go_roundw
                    case rel => exact ⟨k + 1, _, _, _, by go_num, rfl, rfl, rfl, by omega, HD3, K3⟩
                    case measure => simp [intOf]; omega
                  · have q1 : (e2 == 0) = false := by simpa using he
                    have q2 : (e2 != 0) = true := by simpa using he
                    have TR := aA (show e2 = r by rw [<- HD2.out, if_neg he])
                    go_wp2_with fail
                    go_ret;exact ⟨congrArg (fun z => Ending.returned (.int .i64 z)) TR.out, K3.out.b⟩
                · have q1 : (e1 == 0) = false := by simpa using he
                  have q2 : (e1 != 0) = true := by simpa using he
                  have TR := aA (show e1 = r by rw [<- HD1.out, if_neg he])
                  go_wp2_with fail
                  go_ret;exact ⟨congrArg (fun z => Ending.returned (.int .i64 z)) TR.out, K2.out.b⟩
            · have TR := aA (show (0 : Int) = r by rw [<- HC.out, List.drop_of_length_le (by omega)]; rfl)
              have b1 : ¬ (k : Int) < (x.wh.length : Int) := by omega
              go_wp2_with fail
              go_ret;exact ⟨congrArg (fun z => Ending.returned (.int .i64 z)) TR.out, HK.out.b⟩
       · have q1 : (ev == 0) = false := by simpa using he
         have q2 : (ev != 0) = true := by simpa using he
         have TR := aA (show ev = r by rw [<- HT.out, HEE.out, if_neg he]);obtain ⟨m0, m1, m2, m3, m4, m5, m6, m7, m8, m9, m10⟩ := aD K1.out.n
         go_wp2_with fail
         go_ret;exact ⟨congrArg (fun z => Ending.returned (.int .i64 z)) TR.out, K1.out.b⟩
   | false =>
     have ht' : ¬ x.fn.data.toList = eJ := by simpa using ht
     rw [if_neg (fun h => ht' h.1)] at hR;have HT := aA hR;have g0 := aH ht;unfold eJ at g0;clear hR ht';cases hc : (x.fn.data.toList == aN) with
     | true =>
       have HE := aA (show gR x = 0 by unfold gR; rw [if_pos (show x.fn.data.toList = aN by simpa using hc)]);have g1 := bV hc;unfold aN at g1;clear hc ht;clear m1 m2 m3 m4 m5 m6 m7 m8 m9 m10;have TA := aA (p := (if gR x = 0 then (if 4 < x.wh.length then (4 : Int) else dA x.wh) else gR x) = r) HT.out;obtain ⟨-, m1, m2, m3, m4, m5, m6, m7, m8, m9, m10⟩ := aD HK.out.n;have TB := aA (show (if 4 < x.wh.length then (4 : Int) else dA x.wh) = r by rw [<- TA.out, HE.out, if_pos rfl])
       by_cases h4 : 4 < x.wh.length
       · have a4 : (4 : Int) < (x.wh.length : Int) := by omega
         have TR := aA (show (4 : Int) = r by rw [<- TB.out, if_pos h4])
         go_wp2_with fail
         go_ret;exact ⟨congrArg (fun z => Ending.returned (.int .i64 z)) TR.out, HK.out.b⟩
       · have a4 : ¬ (4 : Int) < (x.wh.length : Int) := by omega
         have a5 : decide (4 < x.wh.length) = false := decide_eq_false h4;have T0 := aA (show dA (x.wh.drop 0) = r by rw [List.drop_zero, <- TB.out, if_neg h4]);clear TA TB
         go_wp2_with fail
         clear m0 m1 m2 m3 m4 m5 m6 m7 m8 m9 m10
         go_loopw [4, 5, 6, 7] (fun i x5 x6 x7 wr => ∃ (k : Nat) (y5 y6 y7 : Value), i = .int .i64 k /\ x5 = y5 /\ x6 = y6 /\ x7 = y7 /\ k <= x.wh.length /\ Hid (dA (x.wh.drop k) = r) /\ Hid (KA G w x p wr)) (fun i _ _ _ _ => x.wh.length - (intOf i).toNat)
         case atStart => exact ⟨0, _, _, _, rfl, rfl, rfl, rfl, Nat.zero_le _, T0, HK⟩
         case round =>
          obtain ⟨k, y5, y6, y7, rfl, rfl, rfl, rfl, hk, HC, HK⟩ := hrel;obtain ⟨m0, m1, m2, m3, m4, m5, m6, m7, m8, m9, m10⟩ := aD HK.out.n
          by_cases hlt : k < x.wh.length
          · obtain ⟨d, hd⟩ : ∃ d, x.wh[k]? = some d := ⟨_, List.getElem?_eq_getElem hlt⟩
            have hne : ¬ x.wh = [] := fun e => by rw [e] at hlt; simp at hlt
            obtain ⟨b, off, hwa', -, -, hcc⟩ := HK.out.r.c.resolve_left hne;have hwa := aA hwa';clear hwa';obtain ⟨a1, c1, a2, c2, ⟨p0, p1, p2, p3, p4, p5, p6, p7, p8⟩, r1, r2⟩ := hcc k d hd
            have hdr : x.wh.drop k = d :: x.wh.drop (k + 1) := by
             rw [List.drop_eq_getElem_cons hlt];have := List.getElem?_eq_getElem hlt;rw [this] at hd;rw [Option.some.inj hd]
            have hsz := HS.out.c d (List.mem_of_getElem? hd);have HD := aA (show (if (aO d.op 0 0).isSome = false then (5 : Int) else if aI d.a = 0 then (if aI d.b = 0 then dA (x.wh.drop (k + 1)) else aI d.b) else aI d.a) = r by rw [<- HC.out, hdr]; rfl);have A1 := aA (fun V (hV : Below wr.heap.size wr V) => cS (t := d.a) c1 hsz.1 (r1.kept hV));have A2 := aA (fun V (hV : Below wr.heap.size wr V) => cS (t := d.b) c2 hsz.2 (r2.kept hV));have HO := aA (fun V => kU d.op 0 0 V)
            have CE := aA (p := ∀ V, Below wr.heap.size wr V -> (V.cell? ⟨b, off + k * 9, none⟩ = some (.string d.op) /\ V.cell? ⟨b, off + k * 9 + 1, none⟩ = some (.string d.a.op) /\ V.cell? ⟨b, off + k * 9 + 1 + 1, none⟩ = some (.string d.a.nm) /\ V.cell? ⟨b, off + k * 9 + 1 + 2, none⟩ = some (.int .i64 d.a.n) /\ V.cell? ⟨b, off + k * 9 + 1 + 3, none⟩ = some (.slice a1 d.a.ks.len c1) /\ V.cell? ⟨b, off + k * 9 + 5, none⟩ = some (.string d.b.op) /\ V.cell? ⟨b, off + k * 9 + 5 + 1, none⟩ = some (.string d.b.nm) /\ V.cell? ⟨b, off + k * 9 + 5 + 2, none⟩ = some (.int .i64 d.b.n) /\ V.cell? ⟨b, off + k * 9 + 5 + 3, none⟩ = some (.slice a2 d.b.ks.len c2))) (fun V hV => by
             have hbl : b < wr.heap.size := by have := World.block_lt_of_cell? wr _ p0; simpa using this
             exact ⟨(hV.cell (p := ⟨b, _, none⟩) hbl).trans p0, (hV.cell (p := ⟨b, _, none⟩) hbl).trans p1, (hV.cell (p := ⟨b, _, none⟩) hbl).trans p2, (hV.cell (p := ⟨b, _, none⟩) hbl).trans p3, (hV.cell (p := ⟨b, _, none⟩) hbl).trans p4, (hV.cell (p := ⟨b, _, none⟩) hbl).trans p5, (hV.cell (p := ⟨b, _, none⟩) hbl).trans p6, (hV.cell (p := ⟨b, _, none⟩) hbl).trans p7, (hV.cell (p := ⟨b, _, none⟩) hbl).trans p8⟩)
            obtain ⟨z, hz⟩ : ∃ z, (aO d.op 0 0).isSome = z := ⟨_, rfl⟩;obtain ⟨y, hy⟩ : ∃ y, (aO d.op 0 0).getD false = y := ⟨_, rfl⟩;obtain ⟨e1, he1⟩ : ∃ e, aI d.a = e := ⟨_, rfl⟩;obtain ⟨e2, he2⟩ : ∃ e, aI d.b = e := ⟨_, rfl⟩;rw [hz, hy] at HO;rw [hz, he1, he2] at HD;rw [he1] at A1;rw [he2] at A2;rw [hwa.out] at m10;have b1 : (k : Int) < (x.wh.length : Int) := by omega
            have b2 : (0 : Int) <= (k : Int) := by omega
            have b3 : ((k : Int)).toNat = k := by omega
            clear hd hne hcc hdr hsz r1 r2 hz hy he1 he2
            go_wp2_with fail
            refine (HO.out _).mono ?_;rintro e v1 ⟨rfl, rfl⟩;cases z with
            | false =>
              have TR := aA (show (5 : Int) = r by rw [<- HD.out]; rfl)
              go_wp2_with fail
              go_ret;exact ⟨congrArg (fun z => Ending.returned (.int .i64 z)) TR.out, HK.out.b⟩
            | true =>
              have HD1 := aA (show (if e1 = 0 then (if e2 = 0 then dA (x.wh.drop (k + 1)) else e2) else e1) = r by rw [<- HD.out]; rfl);clear HD
              go_wp2_with fail
              refine (A1.out wr (Below.refl _ _)).mono ?_;rintro e v2 ⟨rfl, hb⟩;have K2 := aA (HK.out.step hb);have B2 := aA hb;clear hb p0 p1 p2 p3 p4 p5 p6 p7 p8 m0 m1 m2 m3 m4 m5 m6 m7 m8 m9 m10;obtain ⟨m0, m1, m2, m3, m4, m5, m6, m7, m8, m9, m10⟩ := aD K2.out.n;obtain ⟨p0, p1, p2, p3, p4, p5, p6, p7, p8⟩ := CE.out v2 B2.out;rw [hwa.out] at m10
              by_cases he : e1 = 0
              · subst he
                have HD2 := aA (show (if e2 = 0 then dA (x.wh.drop (k + 1)) else e2) = r by rw [<- HD1.out, if_pos rfl]);clear HD1
                go_wp2_with fail
                refine (A2.out v2 B2.out).mono ?_;rintro e v3 ⟨rfl, hb⟩;have K3 := aA (K2.out.step hb);clear hb
                by_cases he : e2 = 0
                · subst he
                  have HD3 := aA (show dA (x.wh.drop (k + 1)) = r by rw [<- HD2.out, if_pos rfl])
                  go_wp2_with fail
                  go_roundw
                  case rel => exact ⟨k + 1, _, _, _, by go_num, rfl, rfl, rfl, by omega, HD3, K3⟩
                  case measure => simp [intOf]; omega
                · have q1 : (e2 == 0) = false := by simpa using he
                  have q2 : (e2 != 0) = true := by simpa using he
                  have TR := aA (show e2 = r by rw [<- HD2.out, if_neg he])
                  go_wp2_with fail
                  go_ret;exact ⟨congrArg (fun z => Ending.returned (.int .i64 z)) TR.out, K3.out.b⟩
              · have q1 : (e1 == 0) = false := by simpa using he
                have q2 : (e1 != 0) = true := by simpa using he
                have TR := aA (show e1 = r by rw [<- HD1.out, if_neg he])
                go_wp2_with fail
                go_ret;exact ⟨congrArg (fun z => Ending.returned (.int .i64 z)) TR.out, K2.out.b⟩
          · have TR := aA (show (0 : Int) = r by rw [<- HC.out, List.drop_of_length_le (by omega)]; rfl)
            have b1 : ¬ (k : Int) < (x.wh.length : Int) := by omega
            go_wp2_with fail
            go_ret;exact ⟨congrArg (fun z => Ending.returned (.int .i64 z)) TR.out, HK.out.b⟩
     | false =>
       have g1 := aH hc;have hc' : ¬ x.fn.data.toList = aN := by simpa using hc
       unfold aN at g1;have CE := aA (cS (t := x.e) p.ec HS.out.e HK.out.r.e);have CG := aA (fun V (hV : Below W.heap.size W V) => cS (t := x.g) p.gc HS.out.g (HK.out.r.g.kept hV));cases hf : (x.fn.data.toList == aT) with
       | true =>
         have g2 := bV hf;unfold aT at g2;have HEE := aA (show gR x = if aI x.e = 0 then aI x.g else aI x.e by unfold gR; rw [if_neg hc', if_pos (show x.fn.data.toList = aT by simpa using hf)]);clear hc hf ht hc';obtain ⟨ev, hev⟩ : ∃ e, aI x.e = e := ⟨_, rfl⟩;obtain ⟨gv, hgv⟩ : ∃ e, aI x.g = e := ⟨_, rfl⟩;rw [hev] at CE HEE;rw [hgv] at CG HEE
         go_wp2_with fail
         refine CE.out.mono ?_;rintro e v1 ⟨rfl, hb⟩;have K1 := aA (HK.out.step hb);have B1 := aA hb;clear hb CE hev hgv m0 m1 m2 m3 m4 m5 m6 m7 m8 m9 m10;obtain ⟨m0, m1, m2, m3, m4, m5, m6, m7, m8, m9, m10⟩ := aD K1.out.n
         by_cases he : ev = 0
         · subst he
           go_wp2_with fail
           refine (CG.out v1 B1.out).mono ?_;rintro e v2 ⟨rfl, hb⟩;have K2 := aA (K1.out.step hb);clear hb CG m0 m1 m2 m3 m4 m5 m6 m7 m8 m9 m10
           by_cases he : gv = 0
           · subst he
             have HE := aA (show gR x = 0 by have h1 := HEE.out; simpa using h1);have TA := aA (p := (if gR x = 0 then (if 4 < x.wh.length then (4 : Int) else dA x.wh) else gR x) = r) HT.out;obtain ⟨m0, m1, m2, m3, m4, m5, m6, m7, m8, m9, m10⟩ := aD K2.out.n;have TB := aA (show (if 4 < x.wh.length then (4 : Int) else dA x.wh) = r by rw [<- TA.out, HE.out, if_pos rfl])
             by_cases h4 : 4 < x.wh.length
             · have a4 : (4 : Int) < (x.wh.length : Int) := by omega
               have TR := aA (show (4 : Int) = r by rw [<- TB.out, if_pos h4])
               go_wp2_with fail
               go_ret;exact ⟨congrArg (fun z => Ending.returned (.int .i64 z)) TR.out, K2.out.b⟩
             · have a4 : ¬ (4 : Int) < (x.wh.length : Int) := by omega
               have a5 : decide (4 < x.wh.length) = false := decide_eq_false h4;have T0 := aA (show dA (x.wh.drop 0) = r by rw [List.drop_zero, <- TB.out, if_neg h4]);clear TA TB
               go_wp2_with fail
               clear m0 m1 m2 m3 m4 m5 m6 m7 m8 m9 m10
               go_loopw [4, 5, 6, 7] (fun i x5 x6 x7 wr => ∃ (k : Nat) (y5 y6 y7 : Value), i = .int .i64 k /\ x5 = y5 /\ x6 = y6 /\ x7 = y7 /\ k <= x.wh.length /\ Hid (dA (x.wh.drop k) = r) /\ Hid (KA G w x p wr)) (fun i _ _ _ _ => x.wh.length - (intOf i).toNat)
               case atStart => exact ⟨0, _, _, _, rfl, rfl, rfl, rfl, Nat.zero_le _, T0, K2⟩
               case round =>
                obtain ⟨k, y5, y6, y7, rfl, rfl, rfl, rfl, hk, HC, HK⟩ := hrel;obtain ⟨m0, m1, m2, m3, m4, m5, m6, m7, m8, m9, m10⟩ := aD HK.out.n
                by_cases hlt : k < x.wh.length
                · obtain ⟨d, hd⟩ : ∃ d, x.wh[k]? = some d := ⟨_, List.getElem?_eq_getElem hlt⟩
                  have hne : ¬ x.wh = [] := fun e => by rw [e] at hlt; simp at hlt
                  obtain ⟨b, off, hwa', -, -, hcc⟩ := HK.out.r.c.resolve_left hne;have hwa := aA hwa';clear hwa';obtain ⟨a1, c1, a2, c2, ⟨p0, p1, p2, p3, p4, p5, p6, p7, p8⟩, r1, r2⟩ := hcc k d hd
                  have hdr : x.wh.drop k = d :: x.wh.drop (k + 1) := by
                   rw [List.drop_eq_getElem_cons hlt];have := List.getElem?_eq_getElem hlt;rw [this] at hd;rw [Option.some.inj hd]
                  have hsz := HS.out.c d (List.mem_of_getElem? hd);have HD := aA (show (if (aO d.op 0 0).isSome = false then (5 : Int) else if aI d.a = 0 then (if aI d.b = 0 then dA (x.wh.drop (k + 1)) else aI d.b) else aI d.a) = r by rw [<- HC.out, hdr]; rfl);have A1 := aA (fun V (hV : Below wr.heap.size wr V) => cS (t := d.a) c1 hsz.1 (r1.kept hV));have A2 := aA (fun V (hV : Below wr.heap.size wr V) => cS (t := d.b) c2 hsz.2 (r2.kept hV));have HO := aA (fun V => kU d.op 0 0 V)
                  have CE := aA (p := ∀ V, Below wr.heap.size wr V -> (V.cell? ⟨b, off + k * 9, none⟩ = some (.string d.op) /\ V.cell? ⟨b, off + k * 9 + 1, none⟩ = some (.string d.a.op) /\ V.cell? ⟨b, off + k * 9 + 1 + 1, none⟩ = some (.string d.a.nm) /\ V.cell? ⟨b, off + k * 9 + 1 + 2, none⟩ = some (.int .i64 d.a.n) /\ V.cell? ⟨b, off + k * 9 + 1 + 3, none⟩ = some (.slice a1 d.a.ks.len c1) /\ V.cell? ⟨b, off + k * 9 + 5, none⟩ = some (.string d.b.op) /\ V.cell? ⟨b, off + k * 9 + 5 + 1, none⟩ = some (.string d.b.nm) /\ V.cell? ⟨b, off + k * 9 + 5 + 2, none⟩ = some (.int .i64 d.b.n) /\ V.cell? ⟨b, off + k * 9 + 5 + 3, none⟩ = some (.slice a2 d.b.ks.len c2))) (fun V hV => by
                   have hbl : b < wr.heap.size := by have := World.block_lt_of_cell? wr _ p0; simpa using this
                   exact ⟨(hV.cell (p := ⟨b, _, none⟩) hbl).trans p0, (hV.cell (p := ⟨b, _, none⟩) hbl).trans p1, (hV.cell (p := ⟨b, _, none⟩) hbl).trans p2, (hV.cell (p := ⟨b, _, none⟩) hbl).trans p3, (hV.cell (p := ⟨b, _, none⟩) hbl).trans p4, (hV.cell (p := ⟨b, _, none⟩) hbl).trans p5, (hV.cell (p := ⟨b, _, none⟩) hbl).trans p6, (hV.cell (p := ⟨b, _, none⟩) hbl).trans p7, (hV.cell (p := ⟨b, _, none⟩) hbl).trans p8⟩)
                  obtain ⟨z, hz⟩ : ∃ z, (aO d.op 0 0).isSome = z := ⟨_, rfl⟩;obtain ⟨y, hy⟩ : ∃ y, (aO d.op 0 0).getD false = y := ⟨_, rfl⟩;obtain ⟨e1, he1⟩ : ∃ e, aI d.a = e := ⟨_, rfl⟩;obtain ⟨e2, he2⟩ : ∃ e, aI d.b = e := ⟨_, rfl⟩;rw [hz, hy] at HO;rw [hz, he1, he2] at HD;rw [he1] at A1;rw [he2] at A2;rw [hwa.out] at m10;have b1 : (k : Int) < (x.wh.length : Int) := by omega
                  have b2 : (0 : Int) <= (k : Int) := by omega
                  have b3 : ((k : Int)).toNat = k := by omega
                  clear hd hne hcc hdr hsz r1 r2 hz hy he1 he2
                  go_wp2_with fail
                  refine (HO.out _).mono ?_;rintro e v1 ⟨rfl, rfl⟩;cases z with
                  | false =>
                    have TR := aA (show (5 : Int) = r by rw [<- HD.out]; rfl)
                    go_wp2_with fail
                    go_ret;exact ⟨congrArg (fun z => Ending.returned (.int .i64 z)) TR.out, HK.out.b⟩
                  | true =>
                    have HD1 := aA (show (if e1 = 0 then (if e2 = 0 then dA (x.wh.drop (k + 1)) else e2) else e1) = r by rw [<- HD.out]; rfl);clear HD
                    go_wp2_with fail
                    refine (A1.out wr (Below.refl _ _)).mono ?_;rintro e v2 ⟨rfl, hb⟩;have K2 := aA (HK.out.step hb);have B2 := aA hb;clear hb p0 p1 p2 p3 p4 p5 p6 p7 p8 m0 m1 m2 m3 m4 m5 m6 m7 m8 m9 m10;obtain ⟨m0, m1, m2, m3, m4, m5, m6, m7, m8, m9, m10⟩ := aD K2.out.n;obtain ⟨p0, p1, p2, p3, p4, p5, p6, p7, p8⟩ := CE.out v2 B2.out;rw [hwa.out] at m10
                    by_cases he : e1 = 0
                    · subst he
                      have HD2 := aA (show (if e2 = 0 then dA (x.wh.drop (k + 1)) else e2) = r by rw [<- HD1.out, if_pos rfl]);clear HD1
                      go_wp2_with fail
                      refine (A2.out v2 B2.out).mono ?_;rintro e v3 ⟨rfl, hb⟩;have K3 := aA (K2.out.step hb);clear hb
                      by_cases he : e2 = 0
                      · subst he
                        have HD3 := aA (show dA (x.wh.drop (k + 1)) = r by rw [<- HD2.out, if_pos rfl])
                        go_wp2_with fail
                        go_roundw
                        case rel => exact ⟨k + 1, _, _, _, by go_num, rfl, rfl, rfl, by omega, HD3, K3⟩
                        case measure => simp [intOf]; omega
                      · have q1 : (e2 == 0) = false := by simpa using he
                        have q2 : (e2 != 0) = true := by simpa using he
                        have TR := aA (show e2 = r by rw [<- HD2.out, if_neg he])
                        go_wp2_with fail
                        go_ret;exact ⟨congrArg (fun z => Ending.returned (.int .i64 z)) TR.out, K3.out.b⟩
                    · have q1 : (e1 == 0) = false := by simpa using he
                      have q2 : (e1 != 0) = true := by simpa using he
                      have TR := aA (show e1 = r by rw [<- HD1.out, if_neg he])
                      go_wp2_with fail
                      go_ret;exact ⟨congrArg (fun z => Ending.returned (.int .i64 z)) TR.out, K2.out.b⟩
                · have TR := aA (show (0 : Int) = r by rw [<- HC.out, List.drop_of_length_le (by omega)]; rfl)
                  have b1 : ¬ (k : Int) < (x.wh.length : Int) := by omega
                  go_wp2_with fail
                  go_ret;exact ⟨congrArg (fun z => Ending.returned (.int .i64 z)) TR.out, HK.out.b⟩
           · have q1 : (gv == 0) = false := by simpa using he
             have q2 : (gv != 0) = true := by simpa using he
             have TR := aA (show gv = r by
              have h1 : gR x = gv := by have h := HEE.out; simpa using h
              rw [<- HT.out, h1, if_neg he])
             go_wp2_with fail
             go_ret;exact ⟨congrArg (fun z => Ending.returned (.int .i64 z)) TR.out, K2.out.b⟩
         · have q1 : (ev == 0) = false := by simpa using he
           have q2 : (ev != 0) = true := by simpa using he
           have TR := aA (show ev = r by
            have h1 : gR x = ev := by rw [HEE.out, if_neg he]
            rw [<- HT.out, h1, if_neg he])
           go_wp2_with fail
           go_ret;exact ⟨congrArg (fun z => Ending.returned (.int .i64 z)) TR.out, K1.out.b⟩
       | false =>
         have g2 := aH hf;unfold aT at g2
         have HEE := aA (show gR x = aI x.e by
          unfold gR;rw [if_neg hc', if_neg (show ¬ x.fn.data.toList = aT by simpa using hf)]
          by_cases h : aI x.e = 0
          · rw [if_pos h, h]
          · rw [if_neg h])
         clear hc hf ht hc' CG;obtain ⟨ev, hev⟩ : ∃ e, aI x.e = e := ⟨_, rfl⟩;rw [hev] at CE HEE
         go_wp2_with fail
         refine CE.out.mono ?_;rintro e v1 ⟨rfl, hb⟩;have K1 := aA (HK.out.step hb);clear hb CE hev m0 m1 m2 m3 m4 m5 m6 m7 m8 m9 m10
         by_cases he : ev = 0
         · subst he
           have HE := HEE;have TA := aA (p := (if gR x = 0 then (if 4 < x.wh.length then (4 : Int) else dA x.wh) else gR x) = r) HT.out;obtain ⟨m0, m1, m2, m3, m4, m5, m6, m7, m8, m9, m10⟩ := aD K1.out.n;have TB := aA (show (if 4 < x.wh.length then (4 : Int) else dA x.wh) = r by rw [<- TA.out, HE.out, if_pos rfl])
           by_cases h4 : 4 < x.wh.length
           · have a4 : (4 : Int) < (x.wh.length : Int) := by omega
             have TR := aA (show (4 : Int) = r by rw [<- TB.out, if_pos h4])
             go_wp2_with fail
             go_ret;exact ⟨congrArg (fun z => Ending.returned (.int .i64 z)) TR.out, K1.out.b⟩
           · have a4 : ¬ (4 : Int) < (x.wh.length : Int) := by omega
             have a5 : decide (4 < x.wh.length) = false := decide_eq_false h4;have T0 := aA (show dA (x.wh.drop 0) = r by rw [List.drop_zero, <- TB.out, if_neg h4]);clear TA TB
             go_wp2_with fail
             clear m0 m1 m2 m3 m4 m5 m6 m7 m8 m9 m10
             go_loopw [4, 5, 6, 7] (fun i x5 x6 x7 wr => ∃ (k : Nat) (y5 y6 y7 : Value), i = .int .i64 k /\ x5 = y5 /\ x6 = y6 /\ x7 = y7 /\ k <= x.wh.length /\ Hid (dA (x.wh.drop k) = r) /\ Hid (KA G w x p wr)) (fun i _ _ _ _ => x.wh.length - (intOf i).toNat)
             case atStart => exact ⟨0, _, _, _, rfl, rfl, rfl, rfl, Nat.zero_le _, T0, K1⟩
             case round =>
              obtain ⟨k, y5, y6, y7, rfl, rfl, rfl, rfl, hk, HC, HK⟩ := hrel;obtain ⟨m0, m1, m2, m3, m4, m5, m6, m7, m8, m9, m10⟩ := aD HK.out.n
              by_cases hlt : k < x.wh.length
              · obtain ⟨d, hd⟩ : ∃ d, x.wh[k]? = some d := ⟨_, List.getElem?_eq_getElem hlt⟩
                have hne : ¬ x.wh = [] := fun e => by rw [e] at hlt; simp at hlt
                obtain ⟨b, off, hwa', -, -, hcc⟩ := HK.out.r.c.resolve_left hne;have hwa := aA hwa';clear hwa';obtain ⟨a1, c1, a2, c2, ⟨p0, p1, p2, p3, p4, p5, p6, p7, p8⟩, r1, r2⟩ := hcc k d hd
                have hdr : x.wh.drop k = d :: x.wh.drop (k + 1) := by
                 rw [List.drop_eq_getElem_cons hlt];have := List.getElem?_eq_getElem hlt;rw [this] at hd;rw [Option.some.inj hd]
                have hsz := HS.out.c d (List.mem_of_getElem? hd);have HD := aA (show (if (aO d.op 0 0).isSome = false then (5 : Int) else if aI d.a = 0 then (if aI d.b = 0 then dA (x.wh.drop (k + 1)) else aI d.b) else aI d.a) = r by rw [<- HC.out, hdr]; rfl);have A1 := aA (fun V (hV : Below wr.heap.size wr V) => cS (t := d.a) c1 hsz.1 (r1.kept hV));have A2 := aA (fun V (hV : Below wr.heap.size wr V) => cS (t := d.b) c2 hsz.2 (r2.kept hV));have HO := aA (fun V => kU d.op 0 0 V)
                have CE := aA (p := ∀ V, Below wr.heap.size wr V -> (V.cell? ⟨b, off + k * 9, none⟩ = some (.string d.op) /\ V.cell? ⟨b, off + k * 9 + 1, none⟩ = some (.string d.a.op) /\ V.cell? ⟨b, off + k * 9 + 1 + 1, none⟩ = some (.string d.a.nm) /\ V.cell? ⟨b, off + k * 9 + 1 + 2, none⟩ = some (.int .i64 d.a.n) /\ V.cell? ⟨b, off + k * 9 + 1 + 3, none⟩ = some (.slice a1 d.a.ks.len c1) /\ V.cell? ⟨b, off + k * 9 + 5, none⟩ = some (.string d.b.op) /\ V.cell? ⟨b, off + k * 9 + 5 + 1, none⟩ = some (.string d.b.nm) /\ V.cell? ⟨b, off + k * 9 + 5 + 2, none⟩ = some (.int .i64 d.b.n) /\ V.cell? ⟨b, off + k * 9 + 5 + 3, none⟩ = some (.slice a2 d.b.ks.len c2))) (fun V hV => by
                 have hbl : b < wr.heap.size := by have := World.block_lt_of_cell? wr _ p0; simpa using this
                 exact ⟨(hV.cell (p := ⟨b, _, none⟩) hbl).trans p0, (hV.cell (p := ⟨b, _, none⟩) hbl).trans p1, (hV.cell (p := ⟨b, _, none⟩) hbl).trans p2, (hV.cell (p := ⟨b, _, none⟩) hbl).trans p3, (hV.cell (p := ⟨b, _, none⟩) hbl).trans p4, (hV.cell (p := ⟨b, _, none⟩) hbl).trans p5, (hV.cell (p := ⟨b, _, none⟩) hbl).trans p6, (hV.cell (p := ⟨b, _, none⟩) hbl).trans p7, (hV.cell (p := ⟨b, _, none⟩) hbl).trans p8⟩)
                obtain ⟨z, hz⟩ : ∃ z, (aO d.op 0 0).isSome = z := ⟨_, rfl⟩;obtain ⟨y, hy⟩ : ∃ y, (aO d.op 0 0).getD false = y := ⟨_, rfl⟩;obtain ⟨e1, he1⟩ : ∃ e, aI d.a = e := ⟨_, rfl⟩;obtain ⟨e2, he2⟩ : ∃ e, aI d.b = e := ⟨_, rfl⟩;rw [hz, hy] at HO;rw [hz, he1, he2] at HD;rw [he1] at A1;rw [he2] at A2;rw [hwa.out] at m10;have b1 : (k : Int) < (x.wh.length : Int) := by omega
                have b2 : (0 : Int) <= (k : Int) := by omega
                have b3 : ((k : Int)).toNat = k := by omega
                clear hd hne hcc hdr hsz r1 r2 hz hy he1 he2
                go_wp2_with fail
                refine (HO.out _).mono ?_;rintro e v1 ⟨rfl, rfl⟩;cases z with
                | false =>
                  have TR := aA (show (5 : Int) = r by rw [<- HD.out]; rfl)
                  go_wp2_with fail
                  go_ret;exact ⟨congrArg (fun z => Ending.returned (.int .i64 z)) TR.out, HK.out.b⟩
                | true =>
                  have HD1 := aA (show (if e1 = 0 then (if e2 = 0 then dA (x.wh.drop (k + 1)) else e2) else e1) = r by rw [<- HD.out]; rfl);clear HD
                  go_wp2_with fail
                  refine (A1.out wr (Below.refl _ _)).mono ?_;rintro e v2 ⟨rfl, hb⟩;have K2 := aA (HK.out.step hb);have B2 := aA hb;clear hb p0 p1 p2 p3 p4 p5 p6 p7 p8 m0 m1 m2 m3 m4 m5 m6 m7 m8 m9 m10;obtain ⟨m0, m1, m2, m3, m4, m5, m6, m7, m8, m9, m10⟩ := aD K2.out.n;obtain ⟨p0, p1, p2, p3, p4, p5, p6, p7, p8⟩ := CE.out v2 B2.out;rw [hwa.out] at m10
                  by_cases he : e1 = 0
                  · subst he
                    have HD2 := aA (show (if e2 = 0 then dA (x.wh.drop (k + 1)) else e2) = r by rw [<- HD1.out, if_pos rfl]);clear HD1
                    go_wp2_with fail
                    refine (A2.out v2 B2.out).mono ?_;rintro e v3 ⟨rfl, hb⟩;have K3 := aA (K2.out.step hb);clear hb
                    by_cases he : e2 = 0
                    · subst he
                      have HD3 := aA (show dA (x.wh.drop (k + 1)) = r by rw [<- HD2.out, if_pos rfl])
                      go_wp2_with fail
                      go_roundw
                      case rel => exact ⟨k + 1, _, _, _, by go_num, rfl, rfl, rfl, by omega, HD3, K3⟩
                      case measure => simp [intOf]; omega
                    · have q1 : (e2 == 0) = false := by simpa using he
                      have q2 : (e2 != 0) = true := by simpa using he
                      have TR := aA (show e2 = r by rw [<- HD2.out, if_neg he])
                      go_wp2_with fail
                      go_ret;exact ⟨congrArg (fun z => Ending.returned (.int .i64 z)) TR.out, K3.out.b⟩
                  · have q1 : (e1 == 0) = false := by simpa using he
                    have q2 : (e1 != 0) = true := by simpa using he
                    have TR := aA (show e1 = r by rw [<- HD1.out, if_neg he])
                    go_wp2_with fail
                    go_ret;exact ⟨congrArg (fun z => Ending.returned (.int .i64 z)) TR.out, K2.out.b⟩
              · have TR := aA (show (0 : Int) = r by rw [<- HC.out, List.drop_of_length_le (by omega)]; rfl)
                have b1 : ¬ (k : Int) < (x.wh.length : Int) := by omega
                go_wp2_with fail
                go_ret;exact ⟨congrArg (fun z => Ending.returned (.int .i64 z)) TR.out, HK.out.b⟩
         · have q1 : (ev == 0) = false := by simpa using he
           have q2 : (ev != 0) = true := by simpa using he
           have TR := aA (show ev = r by rw [<- HT.out, HEE.out, if_neg he]);obtain ⟨m0, m1, m2, m3, m4, m5, m6, m7, m8, m9, m10⟩ := aD K1.out.n
           go_wp2_with fail
           go_ret;exact ⟨congrArg (fun z => Ending.returned (.int .i64 z)) TR.out, K1.out.b⟩
set_option linter.unusedSimpArgs false
abbrev cdC (x : CD) (a1 : Option Addr) (c1 : Nat) (a2 : Option Addr) (c2 : Nat) : Array Value := #[.string x.op, .string x.a.op, .string x.a.nm, .int .i64 x.a.n, .slice a1 x.a.ks.len c1, .string x.b.op, .string x.b.nm, .int .i64 x.b.n, .slice a2 x.b.ks.len c2]
abbrev cdV (x : CD) (a1 : Option Addr) (c1 : Nat) (a2 : Option Addr) (c2 : Nat) : Value := .agg (cdC x a1 c1 a2 c2)
abbrev cdO (x : CD) (a1 : Option Addr) (c1 : Nat) (a2 : Option Addr) (c2 : Nat) : Obj := .cells (cdC x a1 c1 a2 c2) 90
theorem jY {W : World} {B : Nat} {v0 v1 v2 v3 v4 v5 v6 v7 v8 : Value} {t : TypeId} (h : W.heap[B]? = some (.cells #[v0, v1, v2, v3, v4, v5, v6, v7, v8] t (0, 0))) :
 W.cell? ⟨B, 0, none⟩ = some v0 /\ W.cell? ⟨B, 1, none⟩ = some v1 /\ W.cell? ⟨B, 2, none⟩ = some v2 /\ W.cell? ⟨B, 3, none⟩ = some v3 /\ W.cell? ⟨B, 4, none⟩ = some v4 /\ W.cell? ⟨B, 5, none⟩ = some v5 /\ W.cell? ⟨B, 6, none⟩ = some v6 /\ W.cell? ⟨B, 7, none⟩ = some v7 /\ W.cell? ⟨B, 8, none⟩ = some v8 := by
 refine ⟨?_, ?_, ?_, ?_, ?_, ?_, ?_, ?_, ?_⟩ <;> simp [World.cell?, h]
theorem Ki {W : World} {B : Nat} {v0 v1 v2 v3 v4 v5 v6 v7 v8 : Value} {t : TypeId} (h : W.heap[B]? = some (.cells #[v0, v1, v2, v3, v4, v5, v6, v7, v8] t (0, 0))) :
 W.frozen? ⟨B, 0, none⟩ = false /\ W.frozen? ⟨B, 1, none⟩ = false /\ W.frozen? ⟨B, 2, none⟩ = false /\ W.frozen? ⟨B, 3, none⟩ = false /\ W.frozen? ⟨B, 4, none⟩ = false /\ W.frozen? ⟨B, 5, none⟩ = false /\ W.frozen? ⟨B, 6, none⟩ = false /\ W.frozen? ⟨B, 7, none⟩ = false /\ W.frozen? ⟨B, 8, none⟩ = false := by
 refine ⟨?_, ?_, ?_, ?_, ?_, ?_, ?_, ?_, ?_⟩ <;> simp [World.frozen?, h]
end
end Go.Proofs.YtapcjnoaofmmiaaGreatDoor
