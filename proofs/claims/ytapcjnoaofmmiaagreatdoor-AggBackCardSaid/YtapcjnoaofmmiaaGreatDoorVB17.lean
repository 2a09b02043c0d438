/-
 Proved: any fold: whether it may be; in words, and back, the same one
-/
import Derived.Test.YtapcjnoaofmmiaaGreatDoorVB16
import Derived.Test.YtapcjnoaofmmiaaGreatDoorTie
import Derived.ProofKit
import Derived.OpenShut
import Derived.LaidMore
import Derived.Lay
import Derived.SevenTiedAt
import Derived.Stop.Joined
import Derived.Stop.LaidErr
import Derived.Lib.LaidTab
import Derived.Carry
import Derived.Test.YtapcjnoaofmmiaaGreatDoorCards
import Derived.ShutString
import Derived.ChangeOld
set_option maxHeartbeats 40000000
set_option maxRecDepth 100000
namespace Go.Proofs.YtapcjnoaofmmiaaGreatDoor
section
open Go.RowKit
def F5 (a b:AG):Bool :=
 (a.fn.toList == b.fn.toList) && !((a.fn.data.toList == cU) && a.k != b.k) && !((a.fn.data.toList != aP) && !bW a.e b.e) && !((a.fn.data.toList == aQ) && !bW a.g b.g) && (a.wh.length == b.wh.length)
structure KS (G H:Nat->Prop) (w:World) (x:AG) (p:PA) (y:AG) (q:PA) (V:World):Prop where
 b:Below w.heap.size w V
 z:w.heap.size<=V.heap.size
 n1:V.heap[w.heap.size]? = some (agO x p)
 n2:V.heap[w.heap.size+1]? = some (agO y q)
 r1:aJ G V x p
 r2:aJ H V y q
theorem KS.step {G H:Nat->Prop} {w V V':World} {x:AG} {p:PA} {y:AG} {q:PA} (h:KS G H w x p y q V) (hb:Below V.heap.size V V'):KS G H w x p y q V' :=
 ⟨h.b.trans (hb.mono h.z),Nat.le_trans h.z hb.size,(hb.block _ (aC h.n1)).trans h.n1,(hb.block _ (aC h.n2)).trans h.n2,h.r1.kept hb,h.r2.kept hb⟩
theorem Jr {G H:Nat->Prop} {w:World} {x:AG} {p:PA} {y:AG} {q:PA} (hr:aJ G w x p) (hs:aJ H w y q):KS G H w x p y q ((w.alloc (agO x p)).alloc (agO y q)):=by
 have B1:=(Below.refl w.heap.size w).alloc (Nat.le_refl _) (agO x p);have hz:(w.alloc (agO x p)).heap.size=w.heap.size+1:=World.size_alloc _ _;have B2:=(Below.refl (w.alloc (agO x p)).heap.size (w.alloc (agO x p))).alloc (Nat.le_refl _) (agO y q);have n2:=heap_alloc_new (w.alloc (agO x p)) (agO y q);rw [hz] at n2;exact ⟨B1.trans (B2.mono (by omega)),by rw [World.size_alloc,hz];omega,(B2.block _ (by omega)).trans (heap_alloc_new w _),n2,(hr.kept B1).kept B2,(hs.kept B1).kept B2⟩
theorem pF {G H:Nat->Prop} (x y:AG) (p q:PA) (w:World) (hS:SzG x) (hr:aJ G w x p) (hs:aJ H w y q) (hl1:x.wh.length<=1000) (hl2:y.wh.length<=1000):Calls Tryz.prog 13 #[agV x p,agV y q] w fun e w'=>e=.returned (.bool (j0 x y))/\Below w.heap.size w w':=by
 have KW0:=Jr hr hs;obtain ⟨r,hR⟩:∃ r,j0 x y=r:=⟨_,rfl⟩;rw [hR];have hR2:(F5 x y && eI x.wh y.wh)=r:=hR;obtain ⟨zz,hzz⟩:∃ z,F5 x y=z:=⟨_,rfl⟩;rw [hzz] at hR2;unfold F5 at hzz;clear hR;have hR:=hzz;clear hzz;have HL:=aA (fun h:zz=true=>show x.wh.length=y.wh.length by rw [h] at hR;simp only [Bool.and_eq_true,beq_iff_eq] at hR;exact hR.2)
 have HY:=aA (fun h:zz=true=>show y.fn=x.fn by
  rw [h] at hR;simp only [Bool.and_eq_true] at hR;exact ByteArray.ext (Array.ext' (by rw [<- Lib.toList_data, <- Lib.toList_data];exact (eq_of_beq hR.1.1.1.1).symm)))
 obtain ⟨yf,yk,ye,yg,yw⟩:=y;dsimp only at hR hl2 hR2 HL HY;have HR2:=aA hR2;clear hR2;generalize hW1:w.alloc (agO x p)=W1 at KW0;generalize hW:W1.alloc (agO ⟨yf,yk,ye,yg,yw⟩ q)=W at KW0;have HW1:=aA hW1;have HW:=aA hW;have KW:=aA KW0;have HS:=aA hS;clear hW1 hW KW0 hS hr hs;obtain ⟨nz,hnz⟩:∃ z,(!zz)=z:=⟨_,rfl⟩;have HNZ:=aA hnz;clear hnz;go_enter Tryz.func13,Tryz.ntmps13
 go_upto_region 1 with fail
 rw [HW1.out,HW.out];clear HW1 HW;go_cut [57] (fun v wc=>v=.bool nz/\Hid (KS G H w x p ⟨yf,yk,ye,yg,yw⟩ q wc))
 case first =>
  obtain ⟨m0,m1,m2,m3,m4,m5,m6,m7,m8,m9,m10⟩:=aD KW.out.n1;obtain ⟨n0,n1,n2,n3,n4,n5,n6,n7,n8,n9,n10⟩:=aD KW.out.n2;cases hf:(x.fn.toList == yf.toList) with
  | false =>
    have hf2:(x.fn.toList != yf.toList)=true:=by rw [bne,hf];rfl
    have HZ:=aA (show zz=false by rw [<- hR,hf];rfl);clear hR;go_wp2_with fail
    go_meet;case rel=>exact ⟨by rw [<- HNZ.out,HZ.out];rfl,KW⟩
  | true =>
    obtain rfl:yf=x.fn:=ByteArray.ext (Array.ext' (by rw [<- Lib.toList_data, <- Lib.toList_data];exact (eq_of_beq hf).symm));have hf2:(x.fn.toList != x.fn.toList)=false:=by simp
    rw [hf,Bool.true_and] at hR;cases hc:(x.fn.data.toList == aP) with
    | true =>
      have f1:=Ae hc (b:=cU) (by decide);have f2:=Ae hc (b:=aQ) (by decide);have hR':(x.wh.length == yw.length)=zz:=by rw [<- hR];unfold bne;rw [f1,f2,hc];simp
      have RL:=aA hR';have KK:=aA KW.out;have g0:=bG hc;have g1:=aG f1;have g2:=aG f2;unfold aP at g0;unfold cU at g1;unfold aQ at g2;have g3:(x.fn.toList != [99,111,117,110,116])=false:=by rw [bne,g0];rfl
      clear hR hR' f1 f2 hc KW m0 m1 m2 m3 m4 m5 m6 m7 m8 m9 m10 n0 n1 n2 n3 n4 n5 n6 n7 n8 n9 n10;obtain ⟨m0,m1,m2,m3,m4,m5,m6,m7,m8,m9,m10⟩:=aD KK.out.n1;obtain ⟨n0,n1,n2,n3,n4,n5,n6,n7,n8,n9,n10⟩:=aD KK.out.n2;by_cases hl:x.wh.length=yw.length
      · have HZ:=aA (show zz=true by rw [<- RL.out,hl];simp)
        have l1:((x.wh.length:Int) == (yw.length:Int))=true:=by rw [hl];simp
        have l2:((x.wh.length:Int) != (yw.length:Int))=false:=by rw [hl];simp
        clear hl RL;go_wp2_with fail
        go_meet;case rel=>exact ⟨by rw [<- HNZ.out,HZ.out];rfl,KK⟩
      · have HZ:=aA (show zz=false by rw [<- RL.out,beq_eq_false_iff_ne];exact hl)
        have l1:((x.wh.length:Int) == (yw.length:Int))=false:=by rw [beq_eq_false_iff_ne];omega
        have l2:((x.wh.length:Int) != (yw.length:Int))=true:=by rw [bne,l1];rfl
        clear hl RL;go_wp2_with fail
        go_meet;case rel=>exact ⟨by rw [<- HNZ.out,HZ.out];rfl,KK⟩
    | false =>
      have g0:=aG hc;unfold aP at g0;have g3:(x.fn.toList != [99,111,117,110,116])=true:=by rw [bne,g0];rfl
      cases ht:(x.fn.data.toList == cU) with
      | true =>
        have f2:=Ae ht (b:=aQ) (by decide);have g1:=bG ht;have g2:=aG f2;unfold cU at g1;unfold aQ at g2;by_cases hk:x.k=yk
        · have k1:(x.k == yk)=true:=by rw [hk];simp
          have k2:(x.k != yk)=false:=by rw [hk];simp
          have hR':(bW x.e ye && ((x.wh.length == yw.length)))=zz:=by rw [<- hR];unfold bne;rw [ht,f2,k1,hc];simp
          have Re:=aA hR';clear hR hR' hk f2 hc ht m0 m1 m2 m3 m4 m5 m6 m7 m8 m9 m10 n0 n1 n2 n3 n4 n5 n6 n7 n8 n9 n10;obtain ⟨m0,m1,m2,m3,m4,m5,m6,m7,m8,m9,m10⟩:=aD KW.out.n1;obtain ⟨n0,n1,n2,n3,n4,n5,n6,n7,n8,n9,n10⟩:=aD KW.out.n2;have Ce:=aA (jJ x.e G H _ p.ea q.ea p.ec q.ec ye HS.out.e.lens KW.out.r1.e KW.out.r2.e);obtain ⟨ze,hze⟩:∃ z,bW x.e ye=z:=⟨_,rfl⟩;rw [hze] at Ce;have HZe:=aA hze;clear hze;go_wp2_with fail
          refine Ce.out.mono ?_;rintro e we ⟨rfl,hb⟩;have KE:=aA (KW.out.step hb);clear hb Ce m0 m1 m2 m3 m4 m5 m6 m7 m8 m9 m10 n0 n1 n2 n3 n4 n5 n6 n7 n8 n9 n10;cases ze with
          | false =>
            have HZ:=aA (show zz=false by rw [<- Re.out,HZe.out];rfl);obtain ⟨m0,m1,m2,m3,m4,m5,m6,m7,m8,m9,m10⟩:=aD KE.out.n1;obtain ⟨n0,n1,n2,n3,n4,n5,n6,n7,n8,n9,n10⟩:=aD KE.out.n2;go_wp2_with fail
            go_meet;case rel=>exact ⟨by rw [<- HNZ.out,HZ.out];rfl,KE⟩
          | true =>
            have RL:=aA (show (x.wh.length == yw.length)=zz by rw [<- Re.out,HZe.out,Bool.true_and]);have KK:=aA KE.out;clear KE Re;obtain ⟨m0,m1,m2,m3,m4,m5,m6,m7,m8,m9,m10⟩:=aD KK.out.n1;obtain ⟨n0,n1,n2,n3,n4,n5,n6,n7,n8,n9,n10⟩:=aD KK.out.n2;by_cases hl:x.wh.length=yw.length
            · have HZ:=aA (show zz=true by rw [<- RL.out,hl];simp)
              have l1:((x.wh.length:Int) == (yw.length:Int))=true:=by rw [hl];simp
              have l2:((x.wh.length:Int) != (yw.length:Int))=false:=by rw [hl];simp
              clear hl RL;go_wp2_with fail
              go_meet;case rel=>exact ⟨by rw [<- HNZ.out,HZ.out];rfl,KK⟩
            · have HZ:=aA (show zz=false by rw [<- RL.out,beq_eq_false_iff_ne];exact hl)
              have l1:((x.wh.length:Int) == (yw.length:Int))=false:=by rw [beq_eq_false_iff_ne];omega
              have l2:((x.wh.length:Int) != (yw.length:Int))=true:=by rw [bne,l1];rfl
              clear hl RL;go_wp2_with fail
              go_meet;case rel=>exact ⟨by rw [<- HNZ.out,HZ.out];rfl,KK⟩
        · have k1:(x.k == yk)=false:=by simpa using hk
          have k2:(x.k != yk)=true:=by simpa using hk
          have HZ:=aA (show zz=false by rw [<- hR];unfold bne;rw [ht,k1];rfl);clear hR hk f2 hc ht;go_wp2_with fail
          go_meet;case rel=>exact ⟨by rw [<- HNZ.out,HZ.out];rfl,KW⟩
      | false =>
        have g1:=aG ht;unfold cU at g1;cases hi:(x.fn.data.toList == aQ) with
        | true =>
          have g2:=bG hi;unfold aQ at g2;have hR':(bW x.e ye && (bW x.g yg && ((x.wh.length == yw.length))))=zz:=by rw [<- hR];unfold bne;rw [ht,hi,hc];simp [Bool.and_assoc]
          have Re:=aA hR';clear hR hR' hi hc ht m0 m1 m2 m3 m4 m5 m6 m7 m8 m9 m10 n0 n1 n2 n3 n4 n5 n6 n7 n8 n9 n10;obtain ⟨m0,m1,m2,m3,m4,m5,m6,m7,m8,m9,m10⟩:=aD KW.out.n1;obtain ⟨n0,n1,n2,n3,n4,n5,n6,n7,n8,n9,n10⟩:=aD KW.out.n2;have Ce:=aA (jJ x.e G H _ p.ea q.ea p.ec q.ec ye HS.out.e.lens KW.out.r1.e KW.out.r2.e);obtain ⟨ze,hze⟩:∃ z,bW x.e ye=z:=⟨_,rfl⟩;rw [hze] at Ce;have HZe:=aA hze;clear hze;go_wp2_with fail
          refine Ce.out.mono ?_;rintro e we ⟨rfl,hb⟩;have KE:=aA (KW.out.step hb);clear hb Ce m0 m1 m2 m3 m4 m5 m6 m7 m8 m9 m10 n0 n1 n2 n3 n4 n5 n6 n7 n8 n9 n10;cases ze with
          | false =>
            have HZ:=aA (show zz=false by rw [<- Re.out,HZe.out];rfl);obtain ⟨m0,m1,m2,m3,m4,m5,m6,m7,m8,m9,m10⟩:=aD KE.out.n1;obtain ⟨n0,n1,n2,n3,n4,n5,n6,n7,n8,n9,n10⟩:=aD KE.out.n2;go_wp2_with fail
            go_meet;case rel=>exact ⟨by rw [<- HNZ.out,HZ.out];rfl,KE⟩
          | true =>
            have Rg:=aA (show (bW x.g yg && (x.wh.length == yw.length))=zz by rw [<- Re.out,HZe.out,Bool.true_and]);clear Re;obtain ⟨m0,m1,m2,m3,m4,m5,m6,m7,m8,m9,m10⟩:=aD KE.out.n1;obtain ⟨n0,n1,n2,n3,n4,n5,n6,n7,n8,n9,n10⟩:=aD KE.out.n2;have Cg:=aA (jJ x.g G H _ p.ga q.ga p.gc q.gc yg HS.out.g.lens KE.out.r1.g KE.out.r2.g);obtain ⟨zg,hzg⟩:∃ z,bW x.g yg=z:=⟨_,rfl⟩;rw [hzg] at Cg;have HZg:=aA hzg;clear hzg;go_wp2_with fail
            refine Cg.out.mono ?_;rintro e wg ⟨rfl,hb⟩;have KG:=aA (KE.out.step hb);clear hb Cg m0 m1 m2 m3 m4 m5 m6 m7 m8 m9 m10 n0 n1 n2 n3 n4 n5 n6 n7 n8 n9 n10;cases zg with
            | false =>
              have HZ:=aA (show zz=false by rw [<- Rg.out,HZg.out];rfl);obtain ⟨m0,m1,m2,m3,m4,m5,m6,m7,m8,m9,m10⟩:=aD KG.out.n1;obtain ⟨n0,n1,n2,n3,n4,n5,n6,n7,n8,n9,n10⟩:=aD KG.out.n2;go_wp2_with fail
              go_meet;case rel=>exact ⟨by rw [<- HNZ.out,HZ.out];rfl,KG⟩
            | true =>
              have RL:=aA (show (x.wh.length == yw.length)=zz by rw [<- Rg.out,HZg.out,Bool.true_and]);have KK:=aA KG.out;clear KG Rg;obtain ⟨m0,m1,m2,m3,m4,m5,m6,m7,m8,m9,m10⟩:=aD KK.out.n1;obtain ⟨n0,n1,n2,n3,n4,n5,n6,n7,n8,n9,n10⟩:=aD KK.out.n2;by_cases hl:x.wh.length=yw.length
              · have HZ:=aA (show zz=true by rw [<- RL.out,hl];simp)
                have l1:((x.wh.length:Int) == (yw.length:Int))=true:=by rw [hl];simp
                have l2:((x.wh.length:Int) != (yw.length:Int))=false:=by rw [hl];simp
                clear hl RL;go_wp2_with fail
                go_meet;case rel=>exact ⟨by rw [<- HNZ.out,HZ.out];rfl,KK⟩
              · have HZ:=aA (show zz=false by rw [<- RL.out,beq_eq_false_iff_ne];exact hl)
                have l1:((x.wh.length:Int) == (yw.length:Int))=false:=by rw [beq_eq_false_iff_ne];omega
                have l2:((x.wh.length:Int) != (yw.length:Int))=true:=by rw [bne,l1];rfl
                clear hl RL;go_wp2_with fail
                go_meet;case rel=>exact ⟨by rw [<- HNZ.out,HZ.out];rfl,KK⟩
        | false =>
          have g2:=aG hi;unfold aQ at g2;have hR':(bW x.e ye && ((x.wh.length == yw.length)))=zz:=by rw [<- hR];unfold bne;rw [ht,hi,hc];simp
          have Re:=aA hR';clear hR hR' hi hc ht m0 m1 m2 m3 m4 m5 m6 m7 m8 m9 m10 n0 n1 n2 n3 n4 n5 n6 n7 n8 n9 n10;obtain ⟨m0,m1,m2,m3,m4,m5,m6,m7,m8,m9,m10⟩:=aD KW.out.n1;obtain ⟨n0,n1,n2,n3,n4,n5,n6,n7,n8,n9,n10⟩:=aD KW.out.n2;have Ce:=aA (jJ x.e G H _ p.ea q.ea p.ec q.ec ye HS.out.e.lens KW.out.r1.e KW.out.r2.e);obtain ⟨ze,hze⟩:∃ z,bW x.e ye=z:=⟨_,rfl⟩;rw [hze] at Ce;have HZe:=aA hze;clear hze;go_wp2_with fail
          refine Ce.out.mono ?_;rintro e we ⟨rfl,hb⟩;have KE:=aA (KW.out.step hb);clear hb Ce m0 m1 m2 m3 m4 m5 m6 m7 m8 m9 m10 n0 n1 n2 n3 n4 n5 n6 n7 n8 n9 n10;cases ze with
          | false =>
            have HZ:=aA (show zz=false by rw [<- Re.out,HZe.out];rfl);obtain ⟨m0,m1,m2,m3,m4,m5,m6,m7,m8,m9,m10⟩:=aD KE.out.n1;obtain ⟨n0,n1,n2,n3,n4,n5,n6,n7,n8,n9,n10⟩:=aD KE.out.n2;go_wp2_with fail
            go_meet;case rel=>exact ⟨by rw [<- HNZ.out,HZ.out];rfl,KE⟩
          | true =>
            have RL:=aA (show (x.wh.length == yw.length)=zz by rw [<- Re.out,HZe.out,Bool.true_and]);have KK:=aA KE.out;clear KE Re;obtain ⟨m0,m1,m2,m3,m4,m5,m6,m7,m8,m9,m10⟩:=aD KK.out.n1;obtain ⟨n0,n1,n2,n3,n4,n5,n6,n7,n8,n9,n10⟩:=aD KK.out.n2;by_cases hl:x.wh.length=yw.length
            · have HZ:=aA (show zz=true by rw [<- RL.out,hl];simp)
              have l1:((x.wh.length:Int) == (yw.length:Int))=true:=by rw [hl];simp
              have l2:((x.wh.length:Int) != (yw.length:Int))=false:=by rw [hl];simp
              clear hl RL;go_wp2_with fail
              go_meet;case rel=>exact ⟨by rw [<- HNZ.out,HZ.out];rfl,KK⟩
            · have HZ:=aA (show zz=false by rw [<- RL.out,beq_eq_false_iff_ne];exact hl)
              have l1:((x.wh.length:Int) == (yw.length:Int))=false:=by rw [beq_eq_false_iff_ne];omega
              have l2:((x.wh.length:Int) != (yw.length:Int))=true:=by rw [bne,l1];rfl
              clear hl RL;go_wp2_with fail
              go_meet;case rel=>exact ⟨by rw [<- HNZ.out,HZ.out];rfl,KK⟩
 case rest =>
  obtain ⟨rfl,K0⟩:=hcut;have hz:zz= !nz:=by rw [<- HNZ.out];simp
  subst hz;cases nz with
  | true =>
    have TR:=aA (show false=r by rw [<- HR2.out];rfl);go_wp2_with fail
    go_ret;exact ⟨congrArg (fun z=>Ending.returned (.bool z)) TR.out,K0.out.b⟩
  | false =>
    have HLE:=aA (show x.wh.length=yw.length from HL.out rfl);obtain rfl:yf=x.fn:=HY.out rfl;clear HL HY;have HL:=HLE;clear HLE;have T0:=aA (show eI (x.wh.drop 0) (yw.drop 0)=r by rw [List.drop_zero,List.drop_zero, <- HR2.out];rfl);go_wp2_with fail
    go_loopw [5] (fun i wr=>∃ (k:Nat),i=.int .i64 k/\k<=x.wh.length/\Hid (eI (x.wh.drop k) (yw.drop k)=r)/\Hid (KS G H w x p ⟨x.fn,yk,ye,yg,yw⟩ q wr)) (fun i _=>x.wh.length-(intOf i).toNat)
    case atStart=>exact ⟨0,rfl,Nat.zero_le _,T0,K0⟩
    case round =>
     obtain ⟨k,rfl,hk,HC,HK⟩:=hrel;by_cases hlt:k<x.wh.length
     · have hlt2:k<yw.length:=by have:=HL.out;omega
       obtain ⟨d,hd⟩:∃ d,x.wh[k]? = some d:=⟨_,List.getElem?_eq_getElem hlt⟩;obtain ⟨u,hu⟩:∃ d,yw[k]? = some d:=⟨_,List.getElem?_eq_getElem hlt2⟩;have hne:¬ x.wh=[]:=fun e=>by rw [e] at hlt;simp at hlt
       have hne2:¬ yw=[]:=fun e=>by rw [e] at hlt2;simp at hlt2
       obtain ⟨b,off,hwa, -,hbl,hcc⟩:=HK.out.r1.c.resolve_left hne;obtain ⟨g,oof,hwb, -,hgl,hdd⟩:=HK.out.r2.c.resolve_left hne2;obtain ⟨a1,c1,a2,c2,⟨p0,p1,p2,p3,p4,p5,p6,p7,p8⟩,r1,r2⟩:=hcc k d hd;obtain ⟨e1,f1,e2,f2,⟨q0,q1,q2,q3,q4,q5,q6,q7,q8⟩,s1,s2⟩:=hdd k u hu;obtain ⟨-, -, -, -, -, -, -, -, -, -,m10⟩:=aD HK.out.n1;obtain ⟨-, -, -, -, -, -, -, -, -, -,n10⟩:=aD HK.out.n2;rw [hwa] at m10;have n10':wr.cell? ⟨w.heap.size+1,10,none⟩=some (.slice (some ⟨g,oof,none⟩) x.wh.length q.wc):=by rw [n10, <- hwb,HL.out]
       clear n10;have n10:=n10';clear n10'
       have CELLS:=aA (p:=∀ V,Below wr.heap.size wr V->(V.cell? ⟨w.heap.size,10,none⟩=some (.slice (some ⟨b,off,none⟩) x.wh.length p.wc)/\V.cell? ⟨w.heap.size+1,10,none⟩=some (.slice (some ⟨g,oof,none⟩) x.wh.length q.wc)/\V.cell? ⟨b,off+k*9,none⟩=some (.string d.op)/\V.cell? ⟨b,off+k*9+1,none⟩=some (.string d.a.op)/\V.cell? ⟨b,off+k*9+1+1,none⟩=some (.string d.a.nm)/\V.cell? ⟨b,off+k*9+1+2,none⟩=some (.int .i64 d.a.n)/\V.cell? ⟨b,off+k*9+1+3,none⟩=some (.slice a1 d.a.ks.len c1)/\V.cell? ⟨b,off+k*9+5,none⟩=some (.string d.b.op)/\V.cell? ⟨b,off+k*9+5+1,none⟩=some (.string d.b.nm)/\V.cell? ⟨b,off+k*9+5+2,none⟩=some (.int .i64 d.b.n)/\V.cell? ⟨b,off+k*9+5+3,none⟩=some (.slice a2 d.b.ks.len c2)/\V.cell? ⟨g,oof+k*9,none⟩=some (.string u.op)/\V.cell? ⟨g,oof+k*9+1,none⟩=some (.string u.a.op)/\V.cell? ⟨g,oof+k*9+1+1,none⟩=some (.string u.a.nm)/\V.cell? ⟨g,oof+k*9+1+2,none⟩=some (.int .i64 u.a.n)/\V.cell? ⟨g,oof+k*9+1+3,none⟩=some (.slice e1 u.a.ks.len f1)/\V.cell? ⟨g,oof+k*9+5,none⟩=some (.string u.b.op)/\V.cell? ⟨g,oof+k*9+5+1,none⟩=some (.string u.b.nm)/\V.cell? ⟨g,oof+k*9+5+2,none⟩=some (.int .i64 u.b.n)/\V.cell? ⟨g,oof+k*9+5+3,none⟩=some (.slice e2 u.b.ks.len f2))) (fun V hV=>by
        have z1:=aC HK.out.n1;have z2:=aC HK.out.n2;exact ⟨(hV.cell (p:=⟨w.heap.size,_,none⟩) z1).trans m10,(hV.cell (p:=⟨w.heap.size+1,_,none⟩) z2).trans n10,(hV.cell (p:=⟨b,_,none⟩) hbl).trans p0,(hV.cell (p:=⟨b,_,none⟩) hbl).trans p1,(hV.cell (p:=⟨b,_,none⟩) hbl).trans p2,(hV.cell (p:=⟨b,_,none⟩) hbl).trans p3,(hV.cell (p:=⟨b,_,none⟩) hbl).trans p4,(hV.cell (p:=⟨b,_,none⟩) hbl).trans p5,(hV.cell (p:=⟨b,_,none⟩) hbl).trans p6,(hV.cell (p:=⟨b,_,none⟩) hbl).trans p7,(hV.cell (p:=⟨b,_,none⟩) hbl).trans p8,(hV.cell (p:=⟨g,_,none⟩) hgl).trans q0,(hV.cell (p:=⟨g,_,none⟩) hgl).trans q1,(hV.cell (p:=⟨g,_,none⟩) hgl).trans q2,(hV.cell (p:=⟨g,_,none⟩) hgl).trans q3,(hV.cell (p:=⟨g,_,none⟩) hgl).trans q4,(hV.cell (p:=⟨g,_,none⟩) hgl).trans q5,(hV.cell (p:=⟨g,_,none⟩) hgl).trans q6,(hV.cell (p:=⟨g,_,none⟩) hgl).trans q7,(hV.cell (p:=⟨g,_,none⟩) hgl).trans q8⟩)
       have hdr:x.wh.drop k=d::x.wh.drop (k+1):=by
        rw [List.drop_eq_getElem_cons hlt];have:=List.getElem?_eq_getElem hlt;rw [this] at hd;rw [Option.some.inj hd]
       have hur:yw.drop k=u::yw.drop (k+1):=by
        rw [List.drop_eq_getElem_cons hlt2];have:=List.getElem?_eq_getElem hlt2;rw [this] at hu;rw [Option.some.inj hu]
       have hsz:=HS.out.c d (List.mem_of_getElem? hd);have hC:=HC.out;rw [hdr,hur,eI] at hC;have C1:=aA (fun V (hV:Below wr.heap.size wr V)=>jJ d.a G H V a1 e1 c1 f1 u.a hsz.1.lens (r1.kept hV) (s1.kept hV));have C2:=aA (fun V (hV:Below wr.heap.size wr V)=>jJ d.b G H V a2 e2 c2 f2 u.b hsz.2.lens (r2.kept hV) (s2.kept hV));obtain ⟨z1,hz1⟩:∃ z,bW d.a u.a=z:=⟨_,rfl⟩;obtain ⟨z2,hz2⟩:∃ z,bW d.b u.b=z:=⟨_,rfl⟩;rw [hz1] at C1 hC;rw [hz2] at C2 hC;have b1:(k:Int)<(x.wh.length:Int):=by omega
       have b2:(0:Int)<=(k:Int):=by omega
       have b3:((k:Int)).toNat=k:=by omega
       clear hne hne2 hcc hdd hdr hur hsz hz1 hz2 r1 r2 s1 s2 hd hu hwa hwb HC;cases ho:(d.op.toList == u.op.toList) with
       | false =>
         have ho2:(d.op.toList != u.op.toList)=true:=by rw [bne,ho];rfl
         have TR:=aA (show false=r by rw [<- hC,ho];rfl);clear hC;go_wp2_with (go_quiet (fail))
         go_ret;exact ⟨congrArg (fun z=>Ending.returned (.bool z)) TR.out,eY HK.out.b _⟩
       | true =>
         have ho2:(d.op.toList != u.op.toList)=false:=by rw [bne,ho];rfl
         rw [ho] at hC;cases z1 with
         | false =>
           have TR:=aA (show false=r by rw [<- hC];rfl);clear hC;go_upto_region 6 with fail
           refine wp_region_held (S:=fun V=>V.cell? ⟨w.heap.size,10,none⟩=some (.slice (some ⟨b,off,none⟩) x.wh.length p.wc)/\V.cell? ⟨w.heap.size+1,10,none⟩=some (.slice (some ⟨g,oof,none⟩) x.wh.length q.wc)/\V.cell? ⟨b,off+k*9,none⟩=some (.string d.op)/\V.cell? ⟨b,off+k*9+1,none⟩=some (.string d.a.op)/\V.cell? ⟨b,off+k*9+1+1,none⟩=some (.string d.a.nm)/\V.cell? ⟨b,off+k*9+1+2,none⟩=some (.int .i64 d.a.n)/\V.cell? ⟨b,off+k*9+1+3,none⟩=some (.slice a1 d.a.ks.len c1)/\V.cell? ⟨b,off+k*9+5,none⟩=some (.string d.b.op)/\V.cell? ⟨b,off+k*9+5+1,none⟩=some (.string d.b.nm)/\V.cell? ⟨b,off+k*9+5+2,none⟩=some (.int .i64 d.b.n)/\V.cell? ⟨b,off+k*9+5+3,none⟩=some (.slice a2 d.b.ks.len c2)/\V.cell? ⟨g,oof+k*9,none⟩=some (.string u.op)/\V.cell? ⟨g,oof+k*9+1,none⟩=some (.string u.a.op)/\V.cell? ⟨g,oof+k*9+1+1,none⟩=some (.string u.a.nm)/\V.cell? ⟨g,oof+k*9+1+2,none⟩=some (.int .i64 u.a.n)/\V.cell? ⟨g,oof+k*9+1+3,none⟩=some (.slice e1 u.a.ks.len f1)/\V.cell? ⟨g,oof+k*9+5,none⟩=some (.string u.b.op)/\V.cell? ⟨g,oof+k*9+5+1,none⟩=some (.string u.b.nm)/\V.cell? ⟨g,oof+k*9+5+2,none⟩=some (.int .i64 u.b.n)/\V.cell? ⟨g,oof+k*9+5+3,none⟩=some (.slice e2 u.b.ks.len f2)) (by kernel_rfl) ?_;have hHeld:(fun V:World=>V.cell? ⟨w.heap.size,10,none⟩=some (.slice (some ⟨b,off,none⟩) x.wh.length p.wc)/\V.cell? ⟨w.heap.size+1,10,none⟩=some (.slice (some ⟨g,oof,none⟩) x.wh.length q.wc)/\V.cell? ⟨b,off+k*9,none⟩=some (.string d.op)/\V.cell? ⟨b,off+k*9+1,none⟩=some (.string d.a.op)/\V.cell? ⟨b,off+k*9+1+1,none⟩=some (.string d.a.nm)/\V.cell? ⟨b,off+k*9+1+2,none⟩=some (.int .i64 d.a.n)/\V.cell? ⟨b,off+k*9+1+3,none⟩=some (.slice a1 d.a.ks.len c1)/\V.cell? ⟨b,off+k*9+5,none⟩=some (.string d.b.op)/\V.cell? ⟨b,off+k*9+5+1,none⟩=some (.string d.b.nm)/\V.cell? ⟨b,off+k*9+5+2,none⟩=some (.int .i64 d.b.n)/\V.cell? ⟨b,off+k*9+5+3,none⟩=some (.slice a2 d.b.ks.len c2)/\V.cell? ⟨g,oof+k*9,none⟩=some (.string u.op)/\V.cell? ⟨g,oof+k*9+1,none⟩=some (.string u.a.op)/\V.cell? ⟨g,oof+k*9+1+1,none⟩=some (.string u.a.nm)/\V.cell? ⟨g,oof+k*9+1+2,none⟩=some (.int .i64 u.a.n)/\V.cell? ⟨g,oof+k*9+1+3,none⟩=some (.slice e1 u.a.ks.len f1)/\V.cell? ⟨g,oof+k*9+5,none⟩=some (.string u.b.op)/\V.cell? ⟨g,oof+k*9+5+1,none⟩=some (.string u.b.nm)/\V.cell? ⟨g,oof+k*9+5+2,none⟩=some (.int .i64 u.b.n)/\V.cell? ⟨g,oof+k*9+5+3,none⟩=some (.slice e2 u.b.ks.len f2)) wr.drew:=⟨m10,n10,p0,p1,p2,p3,p4,p5,p6,p7,p8,q0,q1,q2,q3,q4,q5,q6,q7,q8⟩
           clear m10 n10 p0 p1 p2 p3 p4 p5 p6 p7 p8 q0 q1 q2 q3 q4 q5 q6 q7 q8;refine aB (i:=0) (d:=some 65) (v:=.pointer (some ⟨w.heap.size,10,none⟩)) rfl rfl (by kernel_rfl) (by kernel_rfl) (by kernel_rfl) (fun _ _ _ h=>h) (Or.inl ⟨by rfl,by rintro w ⟨m10,n10,p0,p1,p2,p3,p4,p5,p6,p7,p8,q0,q1,q2,q3,q4,q5,q6,q7,q8⟩;go_simp⟩) hHeld ?_;simp only [Act.put,Kk,Kl,Km];refine aB (i:=1) (d:=some 66) (v:=.slice (some ⟨b,off,none⟩) x.wh.length p.wc) rfl rfl (by kernel_rfl) (by kernel_rfl) (by kernel_rfl) (fun _ _ _ h=>h) (Or.inl ⟨by rfl,by rintro w ⟨m10,n10,p0,p1,p2,p3,p4,p5,p6,p7,p8,q0,q1,q2,q3,q4,q5,q6,q7,q8⟩;go_simp⟩) hHeld ?_;simp only [Act.put,Kk,Kl,Km];refine aB (i:=2) (d:=some 67) (v:=.int .i64 (k:Nat)) rfl rfl (by kernel_rfl) (by kernel_rfl) (by kernel_rfl) (fun _ _ _ h=>h) (Or.inl ⟨by rfl,by rintro w ⟨m10,n10,p0,p1,p2,p3,p4,p5,p6,p7,p8,q0,q1,q2,q3,q4,q5,q6,q7,q8⟩;go_simp⟩) hHeld ?_;simp only [Act.put,Kk,Kl,Km];refine aB (i:=3) (d:=some 68) (v:=.pointer (some ⟨b,off+k*9,none⟩)) rfl rfl (by kernel_rfl) (by kernel_rfl) (by kernel_rfl) (fun _ _ _ h=>h) (Or.inl ⟨by rfl,by rintro w ⟨m10,n10,p0,p1,p2,p3,p4,p5,p6,p7,p8,q0,q1,q2,q3,q4,q5,q6,q7,q8⟩;go_simp⟩) hHeld ?_;simp only [Act.put,Kk,Kl,Km];refine aB (i:=4) (d:=some 69) (v:=.pointer (some ⟨b,off+k*9,none⟩)) rfl rfl (by kernel_rfl) (by kernel_rfl) (by kernel_rfl) (fun _ _ _ h=>h) (Or.inl ⟨by rfl,by rintro w ⟨m10,n10,p0,p1,p2,p3,p4,p5,p6,p7,p8,q0,q1,q2,q3,q4,q5,q6,q7,q8⟩;go_simp⟩) hHeld ?_;simp only [Act.put,Kk,Kl,Km];refine aB (i:=5) (d:=some 70) (v:=.string d.op) rfl rfl (by kernel_rfl) (by kernel_rfl) (by kernel_rfl) (fun _ _ _ h=>h) (Or.inl ⟨by rfl,by rintro w ⟨m10,n10,p0,p1,p2,p3,p4,p5,p6,p7,p8,q0,q1,q2,q3,q4,q5,q6,q7,q8⟩;go_simp⟩) hHeld ?_
           simp only [Act.put,Kk,Kl,Km];refine aB (i:=6) (d:=some 71) (v:=.pointer (some ⟨w.heap.size+1,10,none⟩)) rfl rfl (by kernel_rfl) (by kernel_rfl) (by kernel_rfl) (fun _ _ _ h=>h) (Or.inl ⟨by rfl,by rintro w ⟨m10,n10,p0,p1,p2,p3,p4,p5,p6,p7,p8,q0,q1,q2,q3,q4,q5,q6,q7,q8⟩;go_simp⟩) hHeld ?_;simp only [Act.put,Kk,Kl,Km];refine aB (i:=7) (d:=some 72) (v:=.slice (some ⟨g,oof,none⟩) x.wh.length q.wc) rfl rfl (by kernel_rfl) (by kernel_rfl) (by kernel_rfl) (fun _ _ _ h=>h) (Or.inl ⟨by rfl,by rintro w ⟨m10,n10,p0,p1,p2,p3,p4,p5,p6,p7,p8,q0,q1,q2,q3,q4,q5,q6,q7,q8⟩;go_simp⟩) hHeld ?_;simp only [Act.put,Kk,Kl,Km];refine aB (i:=8) (d:=some 73) (v:=.int .i64 (k:Nat)) rfl rfl (by kernel_rfl) (by kernel_rfl) (by kernel_rfl) (fun _ _ _ h=>h) (Or.inl ⟨by rfl,by rintro w ⟨m10,n10,p0,p1,p2,p3,p4,p5,p6,p7,p8,q0,q1,q2,q3,q4,q5,q6,q7,q8⟩;go_simp⟩) hHeld ?_;simp only [Act.put,Kk,Kl,Km];refine aB (i:=9) (d:=some 74) (v:=.pointer (some ⟨g,oof+k*9,none⟩)) rfl rfl (by kernel_rfl) (by kernel_rfl) (by kernel_rfl) (fun _ _ _ h=>h) (Or.inl ⟨by rfl,by rintro w ⟨m10,n10,p0,p1,p2,p3,p4,p5,p6,p7,p8,q0,q1,q2,q3,q4,q5,q6,q7,q8⟩;go_simp⟩) hHeld ?_;simp only [Act.put,Kk,Kl,Km];refine aB (i:=10) (d:=some 75) (v:=.pointer (some ⟨g,oof+k*9,none⟩)) rfl rfl (by kernel_rfl) (by kernel_rfl) (by kernel_rfl) (fun _ _ _ h=>h) (Or.inl ⟨by rfl,by rintro w ⟨m10,n10,p0,p1,p2,p3,p4,p5,p6,p7,p8,q0,q1,q2,q3,q4,q5,q6,q7,q8⟩;go_simp⟩) hHeld ?_;simp only [Act.put,Kk,Kl,Km];refine aB (i:=11) (d:=some 76) (v:=.string u.op) rfl rfl (by kernel_rfl) (by kernel_rfl) (by kernel_rfl) (fun _ _ _ h=>h) (Or.inl ⟨by rfl,by rintro w ⟨m10,n10,p0,p1,p2,p3,p4,p5,p6,p7,p8,q0,q1,q2,q3,q4,q5,q6,q7,q8⟩;go_simp⟩) hHeld ?_
           simp only [Act.put,Kk,Kl,Km];refine aB (i:=12) (d:=some 77) (v:=.bool false) rfl rfl (by kernel_rfl) (by kernel_rfl) (by kernel_rfl) (fun _ _ _ h=>h) (Or.inl ⟨by rfl,by rintro w ⟨m10,n10,p0,p1,p2,p3,p4,p5,p6,p7,p8,q0,q1,q2,q3,q4,q5,q6,q7,q8⟩;go_simp⟩) hHeld ?_;simp only [Act.put,Kk,Kl,Km];refine aB (i:=13) (d:=some 78) (v:=.bool false) rfl rfl (by kernel_rfl) (by kernel_rfl) (by kernel_rfl) (fun _ _ _ h=>h) (Or.inl ⟨by rfl,by rintro w ⟨m10,n10,p0,p1,p2,p3,p4,p5,p6,p7,p8,q0,q1,q2,q3,q4,q5,q6,q7,q8⟩;go_simp⟩) hHeld ?_;simp only [Act.put,Kk,Kl,Km];refine aB (i:=14) (d:=some 79) (v:=.pointer (some ⟨w.heap.size,10,none⟩)) rfl rfl (by kernel_rfl) (by kernel_rfl) (by kernel_rfl) (fun _ _ _ h=>h) (Or.inl ⟨by rfl,by rintro w ⟨m10,n10,p0,p1,p2,p3,p4,p5,p6,p7,p8,q0,q1,q2,q3,q4,q5,q6,q7,q8⟩;go_simp⟩) hHeld ?_;simp only [Act.put,Kk,Kl,Km];refine aB (i:=15) (d:=some 80) (v:=.slice (some ⟨b,off,none⟩) x.wh.length p.wc) rfl rfl (by kernel_rfl) (by kernel_rfl) (by kernel_rfl) (fun _ _ _ h=>h) (Or.inl ⟨by rfl,by rintro w ⟨m10,n10,p0,p1,p2,p3,p4,p5,p6,p7,p8,q0,q1,q2,q3,q4,q5,q6,q7,q8⟩;go_simp⟩) hHeld ?_;simp only [Act.put,Kk,Kl,Km];refine aB (i:=16) (d:=some 81) (v:=.int .i64 (k:Nat)) rfl rfl (by kernel_rfl) (by kernel_rfl) (by kernel_rfl) (fun _ _ _ h=>h) (Or.inl ⟨by rfl,by rintro w ⟨m10,n10,p0,p1,p2,p3,p4,p5,p6,p7,p8,q0,q1,q2,q3,q4,q5,q6,q7,q8⟩;go_simp⟩) hHeld ?_;simp only [Act.put,Kk,Kl,Km];refine aB (i:=17) (d:=some 82) (v:=.pointer (some ⟨b,off+k*9,none⟩)) rfl rfl (by kernel_rfl) (by kernel_rfl) (by kernel_rfl) (fun _ _ _ h=>h) (Or.inl ⟨by rfl,by rintro w ⟨m10,n10,p0,p1,p2,p3,p4,p5,p6,p7,p8,q0,q1,q2,q3,q4,q5,q6,q7,q8⟩;go_simp⟩) hHeld ?_
           simp only [Act.put,Kk,Kl,Km];refine aB (i:=18) (d:=some 83) (v:=.pointer (some ⟨b,off+k*9+1,none⟩)) rfl rfl (by kernel_rfl) (by kernel_rfl) (by kernel_rfl) (fun _ _ _ h=>h) (Or.inl ⟨by rfl,by rintro w ⟨m10,n10,p0,p1,p2,p3,p4,p5,p6,p7,p8,q0,q1,q2,q3,q4,q5,q6,q7,q8⟩;go_simp⟩) hHeld ?_;simp only [Act.put,Kk,Kl,Km];refine aB (i:=19) (d:=some 84) (v:=bI d.a.op d.a.nm d.a.n a1 d.a.ks.len c1) rfl rfl (by kernel_rfl) (by kernel_rfl) (by kernel_rfl) (fun _ _ _ h=>h) (Or.inl ⟨by rfl,by rintro w ⟨m10,n10,p0,p1,p2,p3,p4,p5,p6,p7,p8,q0,q1,q2,q3,q4,q5,q6,q7,q8⟩;go_simp⟩) hHeld ?_;simp only [Act.put,Kk,Kl,Km];refine aB (i:=20) (d:=some 85) (v:=.pointer (some ⟨w.heap.size+1,10,none⟩)) rfl rfl (by kernel_rfl) (by kernel_rfl) (by kernel_rfl) (fun _ _ _ h=>h) (Or.inl ⟨by rfl,by rintro w ⟨m10,n10,p0,p1,p2,p3,p4,p5,p6,p7,p8,q0,q1,q2,q3,q4,q5,q6,q7,q8⟩;go_simp⟩) hHeld ?_;simp only [Act.put,Kk,Kl,Km];refine aB (i:=21) (d:=some 86) (v:=.slice (some ⟨g,oof,none⟩) x.wh.length q.wc) rfl rfl (by kernel_rfl) (by kernel_rfl) (by kernel_rfl) (fun _ _ _ h=>h) (Or.inl ⟨by rfl,by rintro w ⟨m10,n10,p0,p1,p2,p3,p4,p5,p6,p7,p8,q0,q1,q2,q3,q4,q5,q6,q7,q8⟩;go_simp⟩) hHeld ?_;simp only [Act.put,Kk,Kl,Km];refine aB (i:=22) (d:=some 87) (v:=.int .i64 (k:Nat)) rfl rfl (by kernel_rfl) (by kernel_rfl) (by kernel_rfl) (fun _ _ _ h=>h) (Or.inl ⟨by rfl,by rintro w ⟨m10,n10,p0,p1,p2,p3,p4,p5,p6,p7,p8,q0,q1,q2,q3,q4,q5,q6,q7,q8⟩;go_simp⟩) hHeld ?_;simp only [Act.put,Kk,Kl,Km];refine aB (i:=23) (d:=some 88) (v:=.pointer (some ⟨g,oof+k*9,none⟩)) rfl rfl (by kernel_rfl) (by kernel_rfl) (by kernel_rfl) (fun _ _ _ h=>h) (Or.inl ⟨by rfl,by rintro w ⟨m10,n10,p0,p1,p2,p3,p4,p5,p6,p7,p8,q0,q1,q2,q3,q4,q5,q6,q7,q8⟩;go_simp⟩) hHeld ?_
           simp only [Act.put,Kk,Kl,Km];refine aB (i:=24) (d:=some 89) (v:=.pointer (some ⟨g,oof+k*9+1,none⟩)) rfl rfl (by kernel_rfl) (by kernel_rfl) (by kernel_rfl) (fun _ _ _ h=>h) (Or.inl ⟨by rfl,by rintro w ⟨m10,n10,p0,p1,p2,p3,p4,p5,p6,p7,p8,q0,q1,q2,q3,q4,q5,q6,q7,q8⟩;go_simp⟩) hHeld ?_;simp only [Act.put,Kk,Kl,Km];refine aB (i:=25) (d:=some 90) (v:=bI u.a.op u.a.nm u.a.n e1 u.a.ks.len f1) rfl rfl (by kernel_rfl) (by kernel_rfl) (by kernel_rfl) (fun _ _ _ h=>h) (Or.inl ⟨by rfl,by rintro w ⟨m10,n10,p0,p1,p2,p3,p4,p5,p6,p7,p8,q0,q1,q2,q3,q4,q5,q6,q7,q8⟩;go_simp⟩) hHeld ?_;simp only [Act.put,Kk,Kl,Km];refine wpAnyH_ready (rs:=[26]) (by kernel_rfl) (by simp) ?_;refine AllReadyH.cons (o:=_) rfl (fun K hK=>?_) AllReadyH.nil;go_simp
           refine (C1.out _ (aH wr)).mono ?_;rintro e w5 ⟨rfl,hb⟩;have B5:=aA ((aH wr).trans hb);have cc:=CELLS.out _ B5.out;clear hb;refine hK.out _ _ cc (fun hHeld5=>?_);try simp only [Act.put,Kk,Kl,Km]
           clear hK K;clear hHeld;refine aB (i:=27) (d:=some 92) (v:=.bool true) rfl rfl (by kernel_rfl) (by kernel_rfl) (by kernel_rfl) (fun _ _ _ h=>h) (Or.inl ⟨by rfl,by rintro w ⟨m10,n10,p0,p1,p2,p3,p4,p5,p6,p7,p8,q0,q1,q2,q3,q4,q5,q6,q7,q8⟩;go_simp⟩) hHeld5 ?_;simp only [Act.put,Kk,Kl,Km];refine aB (i:=28) (d:=some 93) (v:=.bool true) rfl rfl (by kernel_rfl) (by kernel_rfl) (by kernel_rfl) (fun _ _ _ h=>h) (Or.inl ⟨by rfl,by rintro w ⟨m10,n10,p0,p1,p2,p3,p4,p5,p6,p7,p8,q0,q1,q2,q3,q4,q5,q6,q7,q8⟩;go_simp⟩) hHeld5 ?_;simp only [Act.put,Kk,Kl,Km];refine aB (i:=29) (d:=some 94) (v:=.bool true) rfl rfl (by kernel_rfl) (by kernel_rfl) (by kernel_rfl) (fun _ _ _ h=>h) (Or.inl ⟨by rfl,by rintro w ⟨m10,n10,p0,p1,p2,p3,p4,p5,p6,p7,p8,q0,q1,q2,q3,q4,q5,q6,q7,q8⟩;go_simp⟩) hHeld5 ?_;simp only [Act.put,Kk,Kl,Km];refine aB (i:=30) (d:=some 95) (v:=undef) rfl rfl (by kernel_rfl) (by kernel_rfl) (by kernel_rfl) (fun _ _ _ h=>h) (Or.inr ⟨by rfl,rfl⟩) hHeld5 ?_;simp only [Act.put,Kk,Kl,Km];refine aB (i:=31) (d:=some 96) (v:=undef) rfl rfl (by kernel_rfl) (by kernel_rfl) (by kernel_rfl) (fun _ _ _ h=>h) (Or.inr ⟨by rfl,rfl⟩) hHeld5 ?_;simp only [Act.put,Kk,Kl,Km];refine aB (i:=32) (d:=some 97) (v:=undef) rfl rfl (by kernel_rfl) (by kernel_rfl) (by kernel_rfl) (fun _ _ _ h=>h) (Or.inr ⟨by rfl,rfl⟩) hHeld5 ?_;simp only [Act.put,Kk,Kl,Km];refine aB (i:=33) (d:=some 98) (v:=undef) rfl rfl (by kernel_rfl) (by kernel_rfl) (by kernel_rfl) (fun _ _ _ h=>h) (Or.inr ⟨by rfl,rfl⟩) hHeld5 ?_;simp only [Act.put,Kk,Kl,Km]
           refine aB (i:=34) (d:=some 99) (v:=undef) rfl rfl (by kernel_rfl) (by kernel_rfl) (by kernel_rfl) (fun _ _ _ h=>h) (Or.inr ⟨by rfl,rfl⟩) hHeld5 ?_;simp only [Act.put,Kk,Kl,Km];refine aB (i:=35) (d:=some 100) (v:=undef) rfl rfl (by kernel_rfl) (by kernel_rfl) (by kernel_rfl) (fun _ _ _ h=>h) (Or.inr ⟨by rfl,rfl⟩) hHeld5 ?_;simp only [Act.put,Kk,Kl,Km];refine aB (i:=36) (d:=some 101) (v:=undef) rfl rfl (by kernel_rfl) (by kernel_rfl) (by kernel_rfl) (fun _ _ _ h=>h) (Or.inr ⟨by rfl,rfl⟩) hHeld5 ?_;simp only [Act.put,Kk,Kl,Km];refine aB (i:=37) (d:=some 102) (v:=undef) rfl rfl (by kernel_rfl) (by kernel_rfl) (by kernel_rfl) (fun _ _ _ h=>h) (Or.inr ⟨by rfl,rfl⟩) hHeld5 ?_;simp only [Act.put,Kk,Kl,Km];refine aB (i:=38) (d:=some 103) (v:=undef) rfl rfl (by kernel_rfl) (by kernel_rfl) (by kernel_rfl) (fun _ _ _ h=>h) (Or.inr ⟨by rfl,rfl⟩) hHeld5 ?_;simp only [Act.put,Kk,Kl,Km];refine aB (i:=39) (d:=some 104) (v:=undef) rfl rfl (by kernel_rfl) (by kernel_rfl) (by kernel_rfl) (fun _ _ _ h=>h) (Or.inr ⟨by rfl,rfl⟩) hHeld5 ?_;simp only [Act.put,Kk,Kl,Km];refine aB (i:=40) (d:=some 105) (v:=undef) rfl rfl (by kernel_rfl) (by kernel_rfl) (by kernel_rfl) (fun _ _ _ h=>h) (Or.inr ⟨by rfl,rfl⟩) hHeld5 ?_;simp only [Act.put,Kk,Kl,Km];refine aB (i:=41) (d:=some 106) (v:=undef) rfl rfl (by kernel_rfl) (by kernel_rfl) (by kernel_rfl) (fun _ _ _ h=>h) (Or.inr ⟨by rfl,rfl⟩) hHeld5 ?_;simp only [Act.put,Kk,Kl,Km];refine aB (i:=42) (d:=some 107) (v:=undef) rfl rfl (by kernel_rfl) (by kernel_rfl) (by kernel_rfl) (fun _ _ _ h=>h) (Or.inr ⟨by rfl,rfl⟩) hHeld5 ?_
           simp only [Act.put,Kk,Kl,Km];refine aB (i:=43) (d:=some 108) (v:=undef) rfl rfl (by kernel_rfl) (by kernel_rfl) (by kernel_rfl) (fun _ _ _ h=>h) (Or.inr ⟨by rfl,rfl⟩) hHeld5 ?_;simp only [Act.put,Kk,Kl,Km];refine aB (i:=44) (d:=some 109) (v:=.bool true) rfl rfl (by kernel_rfl) (by kernel_rfl) (by kernel_rfl) (fun _ _ _ h=>h) (Or.inl ⟨by rfl,by rintro w ⟨m10,n10,p0,p1,p2,p3,p4,p5,p6,p7,p8,q0,q1,q2,q3,q4,q5,q6,q7,q8⟩;go_simp⟩) hHeld5 ?_;simp only [Act.put,Kk,Kl,Km];refine wpAnyH_done (by kernel_rfl) ?_ _;clear hHeld5;have HE:=aA (HK.out.step B5.out);clear B5 CELLS C1 C2 cc;go_wp2_with fail
           go_ret;exact ⟨congrArg (fun z=>Ending.returned (.bool z)) TR.out,HE.out.b⟩
         | true =>
           have HC1:=aA (show (z2 && eI (x.wh.drop (k+1)) (yw.drop (k+1)))=r by rw [<- hC];simp);clear hC;go_upto_region 6 with fail
           refine wp_region_held (S:=fun V=>V.cell? ⟨w.heap.size,10,none⟩=some (.slice (some ⟨b,off,none⟩) x.wh.length p.wc)/\V.cell? ⟨w.heap.size+1,10,none⟩=some (.slice (some ⟨g,oof,none⟩) x.wh.length q.wc)/\V.cell? ⟨b,off+k*9,none⟩=some (.string d.op)/\V.cell? ⟨b,off+k*9+1,none⟩=some (.string d.a.op)/\V.cell? ⟨b,off+k*9+1+1,none⟩=some (.string d.a.nm)/\V.cell? ⟨b,off+k*9+1+2,none⟩=some (.int .i64 d.a.n)/\V.cell? ⟨b,off+k*9+1+3,none⟩=some (.slice a1 d.a.ks.len c1)/\V.cell? ⟨b,off+k*9+5,none⟩=some (.string d.b.op)/\V.cell? ⟨b,off+k*9+5+1,none⟩=some (.string d.b.nm)/\V.cell? ⟨b,off+k*9+5+2,none⟩=some (.int .i64 d.b.n)/\V.cell? ⟨b,off+k*9+5+3,none⟩=some (.slice a2 d.b.ks.len c2)/\V.cell? ⟨g,oof+k*9,none⟩=some (.string u.op)/\V.cell? ⟨g,oof+k*9+1,none⟩=some (.string u.a.op)/\V.cell? ⟨g,oof+k*9+1+1,none⟩=some (.string u.a.nm)/\V.cell? ⟨g,oof+k*9+1+2,none⟩=some (.int .i64 u.a.n)/\V.cell? ⟨g,oof+k*9+1+3,none⟩=some (.slice e1 u.a.ks.len f1)/\V.cell? ⟨g,oof+k*9+5,none⟩=some (.string u.b.op)/\V.cell? ⟨g,oof+k*9+5+1,none⟩=some (.string u.b.nm)/\V.cell? ⟨g,oof+k*9+5+2,none⟩=some (.int .i64 u.b.n)/\V.cell? ⟨g,oof+k*9+5+3,none⟩=some (.slice e2 u.b.ks.len f2)) (by kernel_rfl) ?_;have hHeld:(fun V:World=>V.cell? ⟨w.heap.size,10,none⟩=some (.slice (some ⟨b,off,none⟩) x.wh.length p.wc)/\V.cell? ⟨w.heap.size+1,10,none⟩=some (.slice (some ⟨g,oof,none⟩) x.wh.length q.wc)/\V.cell? ⟨b,off+k*9,none⟩=some (.string d.op)/\V.cell? ⟨b,off+k*9+1,none⟩=some (.string d.a.op)/\V.cell? ⟨b,off+k*9+1+1,none⟩=some (.string d.a.nm)/\V.cell? ⟨b,off+k*9+1+2,none⟩=some (.int .i64 d.a.n)/\V.cell? ⟨b,off+k*9+1+3,none⟩=some (.slice a1 d.a.ks.len c1)/\V.cell? ⟨b,off+k*9+5,none⟩=some (.string d.b.op)/\V.cell? ⟨b,off+k*9+5+1,none⟩=some (.string d.b.nm)/\V.cell? ⟨b,off+k*9+5+2,none⟩=some (.int .i64 d.b.n)/\V.cell? ⟨b,off+k*9+5+3,none⟩=some (.slice a2 d.b.ks.len c2)/\V.cell? ⟨g,oof+k*9,none⟩=some (.string u.op)/\V.cell? ⟨g,oof+k*9+1,none⟩=some (.string u.a.op)/\V.cell? ⟨g,oof+k*9+1+1,none⟩=some (.string u.a.nm)/\V.cell? ⟨g,oof+k*9+1+2,none⟩=some (.int .i64 u.a.n)/\V.cell? ⟨g,oof+k*9+1+3,none⟩=some (.slice e1 u.a.ks.len f1)/\V.cell? ⟨g,oof+k*9+5,none⟩=some (.string u.b.op)/\V.cell? ⟨g,oof+k*9+5+1,none⟩=some (.string u.b.nm)/\V.cell? ⟨g,oof+k*9+5+2,none⟩=some (.int .i64 u.b.n)/\V.cell? ⟨g,oof+k*9+5+3,none⟩=some (.slice e2 u.b.ks.len f2)) wr.drew:=⟨m10,n10,p0,p1,p2,p3,p4,p5,p6,p7,p8,q0,q1,q2,q3,q4,q5,q6,q7,q8⟩
           clear m10 n10 p0 p1 p2 p3 p4 p5 p6 p7 p8 q0 q1 q2 q3 q4 q5 q6 q7 q8;refine aB (i:=0) (d:=some 65) (v:=.pointer (some ⟨w.heap.size,10,none⟩)) rfl rfl (by kernel_rfl) (by kernel_rfl) (by kernel_rfl) (fun _ _ _ h=>h) (Or.inl ⟨by rfl,by rintro w ⟨m10,n10,p0,p1,p2,p3,p4,p5,p6,p7,p8,q0,q1,q2,q3,q4,q5,q6,q7,q8⟩;go_simp⟩) hHeld ?_;simp only [Act.put,Kk,Kl,Km];refine aB (i:=1) (d:=some 66) (v:=.slice (some ⟨b,off,none⟩) x.wh.length p.wc) rfl rfl (by kernel_rfl) (by kernel_rfl) (by kernel_rfl) (fun _ _ _ h=>h) (Or.inl ⟨by rfl,by rintro w ⟨m10,n10,p0,p1,p2,p3,p4,p5,p6,p7,p8,q0,q1,q2,q3,q4,q5,q6,q7,q8⟩;go_simp⟩) hHeld ?_;simp only [Act.put,Kk,Kl,Km];refine aB (i:=2) (d:=some 67) (v:=.int .i64 (k:Nat)) rfl rfl (by kernel_rfl) (by kernel_rfl) (by kernel_rfl) (fun _ _ _ h=>h) (Or.inl ⟨by rfl,by rintro w ⟨m10,n10,p0,p1,p2,p3,p4,p5,p6,p7,p8,q0,q1,q2,q3,q4,q5,q6,q7,q8⟩;go_simp⟩) hHeld ?_;simp only [Act.put,Kk,Kl,Km];refine aB (i:=3) (d:=some 68) (v:=.pointer (some ⟨b,off+k*9,none⟩)) rfl rfl (by kernel_rfl) (by kernel_rfl) (by kernel_rfl) (fun _ _ _ h=>h) (Or.inl ⟨by rfl,by rintro w ⟨m10,n10,p0,p1,p2,p3,p4,p5,p6,p7,p8,q0,q1,q2,q3,q4,q5,q6,q7,q8⟩;go_simp⟩) hHeld ?_;simp only [Act.put,Kk,Kl,Km];refine aB (i:=4) (d:=some 69) (v:=.pointer (some ⟨b,off+k*9,none⟩)) rfl rfl (by kernel_rfl) (by kernel_rfl) (by kernel_rfl) (fun _ _ _ h=>h) (Or.inl ⟨by rfl,by rintro w ⟨m10,n10,p0,p1,p2,p3,p4,p5,p6,p7,p8,q0,q1,q2,q3,q4,q5,q6,q7,q8⟩;go_simp⟩) hHeld ?_;simp only [Act.put,Kk,Kl,Km];refine aB (i:=5) (d:=some 70) (v:=.string d.op) rfl rfl (by kernel_rfl) (by kernel_rfl) (by kernel_rfl) (fun _ _ _ h=>h) (Or.inl ⟨by rfl,by rintro w ⟨m10,n10,p0,p1,p2,p3,p4,p5,p6,p7,p8,q0,q1,q2,q3,q4,q5,q6,q7,q8⟩;go_simp⟩) hHeld ?_
           simp only [Act.put,Kk,Kl,Km];refine aB (i:=6) (d:=some 71) (v:=.pointer (some ⟨w.heap.size+1,10,none⟩)) rfl rfl (by kernel_rfl) (by kernel_rfl) (by kernel_rfl) (fun _ _ _ h=>h) (Or.inl ⟨by rfl,by rintro w ⟨m10,n10,p0,p1,p2,p3,p4,p5,p6,p7,p8,q0,q1,q2,q3,q4,q5,q6,q7,q8⟩;go_simp⟩) hHeld ?_;simp only [Act.put,Kk,Kl,Km];refine aB (i:=7) (d:=some 72) (v:=.slice (some ⟨g,oof,none⟩) x.wh.length q.wc) rfl rfl (by kernel_rfl) (by kernel_rfl) (by kernel_rfl) (fun _ _ _ h=>h) (Or.inl ⟨by rfl,by rintro w ⟨m10,n10,p0,p1,p2,p3,p4,p5,p6,p7,p8,q0,q1,q2,q3,q4,q5,q6,q7,q8⟩;go_simp⟩) hHeld ?_;simp only [Act.put,Kk,Kl,Km];refine aB (i:=8) (d:=some 73) (v:=.int .i64 (k:Nat)) rfl rfl (by kernel_rfl) (by kernel_rfl) (by kernel_rfl) (fun _ _ _ h=>h) (Or.inl ⟨by rfl,by rintro w ⟨m10,n10,p0,p1,p2,p3,p4,p5,p6,p7,p8,q0,q1,q2,q3,q4,q5,q6,q7,q8⟩;go_simp⟩) hHeld ?_;simp only [Act.put,Kk,Kl,Km];refine aB (i:=9) (d:=some 74) (v:=.pointer (some ⟨g,oof+k*9,none⟩)) rfl rfl (by kernel_rfl) (by kernel_rfl) (by kernel_rfl) (fun _ _ _ h=>h) (Or.inl ⟨by rfl,by rintro w ⟨m10,n10,p0,p1,p2,p3,p4,p5,p6,p7,p8,q0,q1,q2,q3,q4,q5,q6,q7,q8⟩;go_simp⟩) hHeld ?_;simp only [Act.put,Kk,Kl,Km];refine aB (i:=10) (d:=some 75) (v:=.pointer (some ⟨g,oof+k*9,none⟩)) rfl rfl (by kernel_rfl) (by kernel_rfl) (by kernel_rfl) (fun _ _ _ h=>h) (Or.inl ⟨by rfl,by rintro w ⟨m10,n10,p0,p1,p2,p3,p4,p5,p6,p7,p8,q0,q1,q2,q3,q4,q5,q6,q7,q8⟩;go_simp⟩) hHeld ?_;simp only [Act.put,Kk,Kl,Km];refine aB (i:=11) (d:=some 76) (v:=.string u.op) rfl rfl (by kernel_rfl) (by kernel_rfl) (by kernel_rfl) (fun _ _ _ h=>h) (Or.inl ⟨by rfl,by rintro w ⟨m10,n10,p0,p1,p2,p3,p4,p5,p6,p7,p8,q0,q1,q2,q3,q4,q5,q6,q7,q8⟩;go_simp⟩) hHeld ?_
           simp only [Act.put,Kk,Kl,Km];refine aB (i:=12) (d:=some 77) (v:=.bool false) rfl rfl (by kernel_rfl) (by kernel_rfl) (by kernel_rfl) (fun _ _ _ h=>h) (Or.inl ⟨by rfl,by rintro w ⟨m10,n10,p0,p1,p2,p3,p4,p5,p6,p7,p8,q0,q1,q2,q3,q4,q5,q6,q7,q8⟩;go_simp⟩) hHeld ?_;simp only [Act.put,Kk,Kl,Km];refine aB (i:=13) (d:=some 78) (v:=.bool false) rfl rfl (by kernel_rfl) (by kernel_rfl) (by kernel_rfl) (fun _ _ _ h=>h) (Or.inl ⟨by rfl,by rintro w ⟨m10,n10,p0,p1,p2,p3,p4,p5,p6,p7,p8,q0,q1,q2,q3,q4,q5,q6,q7,q8⟩;go_simp⟩) hHeld ?_;simp only [Act.put,Kk,Kl,Km];refine aB (i:=14) (d:=some 79) (v:=.pointer (some ⟨w.heap.size,10,none⟩)) rfl rfl (by kernel_rfl) (by kernel_rfl) (by kernel_rfl) (fun _ _ _ h=>h) (Or.inl ⟨by rfl,by rintro w ⟨m10,n10,p0,p1,p2,p3,p4,p5,p6,p7,p8,q0,q1,q2,q3,q4,q5,q6,q7,q8⟩;go_simp⟩) hHeld ?_;simp only [Act.put,Kk,Kl,Km];refine aB (i:=15) (d:=some 80) (v:=.slice (some ⟨b,off,none⟩) x.wh.length p.wc) rfl rfl (by kernel_rfl) (by kernel_rfl) (by kernel_rfl) (fun _ _ _ h=>h) (Or.inl ⟨by rfl,by rintro w ⟨m10,n10,p0,p1,p2,p3,p4,p5,p6,p7,p8,q0,q1,q2,q3,q4,q5,q6,q7,q8⟩;go_simp⟩) hHeld ?_;simp only [Act.put,Kk,Kl,Km];refine aB (i:=16) (d:=some 81) (v:=.int .i64 (k:Nat)) rfl rfl (by kernel_rfl) (by kernel_rfl) (by kernel_rfl) (fun _ _ _ h=>h) (Or.inl ⟨by rfl,by rintro w ⟨m10,n10,p0,p1,p2,p3,p4,p5,p6,p7,p8,q0,q1,q2,q3,q4,q5,q6,q7,q8⟩;go_simp⟩) hHeld ?_;simp only [Act.put,Kk,Kl,Km];refine aB (i:=17) (d:=some 82) (v:=.pointer (some ⟨b,off+k*9,none⟩)) rfl rfl (by kernel_rfl) (by kernel_rfl) (by kernel_rfl) (fun _ _ _ h=>h) (Or.inl ⟨by rfl,by rintro w ⟨m10,n10,p0,p1,p2,p3,p4,p5,p6,p7,p8,q0,q1,q2,q3,q4,q5,q6,q7,q8⟩;go_simp⟩) hHeld ?_
           simp only [Act.put,Kk,Kl,Km];refine aB (i:=18) (d:=some 83) (v:=.pointer (some ⟨b,off+k*9+1,none⟩)) rfl rfl (by kernel_rfl) (by kernel_rfl) (by kernel_rfl) (fun _ _ _ h=>h) (Or.inl ⟨by rfl,by rintro w ⟨m10,n10,p0,p1,p2,p3,p4,p5,p6,p7,p8,q0,q1,q2,q3,q4,q5,q6,q7,q8⟩;go_simp⟩) hHeld ?_;simp only [Act.put,Kk,Kl,Km];refine aB (i:=19) (d:=some 84) (v:=bI d.a.op d.a.nm d.a.n a1 d.a.ks.len c1) rfl rfl (by kernel_rfl) (by kernel_rfl) (by kernel_rfl) (fun _ _ _ h=>h) (Or.inl ⟨by rfl,by rintro w ⟨m10,n10,p0,p1,p2,p3,p4,p5,p6,p7,p8,q0,q1,q2,q3,q4,q5,q6,q7,q8⟩;go_simp⟩) hHeld ?_;simp only [Act.put,Kk,Kl,Km];refine aB (i:=20) (d:=some 85) (v:=.pointer (some ⟨w.heap.size+1,10,none⟩)) rfl rfl (by kernel_rfl) (by kernel_rfl) (by kernel_rfl) (fun _ _ _ h=>h) (Or.inl ⟨by rfl,by rintro w ⟨m10,n10,p0,p1,p2,p3,p4,p5,p6,p7,p8,q0,q1,q2,q3,q4,q5,q6,q7,q8⟩;go_simp⟩) hHeld ?_;simp only [Act.put,Kk,Kl,Km];refine aB (i:=21) (d:=some 86) (v:=.slice (some ⟨g,oof,none⟩) x.wh.length q.wc) rfl rfl (by kernel_rfl) (by kernel_rfl) (by kernel_rfl) (fun _ _ _ h=>h) (Or.inl ⟨by rfl,by rintro w ⟨m10,n10,p0,p1,p2,p3,p4,p5,p6,p7,p8,q0,q1,q2,q3,q4,q5,q6,q7,q8⟩;go_simp⟩) hHeld ?_;simp only [Act.put,Kk,Kl,Km];refine aB (i:=22) (d:=some 87) (v:=.int .i64 (k:Nat)) rfl rfl (by kernel_rfl) (by kernel_rfl) (by kernel_rfl) (fun _ _ _ h=>h) (Or.inl ⟨by rfl,by rintro w ⟨m10,n10,p0,p1,p2,p3,p4,p5,p6,p7,p8,q0,q1,q2,q3,q4,q5,q6,q7,q8⟩;go_simp⟩) hHeld ?_;simp only [Act.put,Kk,Kl,Km];refine aB (i:=23) (d:=some 88) (v:=.pointer (some ⟨g,oof+k*9,none⟩)) rfl rfl (by kernel_rfl) (by kernel_rfl) (by kernel_rfl) (fun _ _ _ h=>h) (Or.inl ⟨by rfl,by rintro w ⟨m10,n10,p0,p1,p2,p3,p4,p5,p6,p7,p8,q0,q1,q2,q3,q4,q5,q6,q7,q8⟩;go_simp⟩) hHeld ?_
           simp only [Act.put,Kk,Kl,Km];refine aB (i:=24) (d:=some 89) (v:=.pointer (some ⟨g,oof+k*9+1,none⟩)) rfl rfl (by kernel_rfl) (by kernel_rfl) (by kernel_rfl) (fun _ _ _ h=>h) (Or.inl ⟨by rfl,by rintro w ⟨m10,n10,p0,p1,p2,p3,p4,p5,p6,p7,p8,q0,q1,q2,q3,q4,q5,q6,q7,q8⟩;go_simp⟩) hHeld ?_;simp only [Act.put,Kk,Kl,Km];refine aB (i:=25) (d:=some 90) (v:=bI u.a.op u.a.nm u.a.n e1 u.a.ks.len f1) rfl rfl (by kernel_rfl) (by kernel_rfl) (by kernel_rfl) (fun _ _ _ h=>h) (Or.inl ⟨by rfl,by rintro w ⟨m10,n10,p0,p1,p2,p3,p4,p5,p6,p7,p8,q0,q1,q2,q3,q4,q5,q6,q7,q8⟩;go_simp⟩) hHeld ?_;simp only [Act.put,Kk,Kl,Km];refine wpAnyH_ready (rs:=[26]) (by kernel_rfl) (by simp) ?_;refine AllReadyH.cons (o:=_) rfl (fun K hK=>?_) AllReadyH.nil;go_simp
           refine (C1.out _ (aH wr)).mono ?_;rintro e w5 ⟨rfl,hb⟩;have B5:=aA ((aH wr).trans hb);have cc:=CELLS.out _ B5.out;clear hb;refine hK.out _ _ cc (fun hHeld5=>?_);try simp only [Act.put,Kk,Kl,Km]
           clear hK K;clear hHeld;refine aB (i:=27) (d:=some 92) (v:=.bool false) rfl rfl (by kernel_rfl) (by kernel_rfl) (by kernel_rfl) (fun _ _ _ h=>h) (Or.inl ⟨by rfl,by rintro w ⟨m10,n10,p0,p1,p2,p3,p4,p5,p6,p7,p8,q0,q1,q2,q3,q4,q5,q6,q7,q8⟩;go_simp⟩) hHeld5 ?_;simp only [Act.put,Kk,Kl,Km];refine aB (i:=28) (d:=some 93) (v:=.bool false) rfl rfl (by kernel_rfl) (by kernel_rfl) (by kernel_rfl) (fun _ _ _ h=>h) (Or.inl ⟨by rfl,by rintro w ⟨m10,n10,p0,p1,p2,p3,p4,p5,p6,p7,p8,q0,q1,q2,q3,q4,q5,q6,q7,q8⟩;go_simp⟩) hHeld5 ?_;simp only [Act.put,Kk,Kl,Km];refine aB (i:=29) (d:=some 94) (v:=.bool false) rfl rfl (by kernel_rfl) (by kernel_rfl) (by kernel_rfl) (fun _ _ _ h=>h) (Or.inl ⟨by rfl,by rintro w ⟨m10,n10,p0,p1,p2,p3,p4,p5,p6,p7,p8,q0,q1,q2,q3,q4,q5,q6,q7,q8⟩;go_simp⟩) hHeld5 ?_;simp only [Act.put,Kk,Kl,Km];refine aB (i:=30) (d:=some 95) (v:=.pointer (some ⟨w.heap.size,10,none⟩)) rfl rfl (by kernel_rfl) (by kernel_rfl) (by kernel_rfl) (fun _ _ _ h=>h) (Or.inl ⟨by rfl,by rintro w ⟨m10,n10,p0,p1,p2,p3,p4,p5,p6,p7,p8,q0,q1,q2,q3,q4,q5,q6,q7,q8⟩;go_simp⟩) hHeld5 ?_;simp only [Act.put,Kk,Kl,Km];refine aB (i:=31) (d:=some 96) (v:=.slice (some ⟨b,off,none⟩) x.wh.length p.wc) rfl rfl (by kernel_rfl) (by kernel_rfl) (by kernel_rfl) (fun _ _ _ h=>h) (Or.inl ⟨by rfl,by rintro w ⟨m10,n10,p0,p1,p2,p3,p4,p5,p6,p7,p8,q0,q1,q2,q3,q4,q5,q6,q7,q8⟩;go_simp⟩) hHeld5 ?_;simp only [Act.put,Kk,Kl,Km];refine aB (i:=32) (d:=some 97) (v:=.int .i64 (k:Nat)) rfl rfl (by kernel_rfl) (by kernel_rfl) (by kernel_rfl) (fun _ _ _ h=>h) (Or.inl ⟨by rfl,by rintro w ⟨m10,n10,p0,p1,p2,p3,p4,p5,p6,p7,p8,q0,q1,q2,q3,q4,q5,q6,q7,q8⟩;go_simp⟩) hHeld5 ?_
           simp only [Act.put,Kk,Kl,Km];refine aB (i:=33) (d:=some 98) (v:=.pointer (some ⟨b,off+k*9,none⟩)) rfl rfl (by kernel_rfl) (by kernel_rfl) (by kernel_rfl) (fun _ _ _ h=>h) (Or.inl ⟨by rfl,by rintro w ⟨m10,n10,p0,p1,p2,p3,p4,p5,p6,p7,p8,q0,q1,q2,q3,q4,q5,q6,q7,q8⟩;go_simp⟩) hHeld5 ?_;simp only [Act.put,Kk,Kl,Km];refine aB (i:=34) (d:=some 99) (v:=.pointer (some ⟨b,off+k*9+5,none⟩)) rfl rfl (by kernel_rfl) (by kernel_rfl) (by kernel_rfl) (fun _ _ _ h=>h) (Or.inl ⟨by rfl,by rintro w ⟨m10,n10,p0,p1,p2,p3,p4,p5,p6,p7,p8,q0,q1,q2,q3,q4,q5,q6,q7,q8⟩;go_simp⟩) hHeld5 ?_;simp only [Act.put,Kk,Kl,Km];refine aB (i:=35) (d:=some 100) (v:=bI d.b.op d.b.nm d.b.n a2 d.b.ks.len c2) rfl rfl (by kernel_rfl) (by kernel_rfl) (by kernel_rfl) (fun _ _ _ h=>h) (Or.inl ⟨by rfl,by rintro w ⟨m10,n10,p0,p1,p2,p3,p4,p5,p6,p7,p8,q0,q1,q2,q3,q4,q5,q6,q7,q8⟩;go_simp⟩) hHeld5 ?_;simp only [Act.put,Kk,Kl,Km];refine aB (i:=36) (d:=some 101) (v:=.pointer (some ⟨w.heap.size+1,10,none⟩)) rfl rfl (by kernel_rfl) (by kernel_rfl) (by kernel_rfl) (fun _ _ _ h=>h) (Or.inl ⟨by rfl,by rintro w ⟨m10,n10,p0,p1,p2,p3,p4,p5,p6,p7,p8,q0,q1,q2,q3,q4,q5,q6,q7,q8⟩;go_simp⟩) hHeld5 ?_;simp only [Act.put,Kk,Kl,Km];refine aB (i:=37) (d:=some 102) (v:=.slice (some ⟨g,oof,none⟩) x.wh.length q.wc) rfl rfl (by kernel_rfl) (by kernel_rfl) (by kernel_rfl) (fun _ _ _ h=>h) (Or.inl ⟨by rfl,by rintro w ⟨m10,n10,p0,p1,p2,p3,p4,p5,p6,p7,p8,q0,q1,q2,q3,q4,q5,q6,q7,q8⟩;go_simp⟩) hHeld5 ?_;simp only [Act.put,Kk,Kl,Km];refine aB (i:=38) (d:=some 103) (v:=.int .i64 (k:Nat)) rfl rfl (by kernel_rfl) (by kernel_rfl) (by kernel_rfl) (fun _ _ _ h=>h) (Or.inl ⟨by rfl,by rintro w ⟨m10,n10,p0,p1,p2,p3,p4,p5,p6,p7,p8,q0,q1,q2,q3,q4,q5,q6,q7,q8⟩;go_simp⟩) hHeld5 ?_
           simp only [Act.put,Kk,Kl,Km];refine aB (i:=39) (d:=some 104) (v:=.pointer (some ⟨g,oof+k*9,none⟩)) rfl rfl (by kernel_rfl) (by kernel_rfl) (by kernel_rfl) (fun _ _ _ h=>h) (Or.inl ⟨by rfl,by rintro w ⟨m10,n10,p0,p1,p2,p3,p4,p5,p6,p7,p8,q0,q1,q2,q3,q4,q5,q6,q7,q8⟩;go_simp⟩) hHeld5 ?_;simp only [Act.put,Kk,Kl,Km];refine aB (i:=40) (d:=some 105) (v:=.pointer (some ⟨g,oof+k*9+5,none⟩)) rfl rfl (by kernel_rfl) (by kernel_rfl) (by kernel_rfl) (fun _ _ _ h=>h) (Or.inl ⟨by rfl,by rintro w ⟨m10,n10,p0,p1,p2,p3,p4,p5,p6,p7,p8,q0,q1,q2,q3,q4,q5,q6,q7,q8⟩;go_simp⟩) hHeld5 ?_;simp only [Act.put,Kk,Kl,Km];refine aB (i:=41) (d:=some 106) (v:=bI u.b.op u.b.nm u.b.n e2 u.b.ks.len f2) rfl rfl (by kernel_rfl) (by kernel_rfl) (by kernel_rfl) (fun _ _ _ h=>h) (Or.inl ⟨by rfl,by rintro w ⟨m10,n10,p0,p1,p2,p3,p4,p5,p6,p7,p8,q0,q1,q2,q3,q4,q5,q6,q7,q8⟩;go_simp⟩) hHeld5 ?_;simp only [Act.put,Kk,Kl,Km];refine wpAnyH_ready (rs:=[42]) (by kernel_rfl) (by simp) ?_;refine AllReadyH.cons (o:=_) rfl (fun K hK=>?_) AllReadyH.nil;go_simp
           refine (C2.out w5 B5.out).mono ?_;rintro e w6 ⟨rfl,hb⟩;have B6:=aA (B5.out.trans (hb.mono B5.out.size));have cc:=CELLS.out _ B6.out;clear hb;refine hK.out _ _ cc (fun hHeld6=>?_);try simp only [Act.put,Kk,Kl,Km]
           clear hK K;clear hHeld5;refine aB (i:=43) (d:=some 108) (v:=.bool (!z2)) rfl rfl (by kernel_rfl) (by kernel_rfl) (by kernel_rfl) (fun _ _ _ h=>h) (Or.inl ⟨by rfl,by rintro w ⟨m10,n10,p0,p1,p2,p3,p4,p5,p6,p7,p8,q0,q1,q2,q3,q4,q5,q6,q7,q8⟩;go_simp⟩) hHeld6 ?_;simp only [Act.put,Kk,Kl,Km];refine aB (i:=44) (d:=some 109) (v:=.bool (!z2)) rfl rfl (by kernel_rfl) (by kernel_rfl) (by kernel_rfl) (fun _ _ _ h=>h) (Or.inl ⟨by rfl,by rintro w ⟨m10,n10,p0,p1,p2,p3,p4,p5,p6,p7,p8,q0,q1,q2,q3,q4,q5,q6,q7,q8⟩;go_simp⟩) hHeld6 ?_;simp only [Act.put,Kk,Kl,Km];refine wpAnyH_done (by kernel_rfl) ?_ _;clear hHeld6;have HE:=aA (HK.out.step B6.out);clear B5 B6 CELLS C1 C2 cc;cases z2 with
           | false =>
             have TR:=aA (show false=r by rw [<- HC1.out];rfl);go_wp2_with fail
             go_ret;exact ⟨congrArg (fun z=>Ending.returned (.bool z)) TR.out,HE.out.b⟩
           | true =>
             have HC2:=aA (show eI (x.wh.drop (k+1)) (yw.drop (k+1))=r by rw [<- HC1.out];simp);go_wp2_with fail
             go_roundw
             case rel=>exact ⟨k+1,by go_num,by omega,HC2,HE⟩
             case measure=>simp [intOf];omega
     · have e1:x.wh.drop k=[]:=List.drop_of_length_le (by omega)
       have e2:yw.drop k=[]:=List.drop_of_length_le (by have:=HL.out;omega);have TR:=aA (show true=r by rw [<- HC.out,e1,e2];rfl);have b1:¬ (k:Int)<(x.wh.length:Int):=by omega
       obtain ⟨-, -, -, -, -, -, -, -, -, -,m10⟩:=aD HK.out.n1;go_wp2_with fail
       go_ret;exact ⟨congrArg (fun z=>Ending.returned (.bool z)) TR.out,HK.out.b⟩
structure IT (w V:World):Prop where
 b:Below w.heap.size w V
 l:oF V
 z:w.heap.size<=V.heap.size
theorem IT.step {w V V':World} (h:IT w V) (hb:Below V.heap.size V V'):IT w V':=⟨h.b.trans (hb.mono h.z),h.l.step hb,Nat.le_trans h.z hb.size⟩
theorem C8 {t:TN} (h:aF t=0) (hn:cX t.f):(aK t).length<=608:=by
 have c:=(aN t).1 h;have:=sL t c.1 hn;omega
theorem vD:∀ l:List CD,cL l=0->uN l->(cE l).length<=1225*l.length
 | [],_,_=>Nat.zero_le _
 | c :: r, h, hn => by
   obtain ⟨h1,h2,h3,h4⟩:=fW h;have o:c.op.data.toList.length<=2:=by rcases tB h1 with e | e | e | e | e | e <;> rw [e] <;> decide
   have a:=C8 h2 (hn c (List.mem_cons_self ..)).1;have b:=C8 h3 (hn c (List.mem_cons_self ..)).2;have i:=vD r h4 (fun d hd=>hn d (List.mem_cons_of_mem _ hd));simp only [cE,List.length_append,List.length_cons,List.length_nil];omega
theorem Da:∀ l:List CD,cL l=0->uN l->(oB l).length<=1227*l.length
 | [],_,_=>Nat.zero_le _
 | c :: r, h, hn => by
   obtain ⟨h1,h2,h3,h4⟩:=fW h;have o:c.op.data.toList.length<=2:=by rcases tB h1 with e | e | e | e | e | e <;> rw [e] <;> decide
   have a:=C8 h2 (hn c (List.mem_cons_self ..)).1;have b:=C8 h3 (hn c (List.mem_cons_self ..)).2;have i:=vD r h4 (fun d hd=>hn d (List.mem_cons_of_mem _ hd));simp only [oB,List.length_append,List.length_cons,List.length_nil];omega
theorem Db {x:AG} (h:eM x=0) (hn:fC x):(cJ x).length<=10000:=by
 obtain ⟨h1,h2,h3,h4,h5,h6⟩:=cB h
 have f:x.fn.data.toList.length<=5:=by
  unfold dD at h1;simp only [Bool.or_eq_true,beq_iff_eq] at h1;rcases h1 with ((((h1 | h1) | h1) | h1) | h1) | h1 <;> rw [h1] <;> decide
 have w:=Da x.wh h6 hn.c
 have i:(fR x).length<=2000:=by
  unfold fR;split
  · exact Nat.zero_le _
  · rename_i hc
    have a:=C8 (h3 hc) hn.e;split
    · rename_i ht
      have k:=h2 ht;have:=tQ (n:=x.k) (by omega) (by omega);simp only [List.length_append,List.length_cons];omega
    · split
      · rename_i hf
        have b:=C8 (h4 hf) hn.g;simp only [List.length_append,List.length_cons];omega
      · omega
 unfold cJ;simp only [List.length_append,List.length_cons];omega
structure Av (w:World) (x:AG) (p:PA) (y:AG) (q:PA) (V:World):Prop where
 k:IT w V
 n:V.heap[w.heap.size]? = some (agP x p)
 o:V.heap[w.heap.size+1]? = some (agP y q)
 r:aJ (fun b=>b<w.heap.size) V x p
 s:aJ (fun b=>b<w.heap.size) V y q
theorem Av.step {w V V':World} {x y:AG} {p q:PA} (h:Av w x p y q V) (hb:Below V.heap.size V V'):Av w x p y q V' :=
 ⟨h.k.step hb,(hb.block _ (aC h.n)).trans h.n,(hb.block _ (aC h.o)).trans h.o,h.r.kept hb,h.s.kept hb⟩
theorem yC (x:AG) (p:PA) (y:AG) (q:PA) (hB:BR x) (hD:BR y) (w:World) (hr:aJ (fun b=>b<w.heap.size) w x p) (hs:aJ (fun b=>b<w.heap.size) w y q) (hw:oF w) :
 Calls Tryz.prog 4 #[agV x p,agV y q] w fun e w'=>e=.returned (.bool true)/\Below w.heap.size w w':=by
 have B0:=(Below.refl w.heap.size w).alloc (Nat.le_refl _) (agP x p);have N0:=heap_alloc_new w (agP x p);have s0:(w.alloc (agP x p)).heap.size=w.heap.size+1:=World.size_alloc _ _;have L0:=hw.step B0;have R0:=hr.kept B0;have S0:=hs.kept B0;generalize hW1:w.alloc (agP x p)=W1 at B0 N0 s0 L0 R0 S0;have B1:=(Below.refl W1.heap.size W1).alloc (Nat.le_refl _) (agP y q);have N1:=heap_alloc_new W1 (agP y q);have K0:Av w x p y q (W1.alloc (agP y q)):=⟨⟨B0.trans (B1.mono (by omega)),L0.step B1,by rw [World.size_alloc];omega⟩,(B1.block _ (by omega)).trans N0,by rw [s0] at N1;exact N1,R0.kept B1,S0.kept B1⟩;generalize hW:W1.alloc (agP y q)=W at K0;have HW1:=aA hW1;have HW:=aA hW;have KN:=aA (zY W K0.k.l);have HK:=aA K0;have HB:=aA hB;have HD:=aA hD;clear hW1 hW B0 N0 s0 L0 R0 S0 B1 N1 K0 hr hs hw hB hD;go_enter Tryz.func4,Tryz.ntmps4
 go_upto_region 1 with fail
 rw [show w.alloc (.cells #[.string x.fn,.int .i64 x.k,.string x.e.op,.string x.e.nm,.int .i64 x.e.n,.slice p.ea x.e.ks.len p.ec,.string x.g.op,.string x.g.nm,.int .i64 x.g.n,.slice p.ga x.g.ks.len p.gc,.slice p.wa x.wh.length p.wc] 28)=W1 from HW1.out,show W1.alloc (.cells #[.string y.fn,.int .i64 y.k,.string y.e.op,.string y.e.nm,.int .i64 y.e.n,.slice q.ea y.e.ks.len q.ec,.string y.g.op,.string y.g.nm,.int .i64 y.g.n,.slice q.ga y.g.ks.len q.gc,.slice q.wa y.wh.length q.wc] 28)=W from HW.out];go_wp2_with fail
 refine KN.out.mono ?_;rintro e w1 ⟨rfl,hb⟩;have K1:=aA (HK.out.step hb);clear hb HK HW HW1 KN;obtain ⟨m0,m1,m2,m3,m4,m5,m6,m7,m8,m9,m10⟩:=aD K1.out.n;obtain ⟨y0,y1,y2,y3,y4,y5,y6,y7,y8,y9,y10⟩:=aD K1.out.o;have F1:=aA (Af x p w1 HB.out.ln K1.out.r);cases hf:Bm x with
 | false =>
   rw [hf] at F1;clear hf;go_wp2_with fail
   refine F1.out.mono ?_;rintro e w2 ⟨rfl,hb⟩;have K2:=aA (K1.out.step hb);clear hb;go_wp2_with fail
   go_ret;exact ⟨rfl,K2.out.k.b⟩
 | true =>
   rw [hf] at F1;have HG:=aA (wG hf HB.out.ln);clear hf;go_wp2_with fail
   refine F1.out.mono ?_;rintro e w2 ⟨rfl,hb⟩;have K2:=aA (K1.out.step hb);clear hb K1 F1 m0 m1 m2 m3 m4 m5 m6 m7 m8 m9 m10 y0 y1 y2 y3 y4 y5 y6 y7 y8 y9 y10;obtain ⟨m0,m1,m2,m3,m4,m5,m6,m7,m8,m9,m10⟩:=aD K2.out.n;obtain ⟨y0,y1,y2,y3,y4,y5,y6,y7,y8,y9,y10⟩:=aD K2.out.o;have F2:=aA (Af y q w2 HD.out.ln K2.out.s);cases hf:Bm y with
   | false =>
     rw [hf] at F2;clear hf;go_wp2_with fail
     refine F2.out.mono ?_;rintro e w3 ⟨rfl,hb⟩;have K3:=aA (K2.out.step hb);clear hb;go_wp2_with fail
     go_ret;exact ⟨rfl,K3.out.k.b⟩
   | true =>
     rw [hf] at F2;have HH:=aA (wG hf HD.out.ln);clear hf;go_wp2_with fail
     refine F2.out.mono ?_;rintro e w3 ⟨rfl,hb⟩;have K3:=aA (K2.out.step hb);clear hb K2 F2 m0 m1 m2 m3 m4 m5 m6 m7 m8 m9 m10 y0 y1 y2 y3 y4 y5 y6 y7 y8 y9 y10;have CO:=aA (p:=∀ V,Av w x p y q V->Calls Tryz.prog 12 #[agV x p] V fun e w'=>∃ p',e=.returned (agV x p')/\aJ (fun b=>V.heap.size<=b) w' x p'/\Below V.heap.size V w') (fun V hV=>tJ x p V HG.out.1 hV.r);have CU:=aA (p:=∀ V,Av w x p y q V->Calls Tryz.prog 12 #[agV y q] V fun e w'=>∃ p',e=.returned (agV y p')/\aJ (fun b=>V.heap.size<=b) w' y p'/\Below V.heap.size V w') (fun V hV=>tJ y q V HH.out.1 hV.s);obtain ⟨m0,m1,m2,m3,m4,m5,m6,m7,m8,m9,m10⟩:=aD K3.out.n;obtain ⟨y0,y1,y2,y3,y4,y5,y6,y7,y8,y9,y10⟩:=aD K3.out.o;have O3:=aA (CO.out w3 K3.out);go_wp2_with fail
     refine O3.out.mono ?_;rintro e w4 ⟨p4,rfl,hr4,hb⟩;have K4:=aA (K3.out.step hb);have CK:=aA (j7 x p4 w4 HG.out.2 hr4);obtain ⟨er,her⟩:∃ r,eM x=r:=⟨_,rfl⟩;rw [her] at CK;have HER:=aA her;clear hb hr4 her K3 O3 m0 m1 m2 m3 m4 m5 m6 m7 m8 m9 m10 y0 y1 y2 y3 y4 y5 y6 y7 y8 y9 y10;go_wp2_with fail
     refine CK.out.mono ?_;rintro e w5 ⟨rfl,hb⟩;have K5:=aA (K4.out.step hb);clear hb K4 CK;obtain ⟨m0,m1,m2,m3,m4,m5,m6,m7,m8,m9,m10⟩:=aD K5.out.n;obtain ⟨y0,y1,y2,y3,y4,y5,y6,y7,y8,y9,y10⟩:=aD K5.out.o;have PC:=aA (fD x p w5 HG.out.2 (by have:=HG.out.1.wh;omega) K5.out.r);rw [HER.out] at PC;go_wp2_with fail
     refine PC.out.mono ?_;rintro e w6 ⟨rfl,hb⟩;have K6:=aA (K5.out.step hb);clear hb K5 PC m0 m1 m2 m3 m4 m5 m6 m7 m8 m9 m10 y0 y1 y2 y3 y4 y5 y6 y7 y8 y9 y10;obtain ⟨m0,m1,m2,m3,m4,m5,m6,m7,m8,m9,m10⟩:=aD K6.out.n;obtain ⟨y0,y1,y2,y3,y4,y5,y6,y7,y8,y9,y10⟩:=aD K6.out.o;have e0:(er != er)=false:=by simp
     by_cases h0:er=0
     · subst h0
       clear e0;have U6:=aA (CU.out w6 K6.out);go_wp2_with fail
       refine U6.out.mono ?_;rintro e w7 ⟨p7,rfl,hr7,hb⟩;have K7:=aA (K6.out.step hb);have CK:=aA (j7 y p7 w7 HH.out.2 hr7);obtain ⟨fr,hfr⟩:∃ r,eM y=r:=⟨_,rfl⟩;rw [hfr] at CK;have HFR:=aA hfr;clear hb hr7 hfr K6 U6 m0 m1 m2 m3 m4 m5 m6 m7 m8 m9 m10 y0 y1 y2 y3 y4 y5 y6 y7 y8 y9 y10;go_wp2_with fail
       refine CK.out.mono ?_;rintro e w8 ⟨rfl,hb⟩;have K8:=aA (K7.out.step hb);clear hb K7 CK;by_cases h1:fr=0
       · subst h1
         obtain ⟨m0,m1,m2,m3,m4,m5,m6,m7,m8,m9,m10⟩:=aD K8.out.n;obtain ⟨y0,y1,y2,y3,y4,y5,y6,y7,y8,y9,y10⟩:=aD K8.out.o;have O8:=aA (CO.out w8 K8.out);have TR:=aA (p:=∀ (G:Nat->Prop) p' V,aJ G V x p'->Calls Tryz.prog 16 #[agV x p'] V fun e w'=>e=.returned (.string ⟨(cJ x).toArray⟩)/\Below V.heap.size V w') (fun G p' V hr=>xB x p' V HER.out HB.out.nums hr);have TX:=aA (p:=∀ V,Av w x p y q V->Calls Tryz.prog 17 #[agV x p] V fun e w'=>e=.returned (.string ⟨(cJ x).toArray⟩)/\Below V.heap.size V w') (fun V hV=>pL x p V HER.out HB.out.nums hV.k.l.2 hV.r);have TZ:=aA (Db HER.out HB.out.nums)
         have PA:=aA (p:=∀ V,gK V->Calls Tryz.prog 9 #[.string ⟨(cJ x).toArray⟩] V (mT (agX (cJ x)) V)) (fun V hV=>by
          have h:=iA ⟨(cJ x).toArray⟩ (by show (cJ x).toArray.size<=_;rw [List.size_toArray];have:=TZ.out;omega) V hV;have e:(⟨(cJ x).toArray⟩:ByteArray).data.toList=cJ x:=by simp
          rw [e] at h;exact h)
         have PT:=aA (p:=(⟨(cJ x).toArray⟩:ByteArray).size<=1024->agX (cJ x)=.ok (nY x)) (fun hl=>GE HER.out HB.out.nums (by have:(cJ x).toArray.size<=1024:=hl;rwa [List.size_toArray] at this));have PL:=aA (p:=1024<(⟨(cJ x).toArray⟩:ByteArray).size->agX (cJ x)=.bad 0 4) (fun hl=>GH (by have:1024<(cJ x).toArray.size:=hl;rwa [List.size_toArray] at this));obtain ⟨S,hS⟩:∃ S,(⟨(cJ x).toArray⟩:ByteArray)=S:=⟨_,rfl⟩;rw [hS] at TR TX PA PT PL;have PS:=aA (p:=∀ V,Av w x p y q V->Calls Tryz.prog 18 #[agV x p,agV y q] V fun e w'=>e=.returned (.bool (j0 x y))/\Below V.heap.size V w') (fun V hV=>lK _ _ x p y q V HER.out HB.out.nums HFR.out HD.out.nums hV.r hV.s);have RS:=aA (p:=∀ (G H:Nat->Prop) p' q' V,aJ G V x p'->aJ H V y q'->Calls Tryz.prog 13 #[agV x p',agV y q'] V fun e w'=>e=.returned (.bool (j0 x y))/\Below V.heap.size V w') (fun G H p' q' V hr hs=>pF x y p' q' V HG.out.2 hr hs HG.out.1.wh HH.out.1.wh);obtain ⟨z,hz⟩:∃ z,j0 x y=z:=⟨_,rfl⟩;rw [hz] at PS RS;have XG:=aA (p:=agX (cJ x)=.ok (nY x)->SmG (nY x)/\SzG (nY x)/\eM (nY x)=0) (fun h=>GG h);have XS:=aA (Do x);obtain ⟨u,hu⟩:∃ u,nY x=u:=⟨_,rfl⟩;obtain ⟨R,hR⟩:∃ R,agX (cJ x)=R:=⟨_,rfl⟩;rw [hu] at PT XG XS;rw [hR] at PT PL PA XG;clear hS hz TZ hu hR;go_wp2_with fail
         refine O8.out.mono ?_;rintro e w9 ⟨p9,rfl,hr9,hb⟩;have K9:=aA (K8.out.step hb);have T9:=aA (TR.out _ p9 w9 hr9);clear hb hr9 K8 O8 TR m0 m1 m2 m3 m4 m5 m6 m7 m8 m9 m10 y0 y1 y2 y3 y4 y5 y6 y7 y8 y9 y10;go_wp2_with fail
         refine T9.out.mono ?_;rintro e w10 ⟨rfl,hb⟩;have K10:=aA (K9.out.step hb);clear hb K9 T9;obtain ⟨m0,m1,m2,m3,m4,m5,m6,m7,m8,m9,m10⟩:=aD K10.out.n;obtain ⟨y0,y1,y2,y3,y4,y5,y6,y7,y8,y9,y10⟩:=aD K10.out.o
         have CELLS:=aA (p:=∀ w',Below w10.heap.size w10 w'->(w'.cell? ⟨w.heap.size,0,none⟩=some (.string x.fn)/\w'.cell? ⟨w.heap.size,1,none⟩=some (.int .i64 x.k)/\w'.cell? ⟨w.heap.size,2,none⟩=some (.string x.e.op)/\w'.cell? ⟨w.heap.size,3,none⟩=some (.string x.e.nm)/\w'.cell? ⟨w.heap.size,4,none⟩=some (.int .i64 x.e.n)/\w'.cell? ⟨w.heap.size,5,none⟩=some (.slice p.ea x.e.ks.len p.ec)/\w'.cell? ⟨w.heap.size,6,none⟩=some (.string x.g.op)/\w'.cell? ⟨w.heap.size,7,none⟩=some (.string x.g.nm)/\w'.cell? ⟨w.heap.size,8,none⟩=some (.int .i64 x.g.n)/\w'.cell? ⟨w.heap.size,9,none⟩=some (.slice p.ga x.g.ks.len p.gc)/\w'.cell? ⟨w.heap.size,10,none⟩=some (.slice p.wa x.wh.length p.wc)/\w'.cell? ⟨w.heap.size+1,0,none⟩=some (.string y.fn)/\w'.cell? ⟨w.heap.size+1,1,none⟩=some (.int .i64 y.k)/\w'.cell? ⟨w.heap.size+1,2,none⟩=some (.string y.e.op)/\w'.cell? ⟨w.heap.size+1,3,none⟩=some (.string y.e.nm)/\w'.cell? ⟨w.heap.size+1,4,none⟩=some (.int .i64 y.e.n)/\w'.cell? ⟨w.heap.size+1,5,none⟩=some (.slice q.ea y.e.ks.len q.ec)/\w'.cell? ⟨w.heap.size+1,6,none⟩=some (.string y.g.op)/\w'.cell? ⟨w.heap.size+1,7,none⟩=some (.string y.g.nm)/\w'.cell? ⟨w.heap.size+1,8,none⟩=some (.int .i64 y.g.n)/\w'.cell? ⟨w.heap.size+1,9,none⟩=some (.slice q.ga y.g.ks.len q.gc)/\w'.cell? ⟨w.heap.size+1,10,none⟩=some (.slice q.wa y.wh.length q.wc))) (fun w' h=>by
          obtain ⟨m0,m1,m2,m3,m4,m5,m6,m7,m8,m9,m10⟩:=aD (K10.out.step h).n;obtain ⟨y0,y1,y2,y3,y4,y5,y6,y7,y8,y9,y10⟩:=aD (K10.out.step h).o;exact ⟨m0,m1,m2,m3,m4,m5,m6,m7,m8,m9,m10,y0,y1,y2,y3,y4,y5,y6,y7,y8,y9,y10⟩)
         have g1:(S.toList == S.toList)=true:=by simp
         have g2:(z == z)=true:=by simp
         have D0:=aA (aH w10);go_upto_region 11 with fail
         go_region_held3 (fun w'=>w'.cell? ⟨w.heap.size,0,none⟩=some (.string x.fn)/\w'.cell? ⟨w.heap.size,1,none⟩=some (.int .i64 x.k)/\w'.cell? ⟨w.heap.size,2,none⟩=some (.string x.e.op)/\w'.cell? ⟨w.heap.size,3,none⟩=some (.string x.e.nm)/\w'.cell? ⟨w.heap.size,4,none⟩=some (.int .i64 x.e.n)/\w'.cell? ⟨w.heap.size,5,none⟩=some (.slice p.ea x.e.ks.len p.ec)/\w'.cell? ⟨w.heap.size,6,none⟩=some (.string x.g.op)/\w'.cell? ⟨w.heap.size,7,none⟩=some (.string x.g.nm)/\w'.cell? ⟨w.heap.size,8,none⟩=some (.int .i64 x.g.n)/\w'.cell? ⟨w.heap.size,9,none⟩=some (.slice p.ga x.g.ks.len p.gc)/\w'.cell? ⟨w.heap.size,10,none⟩=some (.slice p.wa x.wh.length p.wc)/\w'.cell? ⟨w.heap.size+1,0,none⟩=some (.string y.fn)/\w'.cell? ⟨w.heap.size+1,1,none⟩=some (.int .i64 y.k)/\w'.cell? ⟨w.heap.size+1,2,none⟩=some (.string y.e.op)/\w'.cell? ⟨w.heap.size+1,3,none⟩=some (.string y.e.nm)/\w'.cell? ⟨w.heap.size+1,4,none⟩=some (.int .i64 y.e.n)/\w'.cell? ⟨w.heap.size+1,5,none⟩=some (.slice q.ea y.e.ks.len q.ec)/\w'.cell? ⟨w.heap.size+1,6,none⟩=some (.string y.g.op)/\w'.cell? ⟨w.heap.size+1,7,none⟩=some (.string y.g.nm)/\w'.cell? ⟨w.heap.size+1,8,none⟩=some (.int .i64 y.g.n)/\w'.cell? ⟨w.heap.size+1,9,none⟩=some (.slice q.ga y.g.ks.len q.gc)/\w'.cell? ⟨w.heap.size+1,10,none⟩=some (.slice q.wa y.wh.length q.wc)) (first | assumption | exact ⟨m0,m1,m2,m3,m4,m5,m6,m7,m8,m9,m10,y0,y1,y2,y3,y4,y5,y6,y7,y8,y9,y10⟩ | exact CELLS.out _ B1.out | exact CELLS.out _ B2.out | exact CELLS.out _ B3.out | exact CELLS.out _ B4.out | exact CELLS.out _ B5.out) (first
          | (go_at_call 17
             with_reducible refine (TX.out w10.drew (K10.out.step D0.out)).mono ?_
             rintro e v1 ⟨rfl,hb⟩;have B1:=aA (D0.out.trans (hb.mono D0.out.size));have cc1:=CELLS.out _ B1.out;clear hb)
          | (go_at_call 18
             with_reducible refine (PS.out v1 (K10.out.step B1.out)).mono ?_
             rintro e v2 ⟨rfl,hb⟩;have B2:=aA (B1.out.trans (hb.mono B1.out.size));have cc2:=CELLS.out _ B2.out;clear hb)
          | (go_at_call 12
             with_reducible refine (CO.out v2 (K10.out.step B2.out)).mono ?_
             rintro e v3 ⟨p3,rfl,hr,hb⟩;have B3:=aA (B2.out.trans (hb.mono B2.out.size));have R3:=aA hr;have cc3:=CELLS.out _ B3.out;clear hb hr)
          | (go_at_call 12
             with_reducible refine (CU.out v3 (K10.out.step B3.out)).mono ?_
             rintro e v4 ⟨p4',rfl,hr,hb⟩;have H4:=aA hb;have B4:=aA (B3.out.trans (hb.mono B3.out.size));have R4:=aA hr;have cc4:=CELLS.out _ B4.out;clear hb hr)
          | (go_at_call 13
             with_reducible refine (RS.out _ _ p3 p4' v4 (R3.out.kept H4.out) R4.out).mono ?_
             rintro e v5 ⟨rfl,hb⟩;have B5:=aA (B4.out.trans (hb.mono B4.out.size));have cc5:=CELLS.out _ B5.out;clear hb)
          | fail)
         have K11:=aA (K10.out.step B5.out);clear CELLS m0 m1 m2 m3 m4 m5 m6 m7 m8 m9 m10 y0 y1 y2 y3 y4 y5 y6 y7 y8 y9 y10 cc1 cc2 cc3 cc4 cc5;by_cases hlen:1024<S.size
         · have a1:(1024:Int)<(S.size:Int):=by omega
           have PB:=aA (p:=∀ V,gK V->Calls Tryz.prog 9 #[.string S] V (mT (.bad 0 4) V)) (fun V hV=>by
            have h:=PA.out V hV;rw [PL.out hlen] at h;exact h)
           clear hlen PL PT PA XG;go_wp2_with fail
           refine (PB.out _ K11.out.k.l.1).mono ?_;rintro e v6 ⟨hb,rfl⟩;have K12:=(K11.out.step hb).step ((Below.refl v6.heap.size v6).alloc (Nat.le_refl _) (agP aU aW));generalize hW2:v6.alloc (agP aU aW)=W2 at K12;have HW2:=aA hW2;have HK2:=aA K12;clear hb K12 hW2 PB;go_upto_region 14 with fail
           rw [show v6.alloc (.cells #[.string aU.fn,.int .i64 aU.k,.string aU.e.op,.string aU.e.nm,.int .i64 aU.e.n,.slice aW.ea aU.e.ks.len aW.ec,.string aU.g.op,.string aU.g.nm,.int .i64 aU.g.n,.slice aW.ga aU.g.ks.len aW.gc,.slice aW.wa aU.wh.length aW.wc] 28)=W2 from HW2.out];clear HW2;go_wp2_with fail
           go_ret;exact ⟨rfl,HK2.out.k.b⟩
         · have a1:¬ (1024:Int)<(S.size:Int):=by omega
           have hR:=PT.out (by omega)
           have PB:=aA (p:=∀ V,gK V->Calls Tryz.prog 9 #[.string S] V (mT (.ok u) V)) (fun V hV=>by
            have h:=PA.out V hV;rw [hR] at h;exact h)
           have XN:=aA (XG.out hR);clear hlen PL PT PA XG hR;go_wp2_with fail
           refine (PB.out _ K11.out.k.l.1).mono ?_;rintro e v6 ⟨hb,r,rfl,hr⟩;have BA:=(Below.refl v6.heap.size v6).alloc (Nat.le_refl _) (agP u r);have T2:L11 u v6.heap.size r (v6.alloc (agP u r)):=⟨heap_alloc_new v6 _,(hr.kept BA).imp (fun _ _ _=>trivial)⟩;have K12:=(K11.out.step hb).step BA;generalize hW2:v6.alloc (agP u r)=W2 at T2 K12;generalize hBX:v6.heap.size=BX at T2;have HBX:=aA hBX;have HW2:=aA hW2;have HT2:=aA T2;have HK2:=aA K12;clear hb hr BA T2 K12 hW2 hBX PB;go_upto_region 16 with fail
           rw [show v6.alloc (.cells #[.string u.fn,.int .i64 u.k,.string u.e.op,.string u.e.nm,.int .i64 u.e.n,.slice r.ea u.e.ks.len r.ec,.string u.g.op,.string u.g.nm,.int .i64 u.g.n,.slice r.ga u.g.ks.len r.gc,.slice r.wa u.wh.length r.wc] 28)=W2 from HW2.out,HBX.out];clear HW2 HBX;obtain ⟨m0,m1,m2,m3,m4,m5,m6,m7,m8,m9,m10⟩:=aD HK2.out.n;obtain ⟨u0,u1,u2,u3,u4,u5,u6,u7,u8,u9,u10⟩:=aD HT2.out.n
           have CELLS:=aA (p:=∀ w',Below W2.heap.size W2 w'->(w'.cell? ⟨w.heap.size,0,none⟩=some (.string x.fn)/\w'.cell? ⟨w.heap.size,1,none⟩=some (.int .i64 x.k)/\w'.cell? ⟨w.heap.size,2,none⟩=some (.string x.e.op)/\w'.cell? ⟨w.heap.size,3,none⟩=some (.string x.e.nm)/\w'.cell? ⟨w.heap.size,4,none⟩=some (.int .i64 x.e.n)/\w'.cell? ⟨w.heap.size,5,none⟩=some (.slice p.ea x.e.ks.len p.ec)/\w'.cell? ⟨w.heap.size,6,none⟩=some (.string x.g.op)/\w'.cell? ⟨w.heap.size,7,none⟩=some (.string x.g.nm)/\w'.cell? ⟨w.heap.size,8,none⟩=some (.int .i64 x.g.n)/\w'.cell? ⟨w.heap.size,9,none⟩=some (.slice p.ga x.g.ks.len p.gc)/\w'.cell? ⟨w.heap.size,10,none⟩=some (.slice p.wa x.wh.length p.wc)/\w'.cell? ⟨BX,0,none⟩=some (.string u.fn)/\w'.cell? ⟨BX,1,none⟩=some (.int .i64 u.k)/\w'.cell? ⟨BX,2,none⟩=some (.string u.e.op)/\w'.cell? ⟨BX,3,none⟩=some (.string u.e.nm)/\w'.cell? ⟨BX,4,none⟩=some (.int .i64 u.e.n)/\w'.cell? ⟨BX,5,none⟩=some (.slice r.ea u.e.ks.len r.ec)/\w'.cell? ⟨BX,6,none⟩=some (.string u.g.op)/\w'.cell? ⟨BX,7,none⟩=some (.string u.g.nm)/\w'.cell? ⟨BX,8,none⟩=some (.int .i64 u.g.n)/\w'.cell? ⟨BX,9,none⟩=some (.slice r.ga u.g.ks.len r.gc)/\w'.cell? ⟨BX,10,none⟩=some (.slice r.wa u.wh.length r.wc))) (fun w' h=>by
            obtain ⟨m0,m1,m2,m3,m4,m5,m6,m7,m8,m9,m10⟩:=aD (HK2.out.step h).n;obtain ⟨u0,u1,u2,u3,u4,u5,u6,u7,u8,u9,u10⟩:=aD (HT2.out.step h).n;exact ⟨m0,m1,m2,m3,m4,m5,m6,m7,m8,m9,m10,u0,u1,u2,u3,u4,u5,u6,u7,u8,u9,u10⟩)
           have CX:=aA (p:=∀ V,Below W2.heap.size W2 V->Calls Tryz.prog 12 #[agV u r] V fun e w'=>∃ p',e=.returned (agV u p')/\aJ (fun b=>V.heap.size<=b) w' u p'/\Below V.heap.size V w') (fun V hV=>tJ u r V XN.out.1 (HT2.out.step hV).r)
           have CC:=aA (p:=∀ (G:Nat->Prop) p' V,aJ G V u p'->Calls Tryz.prog 11 #[agV u p'] V fun e w'=>e=.returned (.int .i64 0)/\Below V.heap.size V w') (fun G p' V hr=>by
            have h:=j7 u p' V XN.out.2.1 hr;rw [XN.out.2.2] at h;exact h)
           have CS:=aA (p:=∀ (G H:Nat->Prop) p' q' V,aJ G V u p'->aJ H V x q'->Calls Tryz.prog 13 #[agV u p',agV x q'] V fun e w'=>e=.returned (.bool true)/\Below V.heap.size V w') (fun G H p' q' V hr hs=>by
            have h:=pF u x p' q' V XN.out.2.1 hr hs XN.out.1.wh HG.out.1.wh;rw [XS.out] at h;exact h)
           clear HT2 XN;have D1:=aA (aH W2)
           go_region_held3 (fun w'=>w'.cell? ⟨w.heap.size,0,none⟩=some (.string x.fn)/\w'.cell? ⟨w.heap.size,1,none⟩=some (.int .i64 x.k)/\w'.cell? ⟨w.heap.size,2,none⟩=some (.string x.e.op)/\w'.cell? ⟨w.heap.size,3,none⟩=some (.string x.e.nm)/\w'.cell? ⟨w.heap.size,4,none⟩=some (.int .i64 x.e.n)/\w'.cell? ⟨w.heap.size,5,none⟩=some (.slice p.ea x.e.ks.len p.ec)/\w'.cell? ⟨w.heap.size,6,none⟩=some (.string x.g.op)/\w'.cell? ⟨w.heap.size,7,none⟩=some (.string x.g.nm)/\w'.cell? ⟨w.heap.size,8,none⟩=some (.int .i64 x.g.n)/\w'.cell? ⟨w.heap.size,9,none⟩=some (.slice p.ga x.g.ks.len p.gc)/\w'.cell? ⟨w.heap.size,10,none⟩=some (.slice p.wa x.wh.length p.wc)/\w'.cell? ⟨BX,0,none⟩=some (.string u.fn)/\w'.cell? ⟨BX,1,none⟩=some (.int .i64 u.k)/\w'.cell? ⟨BX,2,none⟩=some (.string u.e.op)/\w'.cell? ⟨BX,3,none⟩=some (.string u.e.nm)/\w'.cell? ⟨BX,4,none⟩=some (.int .i64 u.e.n)/\w'.cell? ⟨BX,5,none⟩=some (.slice r.ea u.e.ks.len r.ec)/\w'.cell? ⟨BX,6,none⟩=some (.string u.g.op)/\w'.cell? ⟨BX,7,none⟩=some (.string u.g.nm)/\w'.cell? ⟨BX,8,none⟩=some (.int .i64 u.g.n)/\w'.cell? ⟨BX,9,none⟩=some (.slice r.ga u.g.ks.len r.gc)/\w'.cell? ⟨BX,10,none⟩=some (.slice r.wa u.wh.length r.wc)) (first | assumption | exact ⟨m0,m1,m2,m3,m4,m5,m6,m7,m8,m9,m10,u0,u1,u2,u3,u4,u5,u6,u7,u8,u9,u10⟩ | exact CELLS.out _ E1.out | exact CELLS.out _ E2.out | exact CELLS.out _ E3.out | exact CELLS.out _ E4.out | exact CELLS.out _ E5.out) (first
            | (go_at_call 12
               with_reducible refine (CX.out W2.drew D1.out).mono ?_
               rintro e z1 ⟨p1,rfl,hr,hb⟩;have E1:=aA (D1.out.trans (hb.mono D1.out.size));have R1:=aA hr;have dd1:=CELLS.out _ E1.out;clear hb hr)
            | (go_at_call 11
               with_reducible refine (CC.out _ p1 z1 R1.out).mono ?_
               rintro e z2 ⟨rfl,hb⟩;have E2:=aA (E1.out.trans (hb.mono E1.out.size));have dd2:=CELLS.out _ E2.out;clear hb)
            | (go_at_call 12
               with_reducible refine (CX.out z2 E2.out).mono ?_
               rintro e z3 ⟨p3',rfl,hr,hb⟩;have E3:=aA (E2.out.trans (hb.mono E2.out.size));have R3:=aA hr;have dd3:=CELLS.out _ E3.out;clear hb hr)
            | (go_at_call 12
               with_reducible refine (CO.out z3 (HK2.out.step E3.out)).mono ?_
               rintro e z4 ⟨p5,rfl,hr,hb⟩;have H4:=aA hb;have E4:=aA (E3.out.trans (hb.mono E3.out.size));have R4:=aA hr;have dd4:=CELLS.out _ E4.out;clear hb hr)
            | (go_at_call 13
               with_reducible refine (CS.out _ _ p3' p5 z4 (R3.out.kept H4.out) R4.out).mono ?_
               rintro e z5 ⟨rfl,hb⟩;have E5:=aA (E4.out.trans (hb.mono E4.out.size));have dd5:=CELLS.out _ E5.out;clear hb)
            | fail)
           have HE:=aA ((HK2.out.step E5.out).k.b);clear CELLS m0 m1 m2 m3 m4 m5 m6 m7 m8 m9 m10 u0 u1 u2 u3 u4 u5 u6 u7 u8 u9 u10;go_wp2_with fail
           go_ret;exact ⟨rfl,HE.out⟩
       · have e1:(fr == 0)=false:=by simpa using h1
         have e2:(fr != 0)=true:=by simpa using h1
         go_wp2_with fail
         go_ret;exact ⟨rfl,K8.out.k.b⟩
     · have e1:(er == 0)=false:=by simpa using h0
       have e2:(er != 0)=true:=by simpa using h0
       go_wp2_with fail
       go_ret;exact ⟨rfl,K6.out.k.b⟩
end
section
open Go.ChangeShapes Go.WideShapes Go.ChangeAt Go.RowKit
theorem DA:ownKnob Tryz.prog.godebug=none:=by kernel_rfl
theorem vW:laidOutB Tryz.prog=true:=by kernel_rfl
theorem rN {w:World} {n:String} {g:Nat} {cs:Array Value} (hg:Tryz.prog.globalNamed n=some g) (h:w.var? Tryz.prog n=some cs):∃ t f,w.heap[g]? = some (.cells cs t f):=by
 unfold World.var? at h;rw [hg] at h;simp only [Option.bind_some] at h;split at h
 · rename_i cs' t f e
   cases h;exact ⟨t,f,e⟩
 · cases h
abbrev oE:List (String×DataW Unit):=Rows.aggNoneRow.laid
theorem yX: "*" ++ "errors.errorString" = "*errors.errorString" := by decide
theorem Hh (u:TypeId) (h:Tryz.prog.typeName? 3 u=some "*errors.errorString"):u=288 :=
 typeName_ptr_named (nm:= "errors.errorString") (by rw [yX];kernel_rfl) (by kernel_rfl) (by decide) u (by rw [yX];exact h)
theorem FT {W:World} (h:laidMetH Tryz.prog oE W):j6 W:=by
 rw [MakeChecks.laidMetH_plain _ _ _ (by kernel_rfl)] at h;have h2:=h.tail.tail;have htab:=Lib.tabIs_of_head (g:=1) (k:=.u64) (zs:=Lib.pow10Tab) (by kernel_rfl) (by kernel_rfl) Tryz.underlying249 Tryz.underlying203 (by kernel_rfl) (by kernel_rfl) h2;unfold Lib.TabIs World.var? at htab;rw [show Tryz.prog.globalNamed "internal/strconv.uint64pow10" = some 1 by kernel_rfl] at htab;simp only [Option.bind_some] at htab;split at htab
 · rename_i cs' t f e
   cases htab;exact ⟨t,f,e⟩
 · cases htab
theorem FS {W:World} (h:laidMetH Tryz.prog oE W):gK W:=by
 rw [MakeChecks.laidMetH_plain _ _ _ (by kernel_rfl)] at h;have h4:=h.tail.tail.tail;have h5:=h4.tail;have hrow:∀ u,Tryz.prog.typeName? 3 u=some "*errors.errorString" -> u=288:=Hh;obtain ⟨a0,s0,v0, -, -, -⟩:=laid_sentinel (g:=3) h4 (by kernel_rfl) (by kernel_rfl) Tryz.underlying114 hrow Tryz.underlying288 Tryz.underlying290 rfl rfl Tryz.underlying9 (by kernel_rfl) (by kernel_rfl);obtain ⟨a1,s1,v1, -, -, -⟩:=laid_sentinel (g:=2) h5 (by kernel_rfl) (by kernel_rfl) Tryz.underlying114 hrow Tryz.underlying288 Tryz.underlying290 rfl rfl Tryz.underlying9 (by kernel_rfl) (by kernel_rfl);obtain ⟨t1,f1,p1⟩:=rN (g:=3) (by kernel_rfl) v0;obtain ⟨t2,f2,p2⟩:=rN (g:=2) (by kernel_rfl) v1;exact ⟨⟨_,_,t2,f2,p2⟩,⟨_,_,t1,f1,p1⟩⟩
theorem FR {W:World} (h:laidMetH Tryz.prog oE W):oF W:=⟨FS h,FT h⟩
theorem AF (os:Os) (args:Array Value):laidMetH Tryz.prog oE ((World.laidAll Tryz.prog os oE).forCall (fun _ _=>0) ⟨#[],args,[]⟩).memory:=by
 rw [MakeChecks.laidMetH_plain _ _ _ (by kernel_rfl)];exact laidMet_laidAll _ (by kernel_rfl) (by kernel_rfl)
theorem uR (os:Os):(World.laidAll Tryz.prog os oE).Shaped Tryz.prog:=World.shaped_of_ZipB (by kernel_rfl) (by kernel_rfl)
end
section
open Go.ChangeShapes Go.WideShapes Go.ChangeAt Go.RowKit
open Go.ChangeMaps (open_string shut_string)
theorem uK (os:Os) (started:os.Started) (H:Type) (enc:TypeId×Value->H) :
 ReturnsInHanded {} Tryz.checked os 4 .any (fun w args=>(Rows.aggBackSpec.pre enc Tryz.prog Tryz.f4 Rows.aggBackRow.domain false w args/\laidMetH Tryz.prog oE w)/\sizedMet enc Tryz.prog Tryz.f4 (OpenSpec.ofChange Rows.aggBackSpec) false w args)
  (Rows.aggBackSpec.post enc Tryz.prog Tryz.f4 false true false false):=by
 refine returnsInHanded_of_change_and (C:=Tryz.checked) (X:=fun w _=>laidMetH Tryz.prog oE w) (fun _ _ _ hh h=>h.of_heap hh) DA started (by kernel_rfl) Tryz.func4
  (ChangeSpec.witness_shaped (enc:=enc) (C:=Tryz.checked) (os:=os) (X:=fun w _=>laidMetH Tryz.prog oE w) false (World.laidAll Tryz.prog os oE) #[.agg #[.string ⟨#[]⟩,.int .i64 0,.string ⟨#[]⟩,.string ⟨#[]⟩,.int .i64 0,.slice none 0 0,.string ⟨#[]⟩,.string ⟨#[]⟩,.int .i64 0,.slice none 0 0,.slice none 0 0],.agg #[.string ⟨#[]⟩,.int .i64 0,.string ⟨#[]⟩,.string ⟨#[]⟩,.int .i64 0,.slice none 0 0,.string ⟨#[]⟩,.string ⟨#[]⟩,.int .i64 0,.slice none 0 0,.slice none 0 0]] 8 (World.laidAll_os _ _ _)
   (uR os) (by kernel_rfl) (by kernel_rfl) (by kernel_rfl) (AF os _)) ?_
 intro W base args ds gs before hval0 hW _ _ hL _;have hval:∀ (j:Nat) t v,Tryz.f4.params[j]? = some t->args[j]? = some v->Value.okWide Tryz.prog W .any base t v:=hval0;have hW':=hW;obtain ⟨p,q,hA0,hV,rfl,_,_⟩:=hW;have hA:DataW.TrodAll enc Tryz.prog W 0 (fun _=>true) true Tryz.f4.params.toList args.toList ds p:=hA0;rw [Tryz.params4] at hA hval;obtain ⟨v0,vs0,d0,ds0,p0,q0,hargs,rfl,rfl,h0,r0⟩:=trodAll_cons hA;obtain ⟨v1,vs1,d1,ds1,p1,q1,rfl,rfl,rfl,h1,r1⟩:=trodAll_cons r0;obtain ⟨rfl,rfl,rfl⟩:=trodAll_nil r1;obtain rfl:args=#[v0,v1]:=by cases args;simp_all
 obtain ⟨rfl,rfl⟩:=trodVars_none hV;have k0:=h0;have lt0:∀ x∈p0,x.block<W.heap.size:=by obtain ⟨m,hm⟩:=k0;exact DataW.trod_lt m _ _ _ hm
 obtain ⟨x0,a0,rfl,b0,r0'⟩:=GA (hval 0 28 v0 rfl rfl) h0;have k1:=h1;have lt1:∀ x∈p1,x.block<W.heap.size:=by obtain ⟨m,hm⟩:=k1;exact DataW.trod_lt m _ _ _ hm
 obtain ⟨x1,a1,rfl,b1,r1'⟩:=GA (hval 1 28 v1 rfl rfl) h1;have hw:=FR hL;clear hA0 hval0 hL;refine (yC x0 a0 x1 a1 b0 b1 W r0' r1' hw).mono fun e W' ⟨he,bel⟩=>?_
 subst he;exact ⟨_,rfl,_,_,_,[],_,[],hW',trodAll_mk1 (shut_bool Tryz.underlying4 _),(trodAll_cons_mk (Below.trod vW (by kernel_rfl) (of_decide_eq_true (by kernel_rfl)) k0 bel lt0) (trodAll_cons_mk (Below.trod vW (by kernel_rfl) (of_decide_eq_true (by kernel_rfl)) k1 bel lt1) trodAll_mk0)),rfl,bel.frame _,fun h=>by cases h⟩
theorem yD:Rows.AggBackSaid :=
 OpenClaim.holds_of_wide 4 Tryz.f4 rfl rfl rfl rfl rfl rfl rfl ⟨rfl,rfl,rfl,rfl,rfl⟩ rfl rfl rfl rfl rfl (by kernel_rfl) Tryz.func4 (by kernel_rfl)
  (of_decide_eq_true (by kernel_rfl)) (by unfold Func.isWrapper;first | (rw [if_pos (by decide +kernel)];kernel_rfl) | (rw [if_neg (by decide +kernel)];exact ⟨rfl,rfl⟩))
  (fun os started H enc _=>uK os started H enc)
/-- any fold: whether it may be; in words, and back, the same one -/
theorem aggBack_card:Rows.AggBackCardSaid :=
 Claim7.holds_tied_plain_at .later [] [.data,.data,.data,.sentinel,.sentinel] true Rows.aggBackCard.stood.harness true
  yD (fun _ h=>by cases h) (by kernel_rfl) (fun _ h=>by cases h) aggBack_row_tie rfl ⟨rfl,rfl⟩ (by kernel_rfl) rfl
  (fun f fn hf hfn=>by
   obtain rfl:f=4:=Option.some.inj ((show Tryz.prog.funcNamed _=some 4 by kernel_rfl).symm.trans hf) |>.symm
   obtain rfl:fn=Tryz.f4:=(Option.some.inj (Tryz.func4.symm.trans hfn)).symm
   exact ⟨by kernel_rfl,fun j t ht=>by
    rw [Tryz.params4] at ht;have hm:t∈[28,28]:=by simpa using Array.mem_of_getElem? ht
    have hall:([28,28].all fun u=> !Tryz.prog.wantsStandIn u)=true:=by kernel_rfl
    exact (show Tryz.prog.wantsStandIn t=false by simpa using List.all_eq_true.1 hall t hm)⟩)
  (by kernel_rfl)
end
end Go.Proofs.YtapcjnoaofmmiaaGreatDoor
