/-
 Proved: any text as a fold, or why it is none, and where
-/
import Derived.Test.YtapcjnoaofmmiaaGreatDoorVT18
import Derived.Test.YtapcjnoaofmmiaaGreatDoorTie
import Derived.ProofKit
import Derived.OpenShut
import Derived.LaidMore
import Derived.Lay
import Derived.SevenTiedAt
import Derived.Stop.Joined
import Derived.Stop.LaidErr
import Derived.Lib.LaidTab
import Derived.Carry
import Derived.Test.YtapcjnoaofmmiaaGreatDoorCards
import Derived.ShutString
import Derived.ChangeOld
set_option maxHeartbeats 40000000
set_option maxRecDepth 100000
namespace Go.Proofs.YtapcjnoaofmmiaaGreatDoor
section
open Go.RowKit
def GB (a b:AG):Bool :=
 (a.fn.toList == b.fn.toList) && !((a.fn.data.toList == cQ) && a.k != b.k) && !((a.fn.data.toList != aQ) && !cN a.e b.e) && !((a.fn.data.toList == aW) && !cN a.g b.g) && (a.wh.length == b.wh.length)
structure KS (G H:Nat->Prop) (w:World) (x:AG) (p:PA) (y:AG) (q:PA) (V:World):Prop where
 b:Below w.heap.size w V
 z:w.heap.size<=V.heap.size
 n1:V.heap[w.heap.size]? = some (agO x p)
 n2:V.heap[w.heap.size+1]? = some (agO y q)
 r1:aP G V x p
 r2:aP H V y q
theorem KS.step {G H:Nat->Prop} {w V V':World} {x:AG} {p:PA} {y:AG} {q:PA} (h:KS G H w x p y q V) (hb:Below V.heap.size V V'):KS G H w x p y q V' :=
 ⟨h.b.trans (hb.mono h.z),Nat.le_trans h.z hb.size,(hb.block _ (aG h.n1)).trans h.n1,(hb.block _ (aG h.n2)).trans h.n2,h.r1.kept hb,h.r2.kept hb⟩
theorem Kj {G H:Nat->Prop} {w:World} {x:AG} {p:PA} {y:AG} {q:PA} (hr:aP G w x p) (hs:aP H w y q):KS G H w x p y q ((w.alloc (agO x p)).alloc (agO y q)):=by
 have B1:=(Below.refl w.heap.size w).alloc (Nat.le_refl _) (agO x p);have hz:(w.alloc (agO x p)).heap.size=w.heap.size+1:=World.size_alloc _ _;have B2:=(Below.refl (w.alloc (agO x p)).heap.size (w.alloc (agO x p))).alloc (Nat.le_refl _) (agO y q);have n2:=heap_alloc_new (w.alloc (agO x p)) (agO y q);rw [hz] at n2;exact ⟨B1.trans (B2.mono (by omega)),by rw [World.size_alloc,hz];omega,(B2.block _ (by omega)).trans (heap_alloc_new w _),n2,(hr.kept B1).kept B2,(hs.kept B1).kept B2⟩
theorem xD {G H:Nat->Prop} (x y:AG) (p q:PA) (w:World) (hS:SzG x) (hr:aP G w x p) (hs:aP H w y q) (hl1:x.wh.length<=1000) (hl2:y.wh.length<=1000):Calls Tryz.prog 13 #[agV x p,agV y q] w fun e w'=>e=.returned (.bool (mO x y))/\Below w.heap.size w w':=by
 have KW0:=Kj hr hs;obtain ⟨r,hR⟩:∃ r,mO x y=r:=⟨_,rfl⟩;rw [hR];have hR2:(GB x y && eX x.wh y.wh)=r:=hR;obtain ⟨zz,hzz⟩:∃ z,GB x y=z:=⟨_,rfl⟩;rw [hzz] at hR2;unfold GB at hzz;clear hR;have hR:=hzz;clear hzz;have HL:=aA (fun h:zz=true=>show x.wh.length=y.wh.length by rw [h] at hR;simp only [Bool.and_eq_true,beq_iff_eq] at hR;exact hR.2)
 have HY:=aA (fun h:zz=true=>show y.fn=x.fn by
  rw [h] at hR;simp only [Bool.and_eq_true] at hR;exact ByteArray.ext (Array.ext' (by rw [<- Lib.toList_data, <- Lib.toList_data];exact (eq_of_beq hR.1.1.1.1).symm)))
 obtain ⟨yf,yk,ye,yg,yw⟩:=y;dsimp only at hR hl2 hR2 HL HY;have HR2:=aA hR2;clear hR2;generalize hW1:w.alloc (agO x p)=W1 at KW0;generalize hW:W1.alloc (agO ⟨yf,yk,ye,yg,yw⟩ q)=W at KW0;have HW1:=aA hW1;have HW:=aA hW;have KW:=aA KW0;have HS:=aA hS;clear hW1 hW KW0 hS hr hs;obtain ⟨nz,hnz⟩:∃ z,(!zz)=z:=⟨_,rfl⟩;have HNZ:=aA hnz;clear hnz;go_enter Tryz.func13,Tryz.ntmps13
 go_upto_region 1 with fail
 rw [HW1.out,HW.out];clear HW1 HW;go_cut [57] (fun v wc=>v=.bool nz/\Hid (KS G H w x p ⟨yf,yk,ye,yg,yw⟩ q wc))
 case first =>
  obtain ⟨m0,m1,m2,m3,m4,m5,m6,m7,m8,m9,m10⟩:=aC KW.out.n1;obtain ⟨n0,n1,n2,n3,n4,n5,n6,n7,n8,n9,n10⟩:=aC KW.out.n2;cases hf:(x.fn.toList == yf.toList) with
  | false =>
    have hf2:(x.fn.toList != yf.toList)=true:=by rw [bne,hf];rfl
    have HZ:=aA (show zz=false by rw [<- hR,hf];rfl);clear hR;go_wp2_with fail
    go_meet;case rel=>exact ⟨by rw [<- HNZ.out,HZ.out];rfl,KW⟩
  | true =>
    obtain rfl:yf=x.fn:=ByteArray.ext (Array.ext' (by rw [<- Lib.toList_data, <- Lib.toList_data];exact (eq_of_beq hf).symm));have hf2:(x.fn.toList != x.fn.toList)=false:=by simp
    rw [hf,Bool.true_and] at hR;cases hc:(x.fn.data.toList == aQ) with
    | true =>
      have f1:=As hc (b:=cQ) (by decide);have f2:=As hc (b:=aW) (by decide);have hR':(x.wh.length == yw.length)=zz:=by rw [<- hR];unfold bne;rw [f1,f2,hc];simp
      have RL:=aA hR';have KK:=aA KW.out;have g0:=bT hc;have g1:=aM f1;have g2:=aM f2;unfold aQ at g0;unfold cQ at g1;unfold aW at g2;have g3:(x.fn.toList != [99,111,117,110,116])=false:=by rw [bne,g0];rfl
      clear hR hR' f1 f2 hc KW m0 m1 m2 m3 m4 m5 m6 m7 m8 m9 m10 n0 n1 n2 n3 n4 n5 n6 n7 n8 n9 n10;obtain ⟨m0,m1,m2,m3,m4,m5,m6,m7,m8,m9,m10⟩:=aC KK.out.n1;obtain ⟨n0,n1,n2,n3,n4,n5,n6,n7,n8,n9,n10⟩:=aC KK.out.n2;by_cases hl:x.wh.length=yw.length
      · have HZ:=aA (show zz=true by rw [<- RL.out,hl];simp)
        have l1:((x.wh.length:Int) == (yw.length:Int))=true:=by rw [hl];simp
        have l2:((x.wh.length:Int) != (yw.length:Int))=false:=by rw [hl];simp
        clear hl RL;go_wp2_with fail
        go_meet;case rel=>exact ⟨by rw [<- HNZ.out,HZ.out];rfl,KK⟩
      · have HZ:=aA (show zz=false by rw [<- RL.out,beq_eq_false_iff_ne];exact hl)
        have l1:((x.wh.length:Int) == (yw.length:Int))=false:=by rw [beq_eq_false_iff_ne];omega
        have l2:((x.wh.length:Int) != (yw.length:Int))=true:=by rw [bne,l1];rfl
        clear hl RL;go_wp2_with fail
        go_meet;case rel=>exact ⟨by rw [<- HNZ.out,HZ.out];rfl,KK⟩
    | false =>
      have g0:=aM hc;unfold aQ at g0;have g3:(x.fn.toList != [99,111,117,110,116])=true:=by rw [bne,g0];rfl
      cases ht:(x.fn.data.toList == cQ) with
      | true =>
        have f2:=As ht (b:=aW) (by decide);have g1:=bT ht;have g2:=aM f2;unfold cQ at g1;unfold aW at g2;by_cases hk:x.k=yk
        · have k1:(x.k == yk)=true:=by rw [hk];simp
          have k2:(x.k != yk)=false:=by rw [hk];simp
          have hR':(cN x.e ye && ((x.wh.length == yw.length)))=zz:=by rw [<- hR];unfold bne;rw [ht,f2,k1,hc];simp
          have Re:=aA hR';clear hR hR' hk f2 hc ht m0 m1 m2 m3 m4 m5 m6 m7 m8 m9 m10 n0 n1 n2 n3 n4 n5 n6 n7 n8 n9 n10;obtain ⟨m0,m1,m2,m3,m4,m5,m6,m7,m8,m9,m10⟩:=aC KW.out.n1;obtain ⟨n0,n1,n2,n3,n4,n5,n6,n7,n8,n9,n10⟩:=aC KW.out.n2;have Ce:=aA (jG x.e G H _ p.ea q.ea p.ec q.ec ye HS.out.e.lens KW.out.r1.e KW.out.r2.e);obtain ⟨ze,hze⟩:∃ z,cN x.e ye=z:=⟨_,rfl⟩;rw [hze] at Ce;have HZe:=aA hze;clear hze;go_wp2_with fail
          refine Ce.out.mono ?_;rintro e we ⟨rfl,hb⟩;have KE:=aA (KW.out.step hb);clear hb Ce m0 m1 m2 m3 m4 m5 m6 m7 m8 m9 m10 n0 n1 n2 n3 n4 n5 n6 n7 n8 n9 n10;cases ze with
          | false =>
            have HZ:=aA (show zz=false by rw [<- Re.out,HZe.out];rfl);obtain ⟨m0,m1,m2,m3,m4,m5,m6,m7,m8,m9,m10⟩:=aC KE.out.n1;obtain ⟨n0,n1,n2,n3,n4,n5,n6,n7,n8,n9,n10⟩:=aC KE.out.n2;go_wp2_with fail
            go_meet;case rel=>exact ⟨by rw [<- HNZ.out,HZ.out];rfl,KE⟩
          | true =>
            have RL:=aA (show (x.wh.length == yw.length)=zz by rw [<- Re.out,HZe.out,Bool.true_and]);have KK:=aA KE.out;clear KE Re;obtain ⟨m0,m1,m2,m3,m4,m5,m6,m7,m8,m9,m10⟩:=aC KK.out.n1;obtain ⟨n0,n1,n2,n3,n4,n5,n6,n7,n8,n9,n10⟩:=aC KK.out.n2;by_cases hl:x.wh.length=yw.length
            · have HZ:=aA (show zz=true by rw [<- RL.out,hl];simp)
              have l1:((x.wh.length:Int) == (yw.length:Int))=true:=by rw [hl];simp
              have l2:((x.wh.length:Int) != (yw.length:Int))=false:=by rw [hl];simp
              clear hl RL;go_wp2_with fail
              go_meet;case rel=>exact ⟨by rw [<- HNZ.out,HZ.out];rfl,KK⟩
            · have HZ:=aA (show zz=false by rw [<- RL.out,beq_eq_false_iff_ne];exact hl)
              have l1:((x.wh.length:Int) == (yw.length:Int))=false:=by rw [beq_eq_false_iff_ne];omega
              have l2:((x.wh.length:Int) != (yw.length:Int))=true:=by rw [bne,l1];rfl
              clear hl RL;go_wp2_with fail
              go_meet;case rel=>exact ⟨by rw [<- HNZ.out,HZ.out];rfl,KK⟩
        · have k1:(x.k == yk)=false:=by simpa using hk
          have k2:(x.k != yk)=true:=by simpa using hk
          have HZ:=aA (show zz=false by rw [<- hR];unfold bne;rw [ht,k1];rfl);clear hR hk f2 hc ht;go_wp2_with fail
          go_meet;case rel=>exact ⟨by rw [<- HNZ.out,HZ.out];rfl,KW⟩
      | false =>
        have g1:=aM ht;unfold cQ at g1;cases hi:(x.fn.data.toList == aW) with
        | true =>
          have g2:=bT hi;unfold aW at g2;have hR':(cN x.e ye && (cN x.g yg && ((x.wh.length == yw.length))))=zz:=by rw [<- hR];unfold bne;rw [ht,hi,hc];simp [Bool.and_assoc]
          have Re:=aA hR';clear hR hR' hi hc ht m0 m1 m2 m3 m4 m5 m6 m7 m8 m9 m10 n0 n1 n2 n3 n4 n5 n6 n7 n8 n9 n10;obtain ⟨m0,m1,m2,m3,m4,m5,m6,m7,m8,m9,m10⟩:=aC KW.out.n1;obtain ⟨n0,n1,n2,n3,n4,n5,n6,n7,n8,n9,n10⟩:=aC KW.out.n2;have Ce:=aA (jG x.e G H _ p.ea q.ea p.ec q.ec ye HS.out.e.lens KW.out.r1.e KW.out.r2.e);obtain ⟨ze,hze⟩:∃ z,cN x.e ye=z:=⟨_,rfl⟩;rw [hze] at Ce;have HZe:=aA hze;clear hze;go_wp2_with fail
          refine Ce.out.mono ?_;rintro e we ⟨rfl,hb⟩;have KE:=aA (KW.out.step hb);clear hb Ce m0 m1 m2 m3 m4 m5 m6 m7 m8 m9 m10 n0 n1 n2 n3 n4 n5 n6 n7 n8 n9 n10;cases ze with
          | false =>
            have HZ:=aA (show zz=false by rw [<- Re.out,HZe.out];rfl);obtain ⟨m0,m1,m2,m3,m4,m5,m6,m7,m8,m9,m10⟩:=aC KE.out.n1;obtain ⟨n0,n1,n2,n3,n4,n5,n6,n7,n8,n9,n10⟩:=aC KE.out.n2;go_wp2_with fail
            go_meet;case rel=>exact ⟨by rw [<- HNZ.out,HZ.out];rfl,KE⟩
          | true =>
            have Rg:=aA (show (cN x.g yg && (x.wh.length == yw.length))=zz by rw [<- Re.out,HZe.out,Bool.true_and]);clear Re;obtain ⟨m0,m1,m2,m3,m4,m5,m6,m7,m8,m9,m10⟩:=aC KE.out.n1;obtain ⟨n0,n1,n2,n3,n4,n5,n6,n7,n8,n9,n10⟩:=aC KE.out.n2;have Cg:=aA (jG x.g G H _ p.ga q.ga p.gc q.gc yg HS.out.g.lens KE.out.r1.g KE.out.r2.g);obtain ⟨zg,hzg⟩:∃ z,cN x.g yg=z:=⟨_,rfl⟩;rw [hzg] at Cg;have HZg:=aA hzg;clear hzg;go_wp2_with fail
            refine Cg.out.mono ?_;rintro e wg ⟨rfl,hb⟩;have KG:=aA (KE.out.step hb);clear hb Cg m0 m1 m2 m3 m4 m5 m6 m7 m8 m9 m10 n0 n1 n2 n3 n4 n5 n6 n7 n8 n9 n10;cases zg with
            | false =>
              have HZ:=aA (show zz=false by rw [<- Rg.out,HZg.out];rfl);obtain ⟨m0,m1,m2,m3,m4,m5,m6,m7,m8,m9,m10⟩:=aC KG.out.n1;obtain ⟨n0,n1,n2,n3,n4,n5,n6,n7,n8,n9,n10⟩:=aC KG.out.n2;go_wp2_with fail
              go_meet;case rel=>exact ⟨by rw [<- HNZ.out,HZ.out];rfl,KG⟩
            | true =>
              have RL:=aA (show (x.wh.length == yw.length)=zz by rw [<- Rg.out,HZg.out,Bool.true_and]);have KK:=aA KG.out;clear KG Rg;obtain ⟨m0,m1,m2,m3,m4,m5,m6,m7,m8,m9,m10⟩:=aC KK.out.n1;obtain ⟨n0,n1,n2,n3,n4,n5,n6,n7,n8,n9,n10⟩:=aC KK.out.n2;by_cases hl:x.wh.length=yw.length
              · have HZ:=aA (show zz=true by rw [<- RL.out,hl];simp)
                have l1:((x.wh.length:Int) == (yw.length:Int))=true:=by rw [hl];simp
                have l2:((x.wh.length:Int) != (yw.length:Int))=false:=by rw [hl];simp
                clear hl RL;go_wp2_with fail
                go_meet;case rel=>exact ⟨by rw [<- HNZ.out,HZ.out];rfl,KK⟩
              · have HZ:=aA (show zz=false by rw [<- RL.out,beq_eq_false_iff_ne];exact hl)
                have l1:((x.wh.length:Int) == (yw.length:Int))=false:=by rw [beq_eq_false_iff_ne];omega
                have l2:((x.wh.length:Int) != (yw.length:Int))=true:=by rw [bne,l1];rfl
                clear hl RL;go_wp2_with fail
                go_meet;case rel=>exact ⟨by rw [<- HNZ.out,HZ.out];rfl,KK⟩
        | false =>
          have g2:=aM hi;unfold aW at g2;have hR':(cN x.e ye && ((x.wh.length == yw.length)))=zz:=by rw [<- hR];unfold bne;rw [ht,hi,hc];simp
          have Re:=aA hR';clear hR hR' hi hc ht m0 m1 m2 m3 m4 m5 m6 m7 m8 m9 m10 n0 n1 n2 n3 n4 n5 n6 n7 n8 n9 n10;obtain ⟨m0,m1,m2,m3,m4,m5,m6,m7,m8,m9,m10⟩:=aC KW.out.n1;obtain ⟨n0,n1,n2,n3,n4,n5,n6,n7,n8,n9,n10⟩:=aC KW.out.n2;have Ce:=aA (jG x.e G H _ p.ea q.ea p.ec q.ec ye HS.out.e.lens KW.out.r1.e KW.out.r2.e);obtain ⟨ze,hze⟩:∃ z,cN x.e ye=z:=⟨_,rfl⟩;rw [hze] at Ce;have HZe:=aA hze;clear hze;go_wp2_with fail
          refine Ce.out.mono ?_;rintro e we ⟨rfl,hb⟩;have KE:=aA (KW.out.step hb);clear hb Ce m0 m1 m2 m3 m4 m5 m6 m7 m8 m9 m10 n0 n1 n2 n3 n4 n5 n6 n7 n8 n9 n10;cases ze with
          | false =>
            have HZ:=aA (show zz=false by rw [<- Re.out,HZe.out];rfl);obtain ⟨m0,m1,m2,m3,m4,m5,m6,m7,m8,m9,m10⟩:=aC KE.out.n1;obtain ⟨n0,n1,n2,n3,n4,n5,n6,n7,n8,n9,n10⟩:=aC KE.out.n2;go_wp2_with fail
            go_meet;case rel=>exact ⟨by rw [<- HNZ.out,HZ.out];rfl,KE⟩
          | true =>
            have RL:=aA (show (x.wh.length == yw.length)=zz by rw [<- Re.out,HZe.out,Bool.true_and]);have KK:=aA KE.out;clear KE Re;obtain ⟨m0,m1,m2,m3,m4,m5,m6,m7,m8,m9,m10⟩:=aC KK.out.n1;obtain ⟨n0,n1,n2,n3,n4,n5,n6,n7,n8,n9,n10⟩:=aC KK.out.n2;by_cases hl:x.wh.length=yw.length
            · have HZ:=aA (show zz=true by rw [<- RL.out,hl];simp)
              have l1:((x.wh.length:Int) == (yw.length:Int))=true:=by rw [hl];simp
              have l2:((x.wh.length:Int) != (yw.length:Int))=false:=by rw [hl];simp
              clear hl RL;go_wp2_with fail
              go_meet;case rel=>exact ⟨by rw [<- HNZ.out,HZ.out];rfl,KK⟩
            · have HZ:=aA (show zz=false by rw [<- RL.out,beq_eq_false_iff_ne];exact hl)
              have l1:((x.wh.length:Int) == (yw.length:Int))=false:=by rw [beq_eq_false_iff_ne];omega
              have l2:((x.wh.length:Int) != (yw.length:Int))=true:=by rw [bne,l1];rfl
              clear hl RL;go_wp2_with fail
              go_meet;case rel=>exact ⟨by rw [<- HNZ.out,HZ.out];rfl,KK⟩
 case rest =>
  obtain ⟨rfl,K0⟩:=hcut;have hz:zz= !nz:=by rw [<- HNZ.out];simp
  subst hz;cases nz with
  | true =>
    have TR:=aA (show false=r by rw [<- HR2.out];rfl);go_wp2_with fail
    go_ret;exact ⟨congrArg (fun z=>Ending.returned (.bool z)) TR.out,K0.out.b⟩
  | false =>
    have HLE:=aA (show x.wh.length=yw.length from HL.out rfl);obtain rfl:yf=x.fn:=HY.out rfl;clear HL HY;have HL:=HLE;clear HLE;have T0:=aA (show eX (x.wh.drop 0) (yw.drop 0)=r by rw [List.drop_zero,List.drop_zero, <- HR2.out];rfl);go_wp2_with fail
    go_loopw [5] (fun i wr=>∃ (k:Nat),i=.int .i64 k/\k<=x.wh.length/\Hid (eX (x.wh.drop k) (yw.drop k)=r)/\Hid (KS G H w x p ⟨x.fn,yk,ye,yg,yw⟩ q wr)) (fun i _=>x.wh.length-(intOf i).toNat)
    case atStart=>exact ⟨0,rfl,Nat.zero_le _,T0,K0⟩
    case round =>
     obtain ⟨k,rfl,hk,HC,HK⟩:=hrel;by_cases hlt:k<x.wh.length
     · have hlt2:k<yw.length:=by have:=HL.out;omega
       obtain ⟨d,hd⟩:∃ d,x.wh[k]? = some d:=⟨_,List.getElem?_eq_getElem hlt⟩;obtain ⟨u,hu⟩:∃ d,yw[k]? = some d:=⟨_,List.getElem?_eq_getElem hlt2⟩;have hne:¬ x.wh=[]:=fun e=>by rw [e] at hlt;simp at hlt
       have hne2:¬ yw=[]:=fun e=>by rw [e] at hlt2;simp at hlt2
       obtain ⟨b,off,hwa, -,hbl,hcc⟩:=HK.out.r1.c.resolve_left hne;obtain ⟨g,oof,hwb, -,hgl,hdd⟩:=HK.out.r2.c.resolve_left hne2;obtain ⟨a1,c1,a2,c2,⟨p0,p1,p2,p3,p4,p5,p6,p7,p8⟩,r1,r2⟩:=hcc k d hd;obtain ⟨e1,f1,e2,f2,⟨q0,q1,q2,q3,q4,q5,q6,q7,q8⟩,s1,s2⟩:=hdd k u hu;obtain ⟨-, -, -, -, -, -, -, -, -, -,m10⟩:=aC HK.out.n1;obtain ⟨-, -, -, -, -, -, -, -, -, -,n10⟩:=aC HK.out.n2;rw [hwa] at m10;have n10':wr.cell? ⟨w.heap.size+1,10,none⟩=some (.slice (some ⟨g,oof,none⟩) x.wh.length q.wc):=by rw [n10, <- hwb,HL.out]
       clear n10;have n10:=n10';clear n10'
       have CELLS:=aA (p:=∀ V,Below wr.heap.size wr V->(V.cell? ⟨w.heap.size,10,none⟩=some (.slice (some ⟨b,off,none⟩) x.wh.length p.wc)/\V.cell? ⟨w.heap.size+1,10,none⟩=some (.slice (some ⟨g,oof,none⟩) x.wh.length q.wc)/\V.cell? ⟨b,off+k*9,none⟩=some (.string d.op)/\V.cell? ⟨b,off+k*9+1,none⟩=some (.string d.a.op)/\V.cell? ⟨b,off+k*9+1+1,none⟩=some (.string d.a.nm)/\V.cell? ⟨b,off+k*9+1+2,none⟩=some (.int .i64 d.a.n)/\V.cell? ⟨b,off+k*9+1+3,none⟩=some (.slice a1 d.a.ks.len c1)/\V.cell? ⟨b,off+k*9+5,none⟩=some (.string d.b.op)/\V.cell? ⟨b,off+k*9+5+1,none⟩=some (.string d.b.nm)/\V.cell? ⟨b,off+k*9+5+2,none⟩=some (.int .i64 d.b.n)/\V.cell? ⟨b,off+k*9+5+3,none⟩=some (.slice a2 d.b.ks.len c2)/\V.cell? ⟨g,oof+k*9,none⟩=some (.string u.op)/\V.cell? ⟨g,oof+k*9+1,none⟩=some (.string u.a.op)/\V.cell? ⟨g,oof+k*9+1+1,none⟩=some (.string u.a.nm)/\V.cell? ⟨g,oof+k*9+1+2,none⟩=some (.int .i64 u.a.n)/\V.cell? ⟨g,oof+k*9+1+3,none⟩=some (.slice e1 u.a.ks.len f1)/\V.cell? ⟨g,oof+k*9+5,none⟩=some (.string u.b.op)/\V.cell? ⟨g,oof+k*9+5+1,none⟩=some (.string u.b.nm)/\V.cell? ⟨g,oof+k*9+5+2,none⟩=some (.int .i64 u.b.n)/\V.cell? ⟨g,oof+k*9+5+3,none⟩=some (.slice e2 u.b.ks.len f2))) (fun V hV=>by
        have z1:=aG HK.out.n1;have z2:=aG HK.out.n2;exact ⟨(hV.cell (p:=⟨w.heap.size,_,none⟩) z1).trans m10,(hV.cell (p:=⟨w.heap.size+1,_,none⟩) z2).trans n10,(hV.cell (p:=⟨b,_,none⟩) hbl).trans p0,(hV.cell (p:=⟨b,_,none⟩) hbl).trans p1,(hV.cell (p:=⟨b,_,none⟩) hbl).trans p2,(hV.cell (p:=⟨b,_,none⟩) hbl).trans p3,(hV.cell (p:=⟨b,_,none⟩) hbl).trans p4,(hV.cell (p:=⟨b,_,none⟩) hbl).trans p5,(hV.cell (p:=⟨b,_,none⟩) hbl).trans p6,(hV.cell (p:=⟨b,_,none⟩) hbl).trans p7,(hV.cell (p:=⟨b,_,none⟩) hbl).trans p8,(hV.cell (p:=⟨g,_,none⟩) hgl).trans q0,(hV.cell (p:=⟨g,_,none⟩) hgl).trans q1,(hV.cell (p:=⟨g,_,none⟩) hgl).trans q2,(hV.cell (p:=⟨g,_,none⟩) hgl).trans q3,(hV.cell (p:=⟨g,_,none⟩) hgl).trans q4,(hV.cell (p:=⟨g,_,none⟩) hgl).trans q5,(hV.cell (p:=⟨g,_,none⟩) hgl).trans q6,(hV.cell (p:=⟨g,_,none⟩) hgl).trans q7,(hV.cell (p:=⟨g,_,none⟩) hgl).trans q8⟩)
       have hdr:x.wh.drop k=d::x.wh.drop (k+1):=by
        rw [List.drop_eq_getElem_cons hlt];have:=List.getElem?_eq_getElem hlt;rw [this] at hd;rw [Option.some.inj hd]
       have hur:yw.drop k=u::yw.drop (k+1):=by
        rw [List.drop_eq_getElem_cons hlt2];have:=List.getElem?_eq_getElem hlt2;rw [this] at hu;rw [Option.some.inj hu]
       have hsz:=HS.out.c d (List.mem_of_getElem? hd);have hC:=HC.out;rw [hdr,hur,eX] at hC;have C1:=aA (fun V (hV:Below wr.heap.size wr V)=>jG d.a G H V a1 e1 c1 f1 u.a hsz.1.lens (r1.kept hV) (s1.kept hV));have C2:=aA (fun V (hV:Below wr.heap.size wr V)=>jG d.b G H V a2 e2 c2 f2 u.b hsz.2.lens (r2.kept hV) (s2.kept hV));obtain ⟨z1,hz1⟩:∃ z,cN d.a u.a=z:=⟨_,rfl⟩;obtain ⟨z2,hz2⟩:∃ z,cN d.b u.b=z:=⟨_,rfl⟩;rw [hz1] at C1 hC;rw [hz2] at C2 hC;have b1:(k:Int)<(x.wh.length:Int):=by omega
       have b2:(0:Int)<=(k:Int):=by omega
       have b3:((k:Int)).toNat=k:=by omega
       clear hne hne2 hcc hdd hdr hur hsz hz1 hz2 r1 r2 s1 s2 hd hu hwa hwb HC;cases ho:(d.op.toList == u.op.toList) with
       | false =>
         have ho2:(d.op.toList != u.op.toList)=true:=by rw [bne,ho];rfl
         have TR:=aA (show false=r by rw [<- hC,ho];rfl);clear hC;go_wp2_with (go_quiet (fail))
         go_ret;exact ⟨congrArg (fun z=>Ending.returned (.bool z)) TR.out,cL HK.out.b _⟩
       | true =>
         have ho2:(d.op.toList != u.op.toList)=false:=by rw [bne,ho];rfl
         rw [ho] at hC;cases z1 with
         | false =>
           have TR:=aA (show false=r by rw [<- hC];rfl);clear hC;go_upto_region 6 with fail
           refine wp_region_held (S:=fun V=>V.cell? ⟨w.heap.size,10,none⟩=some (.slice (some ⟨b,off,none⟩) x.wh.length p.wc)/\V.cell? ⟨w.heap.size+1,10,none⟩=some (.slice (some ⟨g,oof,none⟩) x.wh.length q.wc)/\V.cell? ⟨b,off+k*9,none⟩=some (.string d.op)/\V.cell? ⟨b,off+k*9+1,none⟩=some (.string d.a.op)/\V.cell? ⟨b,off+k*9+1+1,none⟩=some (.string d.a.nm)/\V.cell? ⟨b,off+k*9+1+2,none⟩=some (.int .i64 d.a.n)/\V.cell? ⟨b,off+k*9+1+3,none⟩=some (.slice a1 d.a.ks.len c1)/\V.cell? ⟨b,off+k*9+5,none⟩=some (.string d.b.op)/\V.cell? ⟨b,off+k*9+5+1,none⟩=some (.string d.b.nm)/\V.cell? ⟨b,off+k*9+5+2,none⟩=some (.int .i64 d.b.n)/\V.cell? ⟨b,off+k*9+5+3,none⟩=some (.slice a2 d.b.ks.len c2)/\V.cell? ⟨g,oof+k*9,none⟩=some (.string u.op)/\V.cell? ⟨g,oof+k*9+1,none⟩=some (.string u.a.op)/\V.cell? ⟨g,oof+k*9+1+1,none⟩=some (.string u.a.nm)/\V.cell? ⟨g,oof+k*9+1+2,none⟩=some (.int .i64 u.a.n)/\V.cell? ⟨g,oof+k*9+1+3,none⟩=some (.slice e1 u.a.ks.len f1)/\V.cell? ⟨g,oof+k*9+5,none⟩=some (.string u.b.op)/\V.cell? ⟨g,oof+k*9+5+1,none⟩=some (.string u.b.nm)/\V.cell? ⟨g,oof+k*9+5+2,none⟩=some (.int .i64 u.b.n)/\V.cell? ⟨g,oof+k*9+5+3,none⟩=some (.slice e2 u.b.ks.len f2)) (by kernel_rfl) ?_;have hHeld:(fun V:World=>V.cell? ⟨w.heap.size,10,none⟩=some (.slice (some ⟨b,off,none⟩) x.wh.length p.wc)/\V.cell? ⟨w.heap.size+1,10,none⟩=some (.slice (some ⟨g,oof,none⟩) x.wh.length q.wc)/\V.cell? ⟨b,off+k*9,none⟩=some (.string d.op)/\V.cell? ⟨b,off+k*9+1,none⟩=some (.string d.a.op)/\V.cell? ⟨b,off+k*9+1+1,none⟩=some (.string d.a.nm)/\V.cell? ⟨b,off+k*9+1+2,none⟩=some (.int .i64 d.a.n)/\V.cell? ⟨b,off+k*9+1+3,none⟩=some (.slice a1 d.a.ks.len c1)/\V.cell? ⟨b,off+k*9+5,none⟩=some (.string d.b.op)/\V.cell? ⟨b,off+k*9+5+1,none⟩=some (.string d.b.nm)/\V.cell? ⟨b,off+k*9+5+2,none⟩=some (.int .i64 d.b.n)/\V.cell? ⟨b,off+k*9+5+3,none⟩=some (.slice a2 d.b.ks.len c2)/\V.cell? ⟨g,oof+k*9,none⟩=some (.string u.op)/\V.cell? ⟨g,oof+k*9+1,none⟩=some (.string u.a.op)/\V.cell? ⟨g,oof+k*9+1+1,none⟩=some (.string u.a.nm)/\V.cell? ⟨g,oof+k*9+1+2,none⟩=some (.int .i64 u.a.n)/\V.cell? ⟨g,oof+k*9+1+3,none⟩=some (.slice e1 u.a.ks.len f1)/\V.cell? ⟨g,oof+k*9+5,none⟩=some (.string u.b.op)/\V.cell? ⟨g,oof+k*9+5+1,none⟩=some (.string u.b.nm)/\V.cell? ⟨g,oof+k*9+5+2,none⟩=some (.int .i64 u.b.n)/\V.cell? ⟨g,oof+k*9+5+3,none⟩=some (.slice e2 u.b.ks.len f2)) wr.drew:=⟨m10,n10,p0,p1,p2,p3,p4,p5,p6,p7,p8,q0,q1,q2,q3,q4,q5,q6,q7,q8⟩
           clear m10 n10 p0 p1 p2 p3 p4 p5 p6 p7 p8 q0 q1 q2 q3 q4 q5 q6 q7 q8;refine aB (i:=0) (d:=some 65) (v:=.pointer (some ⟨w.heap.size,10,none⟩)) rfl rfl (by kernel_rfl) (by kernel_rfl) (by kernel_rfl) (fun _ _ _ h=>h) (Or.inl ⟨by rfl,by rintro w ⟨m10,n10,p0,p1,p2,p3,p4,p5,p6,p7,p8,q0,q1,q2,q3,q4,q5,q6,q7,q8⟩;go_simp⟩) hHeld ?_;simp only [Act.put,LG,LH,LI];refine aB (i:=1) (d:=some 66) (v:=.slice (some ⟨b,off,none⟩) x.wh.length p.wc) rfl rfl (by kernel_rfl) (by kernel_rfl) (by kernel_rfl) (fun _ _ _ h=>h) (Or.inl ⟨by rfl,by rintro w ⟨m10,n10,p0,p1,p2,p3,p4,p5,p6,p7,p8,q0,q1,q2,q3,q4,q5,q6,q7,q8⟩;go_simp⟩) hHeld ?_;simp only [Act.put,LG,LH,LI];refine aB (i:=2) (d:=some 67) (v:=.int .i64 (k:Nat)) rfl rfl (by kernel_rfl) (by kernel_rfl) (by kernel_rfl) (fun _ _ _ h=>h) (Or.inl ⟨by rfl,by rintro w ⟨m10,n10,p0,p1,p2,p3,p4,p5,p6,p7,p8,q0,q1,q2,q3,q4,q5,q6,q7,q8⟩;go_simp⟩) hHeld ?_;simp only [Act.put,LG,LH,LI];refine aB (i:=3) (d:=some 68) (v:=.pointer (some ⟨b,off+k*9,none⟩)) rfl rfl (by kernel_rfl) (by kernel_rfl) (by kernel_rfl) (fun _ _ _ h=>h) (Or.inl ⟨by rfl,by rintro w ⟨m10,n10,p0,p1,p2,p3,p4,p5,p6,p7,p8,q0,q1,q2,q3,q4,q5,q6,q7,q8⟩;go_simp⟩) hHeld ?_;simp only [Act.put,LG,LH,LI];refine aB (i:=4) (d:=some 69) (v:=.pointer (some ⟨b,off+k*9,none⟩)) rfl rfl (by kernel_rfl) (by kernel_rfl) (by kernel_rfl) (fun _ _ _ h=>h) (Or.inl ⟨by rfl,by rintro w ⟨m10,n10,p0,p1,p2,p3,p4,p5,p6,p7,p8,q0,q1,q2,q3,q4,q5,q6,q7,q8⟩;go_simp⟩) hHeld ?_;simp only [Act.put,LG,LH,LI];refine aB (i:=5) (d:=some 70) (v:=.string d.op) rfl rfl (by kernel_rfl) (by kernel_rfl) (by kernel_rfl) (fun _ _ _ h=>h) (Or.inl ⟨by rfl,by rintro w ⟨m10,n10,p0,p1,p2,p3,p4,p5,p6,p7,p8,q0,q1,q2,q3,q4,q5,q6,q7,q8⟩;go_simp⟩) hHeld ?_
           simp only [Act.put,LG,LH,LI];refine aB (i:=6) (d:=some 71) (v:=.pointer (some ⟨w.heap.size+1,10,none⟩)) rfl rfl (by kernel_rfl) (by kernel_rfl) (by kernel_rfl) (fun _ _ _ h=>h) (Or.inl ⟨by rfl,by rintro w ⟨m10,n10,p0,p1,p2,p3,p4,p5,p6,p7,p8,q0,q1,q2,q3,q4,q5,q6,q7,q8⟩;go_simp⟩) hHeld ?_;simp only [Act.put,LG,LH,LI];refine aB (i:=7) (d:=some 72) (v:=.slice (some ⟨g,oof,none⟩) x.wh.length q.wc) rfl rfl (by kernel_rfl) (by kernel_rfl) (by kernel_rfl) (fun _ _ _ h=>h) (Or.inl ⟨by rfl,by rintro w ⟨m10,n10,p0,p1,p2,p3,p4,p5,p6,p7,p8,q0,q1,q2,q3,q4,q5,q6,q7,q8⟩;go_simp⟩) hHeld ?_;simp only [Act.put,LG,LH,LI];refine aB (i:=8) (d:=some 73) (v:=.int .i64 (k:Nat)) rfl rfl (by kernel_rfl) (by kernel_rfl) (by kernel_rfl) (fun _ _ _ h=>h) (Or.inl ⟨by rfl,by rintro w ⟨m10,n10,p0,p1,p2,p3,p4,p5,p6,p7,p8,q0,q1,q2,q3,q4,q5,q6,q7,q8⟩;go_simp⟩) hHeld ?_;simp only [Act.put,LG,LH,LI];refine aB (i:=9) (d:=some 74) (v:=.pointer (some ⟨g,oof+k*9,none⟩)) rfl rfl (by kernel_rfl) (by kernel_rfl) (by kernel_rfl) (fun _ _ _ h=>h) (Or.inl ⟨by rfl,by rintro w ⟨m10,n10,p0,p1,p2,p3,p4,p5,p6,p7,p8,q0,q1,q2,q3,q4,q5,q6,q7,q8⟩;go_simp⟩) hHeld ?_;simp only [Act.put,LG,LH,LI];refine aB (i:=10) (d:=some 75) (v:=.pointer (some ⟨g,oof+k*9,none⟩)) rfl rfl (by kernel_rfl) (by kernel_rfl) (by kernel_rfl) (fun _ _ _ h=>h) (Or.inl ⟨by rfl,by rintro w ⟨m10,n10,p0,p1,p2,p3,p4,p5,p6,p7,p8,q0,q1,q2,q3,q4,q5,q6,q7,q8⟩;go_simp⟩) hHeld ?_;simp only [Act.put,LG,LH,LI];refine aB (i:=11) (d:=some 76) (v:=.string u.op) rfl rfl (by kernel_rfl) (by kernel_rfl) (by kernel_rfl) (fun _ _ _ h=>h) (Or.inl ⟨by rfl,by rintro w ⟨m10,n10,p0,p1,p2,p3,p4,p5,p6,p7,p8,q0,q1,q2,q3,q4,q5,q6,q7,q8⟩;go_simp⟩) hHeld ?_
           simp only [Act.put,LG,LH,LI];refine aB (i:=12) (d:=some 77) (v:=.bool false) rfl rfl (by kernel_rfl) (by kernel_rfl) (by kernel_rfl) (fun _ _ _ h=>h) (Or.inl ⟨by rfl,by rintro w ⟨m10,n10,p0,p1,p2,p3,p4,p5,p6,p7,p8,q0,q1,q2,q3,q4,q5,q6,q7,q8⟩;go_simp⟩) hHeld ?_;simp only [Act.put,LG,LH,LI];refine aB (i:=13) (d:=some 78) (v:=.bool false) rfl rfl (by kernel_rfl) (by kernel_rfl) (by kernel_rfl) (fun _ _ _ h=>h) (Or.inl ⟨by rfl,by rintro w ⟨m10,n10,p0,p1,p2,p3,p4,p5,p6,p7,p8,q0,q1,q2,q3,q4,q5,q6,q7,q8⟩;go_simp⟩) hHeld ?_;simp only [Act.put,LG,LH,LI];refine aB (i:=14) (d:=some 79) (v:=.pointer (some ⟨w.heap.size,10,none⟩)) rfl rfl (by kernel_rfl) (by kernel_rfl) (by kernel_rfl) (fun _ _ _ h=>h) (Or.inl ⟨by rfl,by rintro w ⟨m10,n10,p0,p1,p2,p3,p4,p5,p6,p7,p8,q0,q1,q2,q3,q4,q5,q6,q7,q8⟩;go_simp⟩) hHeld ?_;simp only [Act.put,LG,LH,LI];refine aB (i:=15) (d:=some 80) (v:=.slice (some ⟨b,off,none⟩) x.wh.length p.wc) rfl rfl (by kernel_rfl) (by kernel_rfl) (by kernel_rfl) (fun _ _ _ h=>h) (Or.inl ⟨by rfl,by rintro w ⟨m10,n10,p0,p1,p2,p3,p4,p5,p6,p7,p8,q0,q1,q2,q3,q4,q5,q6,q7,q8⟩;go_simp⟩) hHeld ?_;simp only [Act.put,LG,LH,LI];refine aB (i:=16) (d:=some 81) (v:=.int .i64 (k:Nat)) rfl rfl (by kernel_rfl) (by kernel_rfl) (by kernel_rfl) (fun _ _ _ h=>h) (Or.inl ⟨by rfl,by rintro w ⟨m10,n10,p0,p1,p2,p3,p4,p5,p6,p7,p8,q0,q1,q2,q3,q4,q5,q6,q7,q8⟩;go_simp⟩) hHeld ?_;simp only [Act.put,LG,LH,LI];refine aB (i:=17) (d:=some 82) (v:=.pointer (some ⟨b,off+k*9,none⟩)) rfl rfl (by kernel_rfl) (by kernel_rfl) (by kernel_rfl) (fun _ _ _ h=>h) (Or.inl ⟨by rfl,by rintro w ⟨m10,n10,p0,p1,p2,p3,p4,p5,p6,p7,p8,q0,q1,q2,q3,q4,q5,q6,q7,q8⟩;go_simp⟩) hHeld ?_
           simp only [Act.put,LG,LH,LI];refine aB (i:=18) (d:=some 83) (v:=.pointer (some ⟨b,off+k*9+1,none⟩)) rfl rfl (by kernel_rfl) (by kernel_rfl) (by kernel_rfl) (fun _ _ _ h=>h) (Or.inl ⟨by rfl,by rintro w ⟨m10,n10,p0,p1,p2,p3,p4,p5,p6,p7,p8,q0,q1,q2,q3,q4,q5,q6,q7,q8⟩;go_simp⟩) hHeld ?_;simp only [Act.put,LG,LH,LI];refine aB (i:=19) (d:=some 84) (v:=bB d.a.op d.a.nm d.a.n a1 d.a.ks.len c1) rfl rfl (by kernel_rfl) (by kernel_rfl) (by kernel_rfl) (fun _ _ _ h=>h) (Or.inl ⟨by rfl,by rintro w ⟨m10,n10,p0,p1,p2,p3,p4,p5,p6,p7,p8,q0,q1,q2,q3,q4,q5,q6,q7,q8⟩;go_simp⟩) hHeld ?_;simp only [Act.put,LG,LH,LI];refine aB (i:=20) (d:=some 85) (v:=.pointer (some ⟨w.heap.size+1,10,none⟩)) rfl rfl (by kernel_rfl) (by kernel_rfl) (by kernel_rfl) (fun _ _ _ h=>h) (Or.inl ⟨by rfl,by rintro w ⟨m10,n10,p0,p1,p2,p3,p4,p5,p6,p7,p8,q0,q1,q2,q3,q4,q5,q6,q7,q8⟩;go_simp⟩) hHeld ?_;simp only [Act.put,LG,LH,LI];refine aB (i:=21) (d:=some 86) (v:=.slice (some ⟨g,oof,none⟩) x.wh.length q.wc) rfl rfl (by kernel_rfl) (by kernel_rfl) (by kernel_rfl) (fun _ _ _ h=>h) (Or.inl ⟨by rfl,by rintro w ⟨m10,n10,p0,p1,p2,p3,p4,p5,p6,p7,p8,q0,q1,q2,q3,q4,q5,q6,q7,q8⟩;go_simp⟩) hHeld ?_;simp only [Act.put,LG,LH,LI];refine aB (i:=22) (d:=some 87) (v:=.int .i64 (k:Nat)) rfl rfl (by kernel_rfl) (by kernel_rfl) (by kernel_rfl) (fun _ _ _ h=>h) (Or.inl ⟨by rfl,by rintro w ⟨m10,n10,p0,p1,p2,p3,p4,p5,p6,p7,p8,q0,q1,q2,q3,q4,q5,q6,q7,q8⟩;go_simp⟩) hHeld ?_;simp only [Act.put,LG,LH,LI];refine aB (i:=23) (d:=some 88) (v:=.pointer (some ⟨g,oof+k*9,none⟩)) rfl rfl (by kernel_rfl) (by kernel_rfl) (by kernel_rfl) (fun _ _ _ h=>h) (Or.inl ⟨by rfl,by rintro w ⟨m10,n10,p0,p1,p2,p3,p4,p5,p6,p7,p8,q0,q1,q2,q3,q4,q5,q6,q7,q8⟩;go_simp⟩) hHeld ?_
           simp only [Act.put,LG,LH,LI];refine aB (i:=24) (d:=some 89) (v:=.pointer (some ⟨g,oof+k*9+1,none⟩)) rfl rfl (by kernel_rfl) (by kernel_rfl) (by kernel_rfl) (fun _ _ _ h=>h) (Or.inl ⟨by rfl,by rintro w ⟨m10,n10,p0,p1,p2,p3,p4,p5,p6,p7,p8,q0,q1,q2,q3,q4,q5,q6,q7,q8⟩;go_simp⟩) hHeld ?_;simp only [Act.put,LG,LH,LI];refine aB (i:=25) (d:=some 90) (v:=bB u.a.op u.a.nm u.a.n e1 u.a.ks.len f1) rfl rfl (by kernel_rfl) (by kernel_rfl) (by kernel_rfl) (fun _ _ _ h=>h) (Or.inl ⟨by rfl,by rintro w ⟨m10,n10,p0,p1,p2,p3,p4,p5,p6,p7,p8,q0,q1,q2,q3,q4,q5,q6,q7,q8⟩;go_simp⟩) hHeld ?_;simp only [Act.put,LG,LH,LI];refine wpAnyH_ready (rs:=[26]) (by kernel_rfl) (by simp) ?_;refine AllReadyH.cons (o:=_) rfl (fun K hK=>?_) AllReadyH.nil;go_simp
           refine (C1.out _ (bK wr)).mono ?_;rintro e w5 ⟨rfl,hb⟩;have B5:=aA ((bK wr).trans hb);have cc:=CELLS.out _ B5.out;clear hb;refine hK.out _ _ cc (fun hHeld5=>?_);try simp only [Act.put,LG,LH,LI]
           clear hK K;clear hHeld;refine aB (i:=27) (d:=some 92) (v:=.bool true) rfl rfl (by kernel_rfl) (by kernel_rfl) (by kernel_rfl) (fun _ _ _ h=>h) (Or.inl ⟨by rfl,by rintro w ⟨m10,n10,p0,p1,p2,p3,p4,p5,p6,p7,p8,q0,q1,q2,q3,q4,q5,q6,q7,q8⟩;go_simp⟩) hHeld5 ?_;simp only [Act.put,LG,LH,LI];refine aB (i:=28) (d:=some 93) (v:=.bool true) rfl rfl (by kernel_rfl) (by kernel_rfl) (by kernel_rfl) (fun _ _ _ h=>h) (Or.inl ⟨by rfl,by rintro w ⟨m10,n10,p0,p1,p2,p3,p4,p5,p6,p7,p8,q0,q1,q2,q3,q4,q5,q6,q7,q8⟩;go_simp⟩) hHeld5 ?_;simp only [Act.put,LG,LH,LI];refine aB (i:=29) (d:=some 94) (v:=.bool true) rfl rfl (by kernel_rfl) (by kernel_rfl) (by kernel_rfl) (fun _ _ _ h=>h) (Or.inl ⟨by rfl,by rintro w ⟨m10,n10,p0,p1,p2,p3,p4,p5,p6,p7,p8,q0,q1,q2,q3,q4,q5,q6,q7,q8⟩;go_simp⟩) hHeld5 ?_;simp only [Act.put,LG,LH,LI];refine aB (i:=30) (d:=some 95) (v:=undef) rfl rfl (by kernel_rfl) (by kernel_rfl) (by kernel_rfl) (fun _ _ _ h=>h) (Or.inr ⟨by rfl,rfl⟩) hHeld5 ?_;simp only [Act.put,LG,LH,LI];refine aB (i:=31) (d:=some 96) (v:=undef) rfl rfl (by kernel_rfl) (by kernel_rfl) (by kernel_rfl) (fun _ _ _ h=>h) (Or.inr ⟨by rfl,rfl⟩) hHeld5 ?_;simp only [Act.put,LG,LH,LI];refine aB (i:=32) (d:=some 97) (v:=undef) rfl rfl (by kernel_rfl) (by kernel_rfl) (by kernel_rfl) (fun _ _ _ h=>h) (Or.inr ⟨by rfl,rfl⟩) hHeld5 ?_;simp only [Act.put,LG,LH,LI];refine aB (i:=33) (d:=some 98) (v:=undef) rfl rfl (by kernel_rfl) (by kernel_rfl) (by kernel_rfl) (fun _ _ _ h=>h) (Or.inr ⟨by rfl,rfl⟩) hHeld5 ?_;simp only [Act.put,LG,LH,LI]
           refine aB (i:=34) (d:=some 99) (v:=undef) rfl rfl (by kernel_rfl) (by kernel_rfl) (by kernel_rfl) (fun _ _ _ h=>h) (Or.inr ⟨by rfl,rfl⟩) hHeld5 ?_;simp only [Act.put,LG,LH,LI];refine aB (i:=35) (d:=some 100) (v:=undef) rfl rfl (by kernel_rfl) (by kernel_rfl) (by kernel_rfl) (fun _ _ _ h=>h) (Or.inr ⟨by rfl,rfl⟩) hHeld5 ?_;simp only [Act.put,LG,LH,LI];refine aB (i:=36) (d:=some 101) (v:=undef) rfl rfl (by kernel_rfl) (by kernel_rfl) (by kernel_rfl) (fun _ _ _ h=>h) (Or.inr ⟨by rfl,rfl⟩) hHeld5 ?_;simp only [Act.put,LG,LH,LI];refine aB (i:=37) (d:=some 102) (v:=undef) rfl rfl (by kernel_rfl) (by kernel_rfl) (by kernel_rfl) (fun _ _ _ h=>h) (Or.inr ⟨by rfl,rfl⟩) hHeld5 ?_;simp only [Act.put,LG,LH,LI];refine aB (i:=38) (d:=some 103) (v:=undef) rfl rfl (by kernel_rfl) (by kernel_rfl) (by kernel_rfl) (fun _ _ _ h=>h) (Or.inr ⟨by rfl,rfl⟩) hHeld5 ?_;simp only [Act.put,LG,LH,LI];refine aB (i:=39) (d:=some 104) (v:=undef) rfl rfl (by kernel_rfl) (by kernel_rfl) (by kernel_rfl) (fun _ _ _ h=>h) (Or.inr ⟨by rfl,rfl⟩) hHeld5 ?_;simp only [Act.put,LG,LH,LI];refine aB (i:=40) (d:=some 105) (v:=undef) rfl rfl (by kernel_rfl) (by kernel_rfl) (by kernel_rfl) (fun _ _ _ h=>h) (Or.inr ⟨by rfl,rfl⟩) hHeld5 ?_;simp only [Act.put,LG,LH,LI];refine aB (i:=41) (d:=some 106) (v:=undef) rfl rfl (by kernel_rfl) (by kernel_rfl) (by kernel_rfl) (fun _ _ _ h=>h) (Or.inr ⟨by rfl,rfl⟩) hHeld5 ?_;simp only [Act.put,LG,LH,LI];refine aB (i:=42) (d:=some 107) (v:=undef) rfl rfl (by kernel_rfl) (by kernel_rfl) (by kernel_rfl) (fun _ _ _ h=>h) (Or.inr ⟨by rfl,rfl⟩) hHeld5 ?_
           simp only [Act.put,LG,LH,LI];refine aB (i:=43) (d:=some 108) (v:=undef) rfl rfl (by kernel_rfl) (by kernel_rfl) (by kernel_rfl) (fun _ _ _ h=>h) (Or.inr ⟨by rfl,rfl⟩) hHeld5 ?_;simp only [Act.put,LG,LH,LI];refine aB (i:=44) (d:=some 109) (v:=.bool true) rfl rfl (by kernel_rfl) (by kernel_rfl) (by kernel_rfl) (fun _ _ _ h=>h) (Or.inl ⟨by rfl,by rintro w ⟨m10,n10,p0,p1,p2,p3,p4,p5,p6,p7,p8,q0,q1,q2,q3,q4,q5,q6,q7,q8⟩;go_simp⟩) hHeld5 ?_;simp only [Act.put,LG,LH,LI];refine wpAnyH_done (by kernel_rfl) ?_ _;clear hHeld5;have HE:=aA (HK.out.step B5.out);clear B5 CELLS C1 C2 cc;go_wp2_with fail
           go_ret;exact ⟨congrArg (fun z=>Ending.returned (.bool z)) TR.out,HE.out.b⟩
         | true =>
           have HC1:=aA (show (z2 && eX (x.wh.drop (k+1)) (yw.drop (k+1)))=r by rw [<- hC];simp);clear hC;go_upto_region 6 with fail
           refine wp_region_held (S:=fun V=>V.cell? ⟨w.heap.size,10,none⟩=some (.slice (some ⟨b,off,none⟩) x.wh.length p.wc)/\V.cell? ⟨w.heap.size+1,10,none⟩=some (.slice (some ⟨g,oof,none⟩) x.wh.length q.wc)/\V.cell? ⟨b,off+k*9,none⟩=some (.string d.op)/\V.cell? ⟨b,off+k*9+1,none⟩=some (.string d.a.op)/\V.cell? ⟨b,off+k*9+1+1,none⟩=some (.string d.a.nm)/\V.cell? ⟨b,off+k*9+1+2,none⟩=some (.int .i64 d.a.n)/\V.cell? ⟨b,off+k*9+1+3,none⟩=some (.slice a1 d.a.ks.len c1)/\V.cell? ⟨b,off+k*9+5,none⟩=some (.string d.b.op)/\V.cell? ⟨b,off+k*9+5+1,none⟩=some (.string d.b.nm)/\V.cell? ⟨b,off+k*9+5+2,none⟩=some (.int .i64 d.b.n)/\V.cell? ⟨b,off+k*9+5+3,none⟩=some (.slice a2 d.b.ks.len c2)/\V.cell? ⟨g,oof+k*9,none⟩=some (.string u.op)/\V.cell? ⟨g,oof+k*9+1,none⟩=some (.string u.a.op)/\V.cell? ⟨g,oof+k*9+1+1,none⟩=some (.string u.a.nm)/\V.cell? ⟨g,oof+k*9+1+2,none⟩=some (.int .i64 u.a.n)/\V.cell? ⟨g,oof+k*9+1+3,none⟩=some (.slice e1 u.a.ks.len f1)/\V.cell? ⟨g,oof+k*9+5,none⟩=some (.string u.b.op)/\V.cell? ⟨g,oof+k*9+5+1,none⟩=some (.string u.b.nm)/\V.cell? ⟨g,oof+k*9+5+2,none⟩=some (.int .i64 u.b.n)/\V.cell? ⟨g,oof+k*9+5+3,none⟩=some (.slice e2 u.b.ks.len f2)) (by kernel_rfl) ?_;have hHeld:(fun V:World=>V.cell? ⟨w.heap.size,10,none⟩=some (.slice (some ⟨b,off,none⟩) x.wh.length p.wc)/\V.cell? ⟨w.heap.size+1,10,none⟩=some (.slice (some ⟨g,oof,none⟩) x.wh.length q.wc)/\V.cell? ⟨b,off+k*9,none⟩=some (.string d.op)/\V.cell? ⟨b,off+k*9+1,none⟩=some (.string d.a.op)/\V.cell? ⟨b,off+k*9+1+1,none⟩=some (.string d.a.nm)/\V.cell? ⟨b,off+k*9+1+2,none⟩=some (.int .i64 d.a.n)/\V.cell? ⟨b,off+k*9+1+3,none⟩=some (.slice a1 d.a.ks.len c1)/\V.cell? ⟨b,off+k*9+5,none⟩=some (.string d.b.op)/\V.cell? ⟨b,off+k*9+5+1,none⟩=some (.string d.b.nm)/\V.cell? ⟨b,off+k*9+5+2,none⟩=some (.int .i64 d.b.n)/\V.cell? ⟨b,off+k*9+5+3,none⟩=some (.slice a2 d.b.ks.len c2)/\V.cell? ⟨g,oof+k*9,none⟩=some (.string u.op)/\V.cell? ⟨g,oof+k*9+1,none⟩=some (.string u.a.op)/\V.cell? ⟨g,oof+k*9+1+1,none⟩=some (.string u.a.nm)/\V.cell? ⟨g,oof+k*9+1+2,none⟩=some (.int .i64 u.a.n)/\V.cell? ⟨g,oof+k*9+1+3,none⟩=some (.slice e1 u.a.ks.len f1)/\V.cell? ⟨g,oof+k*9+5,none⟩=some (.string u.b.op)/\V.cell? ⟨g,oof+k*9+5+1,none⟩=some (.string u.b.nm)/\V.cell? ⟨g,oof+k*9+5+2,none⟩=some (.int .i64 u.b.n)/\V.cell? ⟨g,oof+k*9+5+3,none⟩=some (.slice e2 u.b.ks.len f2)) wr.drew:=⟨m10,n10,p0,p1,p2,p3,p4,p5,p6,p7,p8,q0,q1,q2,q3,q4,q5,q6,q7,q8⟩
           clear m10 n10 p0 p1 p2 p3 p4 p5 p6 p7 p8 q0 q1 q2 q3 q4 q5 q6 q7 q8;refine aB (i:=0) (d:=some 65) (v:=.pointer (some ⟨w.heap.size,10,none⟩)) rfl rfl (by kernel_rfl) (by kernel_rfl) (by kernel_rfl) (fun _ _ _ h=>h) (Or.inl ⟨by rfl,by rintro w ⟨m10,n10,p0,p1,p2,p3,p4,p5,p6,p7,p8,q0,q1,q2,q3,q4,q5,q6,q7,q8⟩;go_simp⟩) hHeld ?_;simp only [Act.put,LG,LH,LI];refine aB (i:=1) (d:=some 66) (v:=.slice (some ⟨b,off,none⟩) x.wh.length p.wc) rfl rfl (by kernel_rfl) (by kernel_rfl) (by kernel_rfl) (fun _ _ _ h=>h) (Or.inl ⟨by rfl,by rintro w ⟨m10,n10,p0,p1,p2,p3,p4,p5,p6,p7,p8,q0,q1,q2,q3,q4,q5,q6,q7,q8⟩;go_simp⟩) hHeld ?_;simp only [Act.put,LG,LH,LI];refine aB (i:=2) (d:=some 67) (v:=.int .i64 (k:Nat)) rfl rfl (by kernel_rfl) (by kernel_rfl) (by kernel_rfl) (fun _ _ _ h=>h) (Or.inl ⟨by rfl,by rintro w ⟨m10,n10,p0,p1,p2,p3,p4,p5,p6,p7,p8,q0,q1,q2,q3,q4,q5,q6,q7,q8⟩;go_simp⟩) hHeld ?_;simp only [Act.put,LG,LH,LI];refine aB (i:=3) (d:=some 68) (v:=.pointer (some ⟨b,off+k*9,none⟩)) rfl rfl (by kernel_rfl) (by kernel_rfl) (by kernel_rfl) (fun _ _ _ h=>h) (Or.inl ⟨by rfl,by rintro w ⟨m10,n10,p0,p1,p2,p3,p4,p5,p6,p7,p8,q0,q1,q2,q3,q4,q5,q6,q7,q8⟩;go_simp⟩) hHeld ?_;simp only [Act.put,LG,LH,LI];refine aB (i:=4) (d:=some 69) (v:=.pointer (some ⟨b,off+k*9,none⟩)) rfl rfl (by kernel_rfl) (by kernel_rfl) (by kernel_rfl) (fun _ _ _ h=>h) (Or.inl ⟨by rfl,by rintro w ⟨m10,n10,p0,p1,p2,p3,p4,p5,p6,p7,p8,q0,q1,q2,q3,q4,q5,q6,q7,q8⟩;go_simp⟩) hHeld ?_;simp only [Act.put,LG,LH,LI];refine aB (i:=5) (d:=some 70) (v:=.string d.op) rfl rfl (by kernel_rfl) (by kernel_rfl) (by kernel_rfl) (fun _ _ _ h=>h) (Or.inl ⟨by rfl,by rintro w ⟨m10,n10,p0,p1,p2,p3,p4,p5,p6,p7,p8,q0,q1,q2,q3,q4,q5,q6,q7,q8⟩;go_simp⟩) hHeld ?_
           simp only [Act.put,LG,LH,LI];refine aB (i:=6) (d:=some 71) (v:=.pointer (some ⟨w.heap.size+1,10,none⟩)) rfl rfl (by kernel_rfl) (by kernel_rfl) (by kernel_rfl) (fun _ _ _ h=>h) (Or.inl ⟨by rfl,by rintro w ⟨m10,n10,p0,p1,p2,p3,p4,p5,p6,p7,p8,q0,q1,q2,q3,q4,q5,q6,q7,q8⟩;go_simp⟩) hHeld ?_;simp only [Act.put,LG,LH,LI];refine aB (i:=7) (d:=some 72) (v:=.slice (some ⟨g,oof,none⟩) x.wh.length q.wc) rfl rfl (by kernel_rfl) (by kernel_rfl) (by kernel_rfl) (fun _ _ _ h=>h) (Or.inl ⟨by rfl,by rintro w ⟨m10,n10,p0,p1,p2,p3,p4,p5,p6,p7,p8,q0,q1,q2,q3,q4,q5,q6,q7,q8⟩;go_simp⟩) hHeld ?_;simp only [Act.put,LG,LH,LI];refine aB (i:=8) (d:=some 73) (v:=.int .i64 (k:Nat)) rfl rfl (by kernel_rfl) (by kernel_rfl) (by kernel_rfl) (fun _ _ _ h=>h) (Or.inl ⟨by rfl,by rintro w ⟨m10,n10,p0,p1,p2,p3,p4,p5,p6,p7,p8,q0,q1,q2,q3,q4,q5,q6,q7,q8⟩;go_simp⟩) hHeld ?_;simp only [Act.put,LG,LH,LI];refine aB (i:=9) (d:=some 74) (v:=.pointer (some ⟨g,oof+k*9,none⟩)) rfl rfl (by kernel_rfl) (by kernel_rfl) (by kernel_rfl) (fun _ _ _ h=>h) (Or.inl ⟨by rfl,by rintro w ⟨m10,n10,p0,p1,p2,p3,p4,p5,p6,p7,p8,q0,q1,q2,q3,q4,q5,q6,q7,q8⟩;go_simp⟩) hHeld ?_;simp only [Act.put,LG,LH,LI];refine aB (i:=10) (d:=some 75) (v:=.pointer (some ⟨g,oof+k*9,none⟩)) rfl rfl (by kernel_rfl) (by kernel_rfl) (by kernel_rfl) (fun _ _ _ h=>h) (Or.inl ⟨by rfl,by rintro w ⟨m10,n10,p0,p1,p2,p3,p4,p5,p6,p7,p8,q0,q1,q2,q3,q4,q5,q6,q7,q8⟩;go_simp⟩) hHeld ?_;simp only [Act.put,LG,LH,LI];refine aB (i:=11) (d:=some 76) (v:=.string u.op) rfl rfl (by kernel_rfl) (by kernel_rfl) (by kernel_rfl) (fun _ _ _ h=>h) (Or.inl ⟨by rfl,by rintro w ⟨m10,n10,p0,p1,p2,p3,p4,p5,p6,p7,p8,q0,q1,q2,q3,q4,q5,q6,q7,q8⟩;go_simp⟩) hHeld ?_
           simp only [Act.put,LG,LH,LI];refine aB (i:=12) (d:=some 77) (v:=.bool false) rfl rfl (by kernel_rfl) (by kernel_rfl) (by kernel_rfl) (fun _ _ _ h=>h) (Or.inl ⟨by rfl,by rintro w ⟨m10,n10,p0,p1,p2,p3,p4,p5,p6,p7,p8,q0,q1,q2,q3,q4,q5,q6,q7,q8⟩;go_simp⟩) hHeld ?_;simp only [Act.put,LG,LH,LI];refine aB (i:=13) (d:=some 78) (v:=.bool false) rfl rfl (by kernel_rfl) (by kernel_rfl) (by kernel_rfl) (fun _ _ _ h=>h) (Or.inl ⟨by rfl,by rintro w ⟨m10,n10,p0,p1,p2,p3,p4,p5,p6,p7,p8,q0,q1,q2,q3,q4,q5,q6,q7,q8⟩;go_simp⟩) hHeld ?_;simp only [Act.put,LG,LH,LI];refine aB (i:=14) (d:=some 79) (v:=.pointer (some ⟨w.heap.size,10,none⟩)) rfl rfl (by kernel_rfl) (by kernel_rfl) (by kernel_rfl) (fun _ _ _ h=>h) (Or.inl ⟨by rfl,by rintro w ⟨m10,n10,p0,p1,p2,p3,p4,p5,p6,p7,p8,q0,q1,q2,q3,q4,q5,q6,q7,q8⟩;go_simp⟩) hHeld ?_;simp only [Act.put,LG,LH,LI];refine aB (i:=15) (d:=some 80) (v:=.slice (some ⟨b,off,none⟩) x.wh.length p.wc) rfl rfl (by kernel_rfl) (by kernel_rfl) (by kernel_rfl) (fun _ _ _ h=>h) (Or.inl ⟨by rfl,by rintro w ⟨m10,n10,p0,p1,p2,p3,p4,p5,p6,p7,p8,q0,q1,q2,q3,q4,q5,q6,q7,q8⟩;go_simp⟩) hHeld ?_;simp only [Act.put,LG,LH,LI];refine aB (i:=16) (d:=some 81) (v:=.int .i64 (k:Nat)) rfl rfl (by kernel_rfl) (by kernel_rfl) (by kernel_rfl) (fun _ _ _ h=>h) (Or.inl ⟨by rfl,by rintro w ⟨m10,n10,p0,p1,p2,p3,p4,p5,p6,p7,p8,q0,q1,q2,q3,q4,q5,q6,q7,q8⟩;go_simp⟩) hHeld ?_;simp only [Act.put,LG,LH,LI];refine aB (i:=17) (d:=some 82) (v:=.pointer (some ⟨b,off+k*9,none⟩)) rfl rfl (by kernel_rfl) (by kernel_rfl) (by kernel_rfl) (fun _ _ _ h=>h) (Or.inl ⟨by rfl,by rintro w ⟨m10,n10,p0,p1,p2,p3,p4,p5,p6,p7,p8,q0,q1,q2,q3,q4,q5,q6,q7,q8⟩;go_simp⟩) hHeld ?_
           simp only [Act.put,LG,LH,LI];refine aB (i:=18) (d:=some 83) (v:=.pointer (some ⟨b,off+k*9+1,none⟩)) rfl rfl (by kernel_rfl) (by kernel_rfl) (by kernel_rfl) (fun _ _ _ h=>h) (Or.inl ⟨by rfl,by rintro w ⟨m10,n10,p0,p1,p2,p3,p4,p5,p6,p7,p8,q0,q1,q2,q3,q4,q5,q6,q7,q8⟩;go_simp⟩) hHeld ?_;simp only [Act.put,LG,LH,LI];refine aB (i:=19) (d:=some 84) (v:=bB d.a.op d.a.nm d.a.n a1 d.a.ks.len c1) rfl rfl (by kernel_rfl) (by kernel_rfl) (by kernel_rfl) (fun _ _ _ h=>h) (Or.inl ⟨by rfl,by rintro w ⟨m10,n10,p0,p1,p2,p3,p4,p5,p6,p7,p8,q0,q1,q2,q3,q4,q5,q6,q7,q8⟩;go_simp⟩) hHeld ?_;simp only [Act.put,LG,LH,LI];refine aB (i:=20) (d:=some 85) (v:=.pointer (some ⟨w.heap.size+1,10,none⟩)) rfl rfl (by kernel_rfl) (by kernel_rfl) (by kernel_rfl) (fun _ _ _ h=>h) (Or.inl ⟨by rfl,by rintro w ⟨m10,n10,p0,p1,p2,p3,p4,p5,p6,p7,p8,q0,q1,q2,q3,q4,q5,q6,q7,q8⟩;go_simp⟩) hHeld ?_;simp only [Act.put,LG,LH,LI];refine aB (i:=21) (d:=some 86) (v:=.slice (some ⟨g,oof,none⟩) x.wh.length q.wc) rfl rfl (by kernel_rfl) (by kernel_rfl) (by kernel_rfl) (fun _ _ _ h=>h) (Or.inl ⟨by rfl,by rintro w ⟨m10,n10,p0,p1,p2,p3,p4,p5,p6,p7,p8,q0,q1,q2,q3,q4,q5,q6,q7,q8⟩;go_simp⟩) hHeld ?_;simp only [Act.put,LG,LH,LI];refine aB (i:=22) (d:=some 87) (v:=.int .i64 (k:Nat)) rfl rfl (by kernel_rfl) (by kernel_rfl) (by kernel_rfl) (fun _ _ _ h=>h) (Or.inl ⟨by rfl,by rintro w ⟨m10,n10,p0,p1,p2,p3,p4,p5,p6,p7,p8,q0,q1,q2,q3,q4,q5,q6,q7,q8⟩;go_simp⟩) hHeld ?_;simp only [Act.put,LG,LH,LI];refine aB (i:=23) (d:=some 88) (v:=.pointer (some ⟨g,oof+k*9,none⟩)) rfl rfl (by kernel_rfl) (by kernel_rfl) (by kernel_rfl) (fun _ _ _ h=>h) (Or.inl ⟨by rfl,by rintro w ⟨m10,n10,p0,p1,p2,p3,p4,p5,p6,p7,p8,q0,q1,q2,q3,q4,q5,q6,q7,q8⟩;go_simp⟩) hHeld ?_
           simp only [Act.put,LG,LH,LI];refine aB (i:=24) (d:=some 89) (v:=.pointer (some ⟨g,oof+k*9+1,none⟩)) rfl rfl (by kernel_rfl) (by kernel_rfl) (by kernel_rfl) (fun _ _ _ h=>h) (Or.inl ⟨by rfl,by rintro w ⟨m10,n10,p0,p1,p2,p3,p4,p5,p6,p7,p8,q0,q1,q2,q3,q4,q5,q6,q7,q8⟩;go_simp⟩) hHeld ?_;simp only [Act.put,LG,LH,LI];refine aB (i:=25) (d:=some 90) (v:=bB u.a.op u.a.nm u.a.n e1 u.a.ks.len f1) rfl rfl (by kernel_rfl) (by kernel_rfl) (by kernel_rfl) (fun _ _ _ h=>h) (Or.inl ⟨by rfl,by rintro w ⟨m10,n10,p0,p1,p2,p3,p4,p5,p6,p7,p8,q0,q1,q2,q3,q4,q5,q6,q7,q8⟩;go_simp⟩) hHeld ?_;simp only [Act.put,LG,LH,LI];refine wpAnyH_ready (rs:=[26]) (by kernel_rfl) (by simp) ?_;refine AllReadyH.cons (o:=_) rfl (fun K hK=>?_) AllReadyH.nil;go_simp
           refine (C1.out _ (bK wr)).mono ?_;rintro e w5 ⟨rfl,hb⟩;have B5:=aA ((bK wr).trans hb);have cc:=CELLS.out _ B5.out;clear hb;refine hK.out _ _ cc (fun hHeld5=>?_);try simp only [Act.put,LG,LH,LI]
           clear hK K;clear hHeld;refine aB (i:=27) (d:=some 92) (v:=.bool false) rfl rfl (by kernel_rfl) (by kernel_rfl) (by kernel_rfl) (fun _ _ _ h=>h) (Or.inl ⟨by rfl,by rintro w ⟨m10,n10,p0,p1,p2,p3,p4,p5,p6,p7,p8,q0,q1,q2,q3,q4,q5,q6,q7,q8⟩;go_simp⟩) hHeld5 ?_;simp only [Act.put,LG,LH,LI];refine aB (i:=28) (d:=some 93) (v:=.bool false) rfl rfl (by kernel_rfl) (by kernel_rfl) (by kernel_rfl) (fun _ _ _ h=>h) (Or.inl ⟨by rfl,by rintro w ⟨m10,n10,p0,p1,p2,p3,p4,p5,p6,p7,p8,q0,q1,q2,q3,q4,q5,q6,q7,q8⟩;go_simp⟩) hHeld5 ?_;simp only [Act.put,LG,LH,LI];refine aB (i:=29) (d:=some 94) (v:=.bool false) rfl rfl (by kernel_rfl) (by kernel_rfl) (by kernel_rfl) (fun _ _ _ h=>h) (Or.inl ⟨by rfl,by rintro w ⟨m10,n10,p0,p1,p2,p3,p4,p5,p6,p7,p8,q0,q1,q2,q3,q4,q5,q6,q7,q8⟩;go_simp⟩) hHeld5 ?_;simp only [Act.put,LG,LH,LI];refine aB (i:=30) (d:=some 95) (v:=.pointer (some ⟨w.heap.size,10,none⟩)) rfl rfl (by kernel_rfl) (by kernel_rfl) (by kernel_rfl) (fun _ _ _ h=>h) (Or.inl ⟨by rfl,by rintro w ⟨m10,n10,p0,p1,p2,p3,p4,p5,p6,p7,p8,q0,q1,q2,q3,q4,q5,q6,q7,q8⟩;go_simp⟩) hHeld5 ?_;simp only [Act.put,LG,LH,LI];refine aB (i:=31) (d:=some 96) (v:=.slice (some ⟨b,off,none⟩) x.wh.length p.wc) rfl rfl (by kernel_rfl) (by kernel_rfl) (by kernel_rfl) (fun _ _ _ h=>h) (Or.inl ⟨by rfl,by rintro w ⟨m10,n10,p0,p1,p2,p3,p4,p5,p6,p7,p8,q0,q1,q2,q3,q4,q5,q6,q7,q8⟩;go_simp⟩) hHeld5 ?_;simp only [Act.put,LG,LH,LI];refine aB (i:=32) (d:=some 97) (v:=.int .i64 (k:Nat)) rfl rfl (by kernel_rfl) (by kernel_rfl) (by kernel_rfl) (fun _ _ _ h=>h) (Or.inl ⟨by rfl,by rintro w ⟨m10,n10,p0,p1,p2,p3,p4,p5,p6,p7,p8,q0,q1,q2,q3,q4,q5,q6,q7,q8⟩;go_simp⟩) hHeld5 ?_
           simp only [Act.put,LG,LH,LI];refine aB (i:=33) (d:=some 98) (v:=.pointer (some ⟨b,off+k*9,none⟩)) rfl rfl (by kernel_rfl) (by kernel_rfl) (by kernel_rfl) (fun _ _ _ h=>h) (Or.inl ⟨by rfl,by rintro w ⟨m10,n10,p0,p1,p2,p3,p4,p5,p6,p7,p8,q0,q1,q2,q3,q4,q5,q6,q7,q8⟩;go_simp⟩) hHeld5 ?_;simp only [Act.put,LG,LH,LI];refine aB (i:=34) (d:=some 99) (v:=.pointer (some ⟨b,off+k*9+5,none⟩)) rfl rfl (by kernel_rfl) (by kernel_rfl) (by kernel_rfl) (fun _ _ _ h=>h) (Or.inl ⟨by rfl,by rintro w ⟨m10,n10,p0,p1,p2,p3,p4,p5,p6,p7,p8,q0,q1,q2,q3,q4,q5,q6,q7,q8⟩;go_simp⟩) hHeld5 ?_;simp only [Act.put,LG,LH,LI];refine aB (i:=35) (d:=some 100) (v:=bB d.b.op d.b.nm d.b.n a2 d.b.ks.len c2) rfl rfl (by kernel_rfl) (by kernel_rfl) (by kernel_rfl) (fun _ _ _ h=>h) (Or.inl ⟨by rfl,by rintro w ⟨m10,n10,p0,p1,p2,p3,p4,p5,p6,p7,p8,q0,q1,q2,q3,q4,q5,q6,q7,q8⟩;go_simp⟩) hHeld5 ?_;simp only [Act.put,LG,LH,LI];refine aB (i:=36) (d:=some 101) (v:=.pointer (some ⟨w.heap.size+1,10,none⟩)) rfl rfl (by kernel_rfl) (by kernel_rfl) (by kernel_rfl) (fun _ _ _ h=>h) (Or.inl ⟨by rfl,by rintro w ⟨m10,n10,p0,p1,p2,p3,p4,p5,p6,p7,p8,q0,q1,q2,q3,q4,q5,q6,q7,q8⟩;go_simp⟩) hHeld5 ?_;simp only [Act.put,LG,LH,LI];refine aB (i:=37) (d:=some 102) (v:=.slice (some ⟨g,oof,none⟩) x.wh.length q.wc) rfl rfl (by kernel_rfl) (by kernel_rfl) (by kernel_rfl) (fun _ _ _ h=>h) (Or.inl ⟨by rfl,by rintro w ⟨m10,n10,p0,p1,p2,p3,p4,p5,p6,p7,p8,q0,q1,q2,q3,q4,q5,q6,q7,q8⟩;go_simp⟩) hHeld5 ?_;simp only [Act.put,LG,LH,LI];refine aB (i:=38) (d:=some 103) (v:=.int .i64 (k:Nat)) rfl rfl (by kernel_rfl) (by kernel_rfl) (by kernel_rfl) (fun _ _ _ h=>h) (Or.inl ⟨by rfl,by rintro w ⟨m10,n10,p0,p1,p2,p3,p4,p5,p6,p7,p8,q0,q1,q2,q3,q4,q5,q6,q7,q8⟩;go_simp⟩) hHeld5 ?_
           simp only [Act.put,LG,LH,LI];refine aB (i:=39) (d:=some 104) (v:=.pointer (some ⟨g,oof+k*9,none⟩)) rfl rfl (by kernel_rfl) (by kernel_rfl) (by kernel_rfl) (fun _ _ _ h=>h) (Or.inl ⟨by rfl,by rintro w ⟨m10,n10,p0,p1,p2,p3,p4,p5,p6,p7,p8,q0,q1,q2,q3,q4,q5,q6,q7,q8⟩;go_simp⟩) hHeld5 ?_;simp only [Act.put,LG,LH,LI];refine aB (i:=40) (d:=some 105) (v:=.pointer (some ⟨g,oof+k*9+5,none⟩)) rfl rfl (by kernel_rfl) (by kernel_rfl) (by kernel_rfl) (fun _ _ _ h=>h) (Or.inl ⟨by rfl,by rintro w ⟨m10,n10,p0,p1,p2,p3,p4,p5,p6,p7,p8,q0,q1,q2,q3,q4,q5,q6,q7,q8⟩;go_simp⟩) hHeld5 ?_;simp only [Act.put,LG,LH,LI];refine aB (i:=41) (d:=some 106) (v:=bB u.b.op u.b.nm u.b.n e2 u.b.ks.len f2) rfl rfl (by kernel_rfl) (by kernel_rfl) (by kernel_rfl) (fun _ _ _ h=>h) (Or.inl ⟨by rfl,by rintro w ⟨m10,n10,p0,p1,p2,p3,p4,p5,p6,p7,p8,q0,q1,q2,q3,q4,q5,q6,q7,q8⟩;go_simp⟩) hHeld5 ?_;simp only [Act.put,LG,LH,LI];refine wpAnyH_ready (rs:=[42]) (by kernel_rfl) (by simp) ?_;refine AllReadyH.cons (o:=_) rfl (fun K hK=>?_) AllReadyH.nil;go_simp
           refine (C2.out w5 B5.out).mono ?_;rintro e w6 ⟨rfl,hb⟩;have B6:=aA (B5.out.trans (hb.mono B5.out.size));have cc:=CELLS.out _ B6.out;clear hb;refine hK.out _ _ cc (fun hHeld6=>?_);try simp only [Act.put,LG,LH,LI]
           clear hK K;clear hHeld5;refine aB (i:=43) (d:=some 108) (v:=.bool (!z2)) rfl rfl (by kernel_rfl) (by kernel_rfl) (by kernel_rfl) (fun _ _ _ h=>h) (Or.inl ⟨by rfl,by rintro w ⟨m10,n10,p0,p1,p2,p3,p4,p5,p6,p7,p8,q0,q1,q2,q3,q4,q5,q6,q7,q8⟩;go_simp⟩) hHeld6 ?_;simp only [Act.put,LG,LH,LI];refine aB (i:=44) (d:=some 109) (v:=.bool (!z2)) rfl rfl (by kernel_rfl) (by kernel_rfl) (by kernel_rfl) (fun _ _ _ h=>h) (Or.inl ⟨by rfl,by rintro w ⟨m10,n10,p0,p1,p2,p3,p4,p5,p6,p7,p8,q0,q1,q2,q3,q4,q5,q6,q7,q8⟩;go_simp⟩) hHeld6 ?_;simp only [Act.put,LG,LH,LI];refine wpAnyH_done (by kernel_rfl) ?_ _;clear hHeld6;have HE:=aA (HK.out.step B6.out);clear B5 B6 CELLS C1 C2 cc;cases z2 with
           | false =>
             have TR:=aA (show false=r by rw [<- HC1.out];rfl);go_wp2_with fail
             go_ret;exact ⟨congrArg (fun z=>Ending.returned (.bool z)) TR.out,HE.out.b⟩
           | true =>
             have HC2:=aA (show eX (x.wh.drop (k+1)) (yw.drop (k+1))=r by rw [<- HC1.out];simp);go_wp2_with fail
             go_roundw
             case rel=>exact ⟨k+1,by go_num,by omega,HC2,HE⟩
             case measure=>simp [intOf];omega
     · have e1:x.wh.drop k=[]:=List.drop_of_length_le (by omega)
       have e2:yw.drop k=[]:=List.drop_of_length_le (by have:=HL.out;omega);have TR:=aA (show true=r by rw [<- HC.out,e1,e2];rfl);have b1:¬ (k:Int)<(x.wh.length:Int):=by omega
       obtain ⟨-, -, -, -, -, -, -, -, -, -,m10⟩:=aC HK.out.n1;go_wp2_with fail
       go_ret;exact ⟨congrArg (fun z=>Ending.returned (.bool z)) TR.out,HK.out.b⟩
theorem oR:∀ f:F,eA f f=true
 | .nil=>by rw [eA]
 | .cons o m n ks r=>by rw [eA,oR ks,oR r];simp
theorem lJ (t:TN):cN t t=true:=oR _
theorem sY:∀ l:List CD,eX l l=true
 | []=>rfl
 | c::r=>by rw [eX,lJ,lJ,sY r];simp
theorem Ba (a:AG):mO a a=true:=by
 unfold mO;rw [lJ,lJ,sY];simp
structure JA (w V:World):Prop where
 b:Below w.heap.size w V
 l:oM V
 z:w.heap.size<=V.heap.size
theorem JA.step {w V V':World} (h:JA w V) (hb:Below V.heap.size V V'):JA w V':=⟨h.b.trans (hb.mono h.z),h.l.step hb,Nat.le_trans h.z hb.size⟩
structure Jz (x:AG) (n:Nat) (q:PA) (V:World):Prop where
 n:V.heap[n]? = some (agO x q)
 r:aP (fun _=>True) V x q
theorem Jz.step {V V':World} {x:AG} {n:Nat} {q:PA} (h:Jz x n q V) (hb:Below V.heap.size V V'):Jz x n q V' :=
 ⟨(hb.block _ (aG h.n)).trans h.n,h.r.kept hb⟩
theorem vA (s:ByteArray) (w:World) (hw:oM w):Calls Tryz.prog 3 #[.string s] w fun e w'=>e=.returned (.bool true)/\Below w.heap.size w w':=by
 have KN:=aA (Ak w hw);have LD:=aA hw;clear hw;go_enter Tryz.func3,Tryz.ntmps3
 go_wp2_with fail
 refine KN.out.mono ?_;rintro e w1 ⟨rfl,hb1⟩;have K1:=aA (show JA w w1 from ⟨hb1,LD.out.step hb1,hb1.size⟩);clear hb1 KN LD;by_cases hlen:1100<s.size
 · have a1:(1100:Int)<(s.size:Int):=by omega
   go_wp2_with fail
   go_ret;exact ⟨rfl,K1.out.b⟩
 · have a1:¬ (1100:Int)<(s.size:Int):=by omega
   have A1:=aA (gY s (by omega) w1 K1.out.l.1);have A2:=aA (fun V=>uS s V);cases hp:agX s.data.toList with
   | bad pl er =>
     obtain ⟨q1,q2⟩:=Cq hp;rw [hp] at A1 A2;clear hp;go_wp2_with fail
     refine A1.out.mono ?_;rintro e v2 ⟨hb,rfl⟩;have K2:=(K1.out.step hb).step ((Below.refl v2.heap.size v2).alloc (Nat.le_refl _) (agP aN aI));generalize hW2:v2.alloc (agP aN aI)=W2 at K2;have HW2:=aA hW2;have HK2:=aA K2;clear hb K2 hW2 A1;go_upto_region 6 with fail
     rw [show v2.alloc (.cells #[.string aN.fn,.int .i64 aN.k,.string aN.e.op,.string aN.e.nm,.int .i64 aN.e.n,.slice aI.ea aN.e.ks.len aI.ec,.string aN.g.op,.string aN.g.nm,.int .i64 aN.g.n,.slice aI.ga aN.g.ks.len aI.gc,.slice aI.wa aN.wh.length aI.wc] 28)=W2 from HW2.out];clear HW2;go_wp2_with fail
     refine (A2.out W2).mono ?_;rintro e v3 ⟨hb,rfl⟩;have K3:=(HK2.out.step hb).step ((Below.refl v3.heap.size v3).alloc (Nat.le_refl _) (agO aN aI));generalize hW3:v3.alloc (agO aN aI)=W3 at K3;have HW3:=aA hW3;have HK3:=aA K3;clear hb K3 hW3 A2;go_upto_region 7 with fail
     rw [show v3.alloc (.cells #[.string aN.fn,.int .i64 aN.k,.string aN.e.op,.string aN.e.nm,.int .i64 aN.e.n,.slice aI.ea aN.e.ks.len aI.ec,.string aN.g.op,.string aN.g.nm,.int .i64 aN.g.n,.slice aI.ga aN.g.ks.len aI.gc,.slice aI.wa aN.wh.length aI.wc] 37)=W3 from HW3.out];clear HW3;go_wp2_with fail
     go_quiet (fail)
     go_wp2_with fail
     go_ret;exact ⟨rfl,cL HK3.out.b _⟩
   | ok x =>
     have HOK:=aA (Hn hp);rw [hp] at A1 A2;clear hp;go_wp2_with fail
     refine A1.out.mono ?_;rintro e v2 ⟨hb,p,rfl,hr⟩;have BA:=(Below.refl v2.heap.size v2).alloc (Nat.le_refl _) (agP x p);have T2:L11 x v2.heap.size p (v2.alloc (agP x p)):=⟨heap_alloc_new v2 _,(hr.kept BA).imp (fun _ _ _=>trivial)⟩;have K2:=(K1.out.step hb).step BA;generalize hW3:v2.alloc (agP x p)=W3 at T2 K2;generalize hB2:v2.heap.size=B2 at T2;have HB2:=aA hB2;have HW3:=aA hW3;have HT2:=aA T2;have HK2:=aA K2;clear hb hr BA T2 K2 hW3 hB2 A1;go_upto_region 6 with fail
     rw [show v2.alloc (.cells #[.string x.fn,.int .i64 x.k,.string x.e.op,.string x.e.nm,.int .i64 x.e.n,.slice p.ea x.e.ks.len p.ec,.string x.g.op,.string x.g.nm,.int .i64 x.g.n,.slice p.ga x.g.ks.len p.gc,.slice p.wa x.wh.length p.wc] 28)=W3 from HW3.out,HB2.out];clear HW3 HB2;go_wp2_with fail
     refine (A2.out W3).mono ?_;rintro e v3 ⟨hb,q,rfl,hr⟩;have BA:=(Below.refl v3.heap.size v3).alloc (Nat.le_refl _) (agO x q);have N3:Jz x v3.heap.size q (v3.alloc (agO x q)):=⟨heap_alloc_new v3 _,(hr.kept BA).imp (fun _ _ _=>trivial)⟩;have K3:=(HK2.out.step hb).step BA;have T2:=(HT2.out.step hb).step BA;generalize hW4:v3.alloc (agO x q)=W4 at T2 N3 K3;generalize hB3:v3.heap.size=B3 at N3;have HB3:=aA hB3;have HW4:=aA hW4;have HT2':=aA T2;have HN3:=aA N3;have HK3:=aA K3;clear hb hr BA T2 N3 K3 hW4 hB3 A2 HT2 HK2;go_upto_region 9 with fail
     rw [show v3.alloc (.cells #[.string x.fn,.int .i64 x.k,.string x.e.op,.string x.e.nm,.int .i64 x.e.n,.slice q.ea x.e.ks.len q.ec,.string x.g.op,.string x.g.nm,.int .i64 x.g.n,.slice q.ga x.g.ks.len q.gc,.slice q.wa x.wh.length q.wc] 37)=W4 from HW4.out,HB3.out];clear HW4 HB3;obtain ⟨m0,m1,m2,m3,m4,m5,m6,m7,m8,m9,m10⟩:=aC HT2'.out.n;obtain ⟨y0,y1,y2,y3,y4,y5,y6,y7,y8,y9,y10⟩:=aC HN3.out.n
     have CELLS:=aA (p:=∀ w',Below W4.heap.size W4 w'->(w'.cell? ⟨B2,0,none⟩=some (.string x.fn)/\w'.cell? ⟨B2,1,none⟩=some (.int .i64 x.k)/\w'.cell? ⟨B2,2,none⟩=some (.string x.e.op)/\w'.cell? ⟨B2,3,none⟩=some (.string x.e.nm)/\w'.cell? ⟨B2,4,none⟩=some (.int .i64 x.e.n)/\w'.cell? ⟨B2,5,none⟩=some (.slice p.ea x.e.ks.len p.ec)/\w'.cell? ⟨B2,6,none⟩=some (.string x.g.op)/\w'.cell? ⟨B2,7,none⟩=some (.string x.g.nm)/\w'.cell? ⟨B2,8,none⟩=some (.int .i64 x.g.n)/\w'.cell? ⟨B2,9,none⟩=some (.slice p.ga x.g.ks.len p.gc)/\w'.cell? ⟨B2,10,none⟩=some (.slice p.wa x.wh.length p.wc)/\w'.cell? ⟨B3,0,none⟩=some (.string x.fn)/\w'.cell? ⟨B3,1,none⟩=some (.int .i64 x.k)/\w'.cell? ⟨B3,2,none⟩=some (.string x.e.op)/\w'.cell? ⟨B3,3,none⟩=some (.string x.e.nm)/\w'.cell? ⟨B3,4,none⟩=some (.int .i64 x.e.n)/\w'.cell? ⟨B3,5,none⟩=some (.slice q.ea x.e.ks.len q.ec)/\w'.cell? ⟨B3,6,none⟩=some (.string x.g.op)/\w'.cell? ⟨B3,7,none⟩=some (.string x.g.nm)/\w'.cell? ⟨B3,8,none⟩=some (.int .i64 x.g.n)/\w'.cell? ⟨B3,9,none⟩=some (.slice q.ga x.g.ks.len q.gc)/\w'.cell? ⟨B3,10,none⟩=some (.slice q.wa x.wh.length q.wc))) (fun w' h=>by
      obtain ⟨m0,m1,m2,m3,m4,m5,m6,m7,m8,m9,m10⟩:=aC (HT2'.out.step h).n;obtain ⟨y0,y1,y2,y3,y4,y5,y6,y7,y8,y9,y10⟩:=aC (HN3.out.step h).n;exact ⟨m0,m1,m2,m3,m4,m5,m6,m7,m8,m9,m10,y0,y1,y2,y3,y4,y5,y6,y7,y8,y9,y10⟩)
     have CO:=aA (p:=∀ V,Below W4.heap.size W4 V->Calls Tryz.prog 12 #[agV x p] V fun e w'=>∃ p',e=.returned (agV x p')/\aP (fun b=>V.heap.size<=b) w' x p'/\Below V.heap.size V w') (fun V hV=>Gh x p V HOK.out.1 (HT2'.out.step hV).r)
     have CC:=aA (p:=∀ (G:Nat->Prop) p' V,aP G V x p'->Calls Tryz.prog 11 #[agV x p'] V fun e w'=>e=.returned (.int .i64 0)/\Below V.heap.size V w') (fun G p' V hr=>by
      have h:=uT x p' V HOK.out.2.1 hr;rw [HOK.out.2.2] at h;exact h)
     have CS:=aA (p:=∀ (G H:Nat->Prop) p' q' V,aP G V x p'->aP H V x q'->Calls Tryz.prog 13 #[agV x p',agV x q'] V fun e w'=>e=.returned (.bool true)/\Below V.heap.size V w') (fun G H p' q' V hr hs=>by
      have h:=xD x x p' q' V HOK.out.2.1 hr hs HOK.out.1.wh HOK.out.1.wh;rw [Ba] at h;exact h)
     have RQ:=aA (p:=∀ V,Below W4.heap.size W4 V->aP (fun _=>True) V x q) (fun V hV=>(HN3.out.step hV).r);clear HT2' HN3 HOK;have D0:=aA (bK W4)
     go_region_held3 (fun w'=>w'.cell? ⟨B2,0,none⟩=some (.string x.fn)/\w'.cell? ⟨B2,1,none⟩=some (.int .i64 x.k)/\w'.cell? ⟨B2,2,none⟩=some (.string x.e.op)/\w'.cell? ⟨B2,3,none⟩=some (.string x.e.nm)/\w'.cell? ⟨B2,4,none⟩=some (.int .i64 x.e.n)/\w'.cell? ⟨B2,5,none⟩=some (.slice p.ea x.e.ks.len p.ec)/\w'.cell? ⟨B2,6,none⟩=some (.string x.g.op)/\w'.cell? ⟨B2,7,none⟩=some (.string x.g.nm)/\w'.cell? ⟨B2,8,none⟩=some (.int .i64 x.g.n)/\w'.cell? ⟨B2,9,none⟩=some (.slice p.ga x.g.ks.len p.gc)/\w'.cell? ⟨B2,10,none⟩=some (.slice p.wa x.wh.length p.wc)/\w'.cell? ⟨B3,0,none⟩=some (.string x.fn)/\w'.cell? ⟨B3,1,none⟩=some (.int .i64 x.k)/\w'.cell? ⟨B3,2,none⟩=some (.string x.e.op)/\w'.cell? ⟨B3,3,none⟩=some (.string x.e.nm)/\w'.cell? ⟨B3,4,none⟩=some (.int .i64 x.e.n)/\w'.cell? ⟨B3,5,none⟩=some (.slice q.ea x.e.ks.len q.ec)/\w'.cell? ⟨B3,6,none⟩=some (.string x.g.op)/\w'.cell? ⟨B3,7,none⟩=some (.string x.g.nm)/\w'.cell? ⟨B3,8,none⟩=some (.int .i64 x.g.n)/\w'.cell? ⟨B3,9,none⟩=some (.slice q.ga x.g.ks.len q.gc)/\w'.cell? ⟨B3,10,none⟩=some (.slice q.wa x.wh.length q.wc)) (first | assumption | exact ⟨m0,m1,m2,m3,m4,m5,m6,m7,m8,m9,m10,y0,y1,y2,y3,y4,y5,y6,y7,y8,y9,y10⟩ | exact CELLS.out _ B1.out | exact CELLS.out _ B2'.out | exact CELLS.out _ B3'.out | exact CELLS.out _ B4.out) (first
      | (go_at_call 12
         with_reducible refine (CO.out W4.drew D0.out).mono ?_
         rintro e v1 ⟨p1,rfl,hr,hb⟩;have H1:=aA hb;have B1:=aA (D0.out.trans (hb.mono D0.out.size));have R1:=aA hr;have cc1:=CELLS.out _ B1.out;clear hb hr)
      | (go_at_call 11
         with_reducible refine (CC.out _ p1 v1 R1.out).mono ?_
         rintro e v2 ⟨rfl,hb⟩;have H2:=aA hb;have B2':=aA (B1.out.trans (hb.mono B1.out.size));have cc2:=CELLS.out _ B2'.out;clear hb)
      | (go_at_call 12
         with_reducible refine (CO.out v2 B2'.out).mono ?_
         rintro e v3 ⟨p3,rfl,hr,hb⟩;have H3:=aA hb;have B3':=aA (B2'.out.trans (hb.mono B2'.out.size));have R3:=aA hr;have cc3:=CELLS.out _ B3'.out;clear hb hr)
      | (go_at_call 13
         with_reducible refine (CS.out _ _ p3 q v3 R3.out (RQ.out v3 B3'.out)).mono ?_
         rintro e v4 ⟨rfl,hb⟩;have H4:=aA hb;have B4:=aA (B3'.out.trans (hb.mono B3'.out.size));have cc4:=CELLS.out _ B4.out;clear hb)
      | fail)
     have HE:=aA ((HK3.out.step B4.out).b);clear CELLS m0 m1 m2 m3 m4 m5 m6 m7 m8 m9 m10 y0 y1 y2 y3 y4 y5 y6 y7 y8 y9 y10;go_wp2_with fail
     go_ret;exact ⟨rfl,HE.out⟩
end
section
open Go.ChangeShapes Go.WideShapes Go.ChangeAt Go.RowKit
theorem DX:ownKnob Tryz.prog.godebug=none:=by kernel_rfl
theorem rR {w:World} {n:String} {g:Nat} {cs:Array Value} (hg:Tryz.prog.globalNamed n=some g) (h:w.var? Tryz.prog n=some cs):∃ t f,w.heap[g]? = some (.cells cs t f):=by
 unfold World.var? at h;rw [hg] at h;simp only [Option.bind_some] at h;split at h
 · rename_i cs' t f e
   cases h;exact ⟨t,f,e⟩
 · cases h
abbrev oK:List (String×DataW Unit):=Rows.aggNoneRow.laid
theorem zD: "*" ++ "errors.errorString" = "*errors.errorString" := by decide
theorem Im (u:TypeId) (h:Tryz.prog.typeName? 3 u=some "*errors.errorString"):u=288 :=
 typeName_ptr_named (nm:= "errors.errorString") (by rw [zD];kernel_rfl) (by kernel_rfl) (by decide) u (by rw [zD];exact h)
theorem Gp {W:World} (h:laidMetH Tryz.prog oK W):j6 W:=by
 rw [MakeChecks.laidMetH_plain _ _ _ (by kernel_rfl)] at h;have h2:=h.tail.tail;have htab:=Lib.tabIs_of_head (g:=1) (k:=.u64) (zs:=Lib.pow10Tab) (by kernel_rfl) (by kernel_rfl) Tryz.underlying249 Tryz.underlying203 (by kernel_rfl) (by kernel_rfl) h2;unfold Lib.TabIs World.var? at htab;rw [show Tryz.prog.globalNamed "internal/strconv.uint64pow10" = some 1 by kernel_rfl] at htab;simp only [Option.bind_some] at htab;split at htab
 · rename_i cs' t f e
   cases htab;exact ⟨t,f,e⟩
 · cases htab
theorem Gn {W:World} (h:laidMetH Tryz.prog oK W):iJ W:=by
 rw [MakeChecks.laidMetH_plain _ _ _ (by kernel_rfl)] at h;have h4:=h.tail.tail.tail;have h5:=h4.tail;have hrow:∀ u,Tryz.prog.typeName? 3 u=some "*errors.errorString" -> u=288:=Im;obtain ⟨a0,s0,v0, -, -, -⟩:=laid_sentinel (g:=3) h4 (by kernel_rfl) (by kernel_rfl) Tryz.underlying114 hrow Tryz.underlying288 Tryz.underlying290 rfl rfl Tryz.underlying9 (by kernel_rfl) (by kernel_rfl);obtain ⟨a1,s1,v1, -, -, -⟩:=laid_sentinel (g:=2) h5 (by kernel_rfl) (by kernel_rfl) Tryz.underlying114 hrow Tryz.underlying288 Tryz.underlying290 rfl rfl Tryz.underlying9 (by kernel_rfl) (by kernel_rfl);obtain ⟨t1,f1,p1⟩:=rR (g:=3) (by kernel_rfl) v0;obtain ⟨t2,f2,p2⟩:=rR (g:=2) (by kernel_rfl) v1;exact ⟨⟨_,_,t2,f2,p2⟩,⟨_,_,t1,f1,p1⟩⟩
theorem Gm {W:World} (h:laidMetH Tryz.prog oK W):oM W:=⟨Gn h,Gp h⟩
theorem A8 (os:Os) (args:Array Value):laidMetH Tryz.prog oK ((World.laidAll Tryz.prog os oK).forCall (fun _ _=>0) ⟨#[],args,[]⟩).memory:=by
 rw [MakeChecks.laidMetH_plain _ _ _ (by kernel_rfl)];exact laidMet_laidAll _ (by kernel_rfl) (by kernel_rfl)
theorem uQ (os:Os):(World.laidAll Tryz.prog os oK).Shaped Tryz.prog:=World.shaped_of_ZipB (by kernel_rfl) (by kernel_rfl)
end
section
open Go.ChangeShapes Go.WideShapes Go.ChangeAt Go.RowKit
open Go.ChangeMaps (open_string shut_string)
theorem rZ (os:Os) (started:os.Started) (H:Type) (enc:TypeId×Value->H) :
 ReturnsInHanded {} Tryz.checked os 3 .any (fun w args=>(Rows.aggTextsSpec.pre enc Tryz.prog Tryz.f3 Rows.aggTextsRow.domain false w args/\laidMetH Tryz.prog oK w)/\sizedMet enc Tryz.prog Tryz.f3 (OpenSpec.ofChange Rows.aggTextsSpec) false w args)
  (Rows.aggTextsSpec.post enc Tryz.prog Tryz.f3 false true false false):=by
 refine returnsInHanded_of_change_and (C:=Tryz.checked) (X:=fun w _=>laidMetH Tryz.prog oK w) (fun _ _ _ hh h=>h.of_heap hh) DX started (by kernel_rfl) Tryz.func3
  (ChangeSpec.witness_shaped (enc:=enc) (C:=Tryz.checked) (os:=os) (X:=fun w _=>laidMetH Tryz.prog oK w) false (World.laidAll Tryz.prog os oK) #[.string ⟨#[]⟩] 8 (World.laidAll_os _ _ _)
   (uQ os) (by kernel_rfl) (by kernel_rfl) (by kernel_rfl) (A8 os _)) ?_
 intro W base args ds gs before hval0 hW _ _ hL _;have hval:∀ (j:Nat) t v,Tryz.f3.params[j]? = some t->args[j]? = some v->Value.okWide Tryz.prog W .any base t v:=hval0;have hW':=hW;obtain ⟨p,q,hA0,hV,rfl,_,_⟩:=hW;have hA:DataW.TrodAll enc Tryz.prog W 0 (fun _=>true) true Tryz.f3.params.toList args.toList ds p:=hA0;rw [Tryz.params3] at hA hval;obtain ⟨v0,vs0,d0,ds0,p0,q0,hargs,rfl,rfl,h0,r0⟩:=trodAll_cons hA;obtain ⟨rfl,rfl,rfl⟩:=trodAll_nil r0;obtain rfl:args=#[v0]:=by cases args;simp_all
 obtain ⟨rfl,rfl⟩:=trodVars_none hV;obtain ⟨s0,rfl,rfl,rfl,w0⟩:=open_string Tryz.underlying9 (hval 0 9 v0 rfl rfl) h0;have hw:=Gm hL;clear hA0 hval0 hL;refine (vA s0  W hw).mono fun e W' ⟨he,bel⟩=>?_
 subst he;exact ⟨_,rfl,_,_,_,[],_,[],hW',trodAll_mk1 (shut_bool Tryz.underlying4 _),(trodAll_cons_mk (shut_string Tryz.underlying9 w0) trodAll_mk0),rfl,bel.frame _,fun h=>by cases h⟩
theorem vB:Rows.AggTextsSaid :=
 OpenClaim.holds_of_wide 3 Tryz.f3 rfl rfl rfl rfl rfl rfl rfl ⟨rfl,rfl,rfl,rfl,rfl⟩ rfl rfl rfl rfl rfl (by kernel_rfl) Tryz.func3 (by kernel_rfl)
  (of_decide_eq_true (by kernel_rfl)) (by unfold Func.isWrapper;first | (rw [if_pos (by decide +kernel)];kernel_rfl) | (rw [if_neg (by decide +kernel)];exact ⟨rfl,rfl⟩))
  (fun os started H enc _=>rZ os started H enc)
/-- any text as a fold, or why it is none, and where -/
theorem aggTexts_card:Rows.AggTextsCardSaid :=
 Claim7.holds_tied_plain_at .later [] [.data,.data,.data,.sentinel,.sentinel] true Rows.aggTextsCard.stood.harness true
  vB (fun _ h=>by cases h) (by kernel_rfl) (fun _ h=>by cases h) aggTexts_row_tie rfl ⟨rfl,rfl⟩ (by kernel_rfl) rfl
  (fun f fn hf hfn=>by
   obtain rfl:f=3:=Option.some.inj ((show Tryz.prog.funcNamed _=some 3 by kernel_rfl).symm.trans hf) |>.symm
   obtain rfl:fn=Tryz.f3:=(Option.some.inj (Tryz.func3.symm.trans hfn)).symm
   exact ⟨by kernel_rfl,fun j t ht=>by
    rw [Tryz.params3] at ht;have hm:t∈[9]:=by simpa using Array.mem_of_getElem? ht
    have hall:([9].all fun u=> !Tryz.prog.wantsStandIn u)=true:=by kernel_rfl
    exact (show Tryz.prog.wantsStandIn t=false by simpa using List.all_eq_true.1 hall t hm)⟩)
  (by kernel_rfl)
end
end Go.Proofs.YtapcjnoaofmmiaaGreatDoor
