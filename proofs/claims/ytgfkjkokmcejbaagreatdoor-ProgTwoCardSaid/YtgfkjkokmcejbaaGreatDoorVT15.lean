/-
 No statement: what ProgTwoLift needs, of the texts ZPAny, ZPMath, ZPCut, ZPIdx, ORead, OName, ONode, OCond.
-/
import Derived.Test.YtgfkjkokmcejbaaGreatDoorVT14
import Derived.Laws.RangeAny
import Derived.Lib.OthersKept
import Derived.Laws.Runes
import Derived.Lib.SpaceUEq
import Derived.Lib.IndexAny
import Derived.WalkMore
import Derived.Lib.CutLaws
import Derived.Lib.SlTrimSet
import Derived.Lib.IndexMore
import Derived.Lib.IndexBytes
import Derived.Lib.TrimByte
set_option maxHeartbeats 40000000
set_option maxRecDepth 100000
namespace Go.Proofs.YtgfkjkokmcejbaaGreatDoor
section
open Go.RowKit
theorem Fi (s:ByteArray) (i:Nat) (hi:i<s.size):((s[i]'hi).toNat<128/\Utf8.decode s i=((s[i]'hi).toNat,1))\/(128<=(Utf8.decode s i).1/\1<=(Utf8.decode s i).2/\i+(Utf8.decode s i).2<=s.size/\∀ (k:Nat) b,k<(Utf8.decode s i).2->s.data.toList[i+k]? = some b->128<=b.toNat):=by
 have e0:s.get! i=s[i]'hi:=by simp [ByteArray.get!,getElem!_pos,hi];rfl
 by_cases h:(s[i]'hi).toNat<128
 · exact .inl ⟨h,by rw [Lib.decode_at,e0,Lib.decodeN_ascii _ _ _ _ _ h]⟩
 · right
   have hg:∀ k b,s.data.toList[i+k]? = some b->s.get! (i+k)=b:=fun k b hb=>by
    have hk:i+k<s.size:=by have:=(List.getElem?_eq_some_iff.1 hb).1;simpa using this
    have:=(List.getElem?_eq_some_iff.1 hb).2;rw [<- this];simp [ByteArray.get!,getElem!_pos,hk]
   have hc:=Lib.decodeN_conts (s.size-i) (s.get! i).toNat (s.get! (i+1)).toNat (s.get! (i+2)).toNat (s.get! (i+3)).toNat;have hw:=Lib.decodeN_ge1 (s.size-i) (s.get! i).toNat (s.get! (i+1)).toNat (s.get! (i+2)).toNat (s.get! (i+3)).toNat;have hq:=Lib.decodeN_cases (s.size-i) (s.get! i).toNat (s.get! (i+1)).toNat (s.get! (i+2)).toNat (s.get! (i+3)).toNat;rw [<- Lib.decode_at] at hc hw hq;obtain ⟨c1,c2,c3,c4⟩:=hc;refine ⟨?_,hw,?_,fun k b hk hb=>?_⟩
   · rw [e0] at hq
     rcases hq with ⟨q, -⟩ | ⟨-, -, -,q,e⟩ | ⟨-, -, -, -,q,e⟩ | ⟨q, -⟩ | e
     · exact absurd q h
     · rw [e];exact q
     · rw [e];show 128<=_;omega
     · omega
     · rw [e];decide
   · omega
   · have hb2:=hg k b hb
     rw [<- hb2];match k,hk with
     | 0,_=>rw [Nat.add_zero,e0];omega
     | 1,hk=>have:=(c1 (by omega)).1;omega
     | 2,hk=>have:=(c2 (by omega)).1;omega
     | 3,hk=>have:=(c3 (by omega)).1;omega
     | k+4,hk=>omega
theorem PZ (j:Nat) (h:j<2):((⟨#[32,61]⟩:ByteArray)[j]'h).toNat<128:=by
 match j,h with
 | 0,_=>show (32:UInt8).toNat<128;decide
 | 1,_=>show (61:UInt8).toNat<128;decide
/-- strings.IndexRune of a rune beyond these, in a blank and a sign. -/
theorem Lg (r:Int) (h1:128<=r) (w:World):Calls Tryz.prog 171 #[.string ⟨#[32,61]⟩,.int .i32 r] w fun e w'=>e=.returned (.int .i64 (-1))/\Below w.heap.size w w':=by
 have q0:¬ r<128:=by omega
 have q1:(0:Int)<=r:=by omega
 obtain ⟨S,hS⟩:∃ S:ByteArray,(⟨#[32,61]⟩:ByteArray)=S:=⟨_,rfl⟩;have hz:S.size=2:=by rw [<- hS];rfl
 have hA:∀ (j:Nat) (h:j<S.size),(S[j]'h).toNat<128:=by
  subst hS;exact PZ
 rw [hS];by_cases h2:r=65533
 · subst h2
   clear q0 q1 h1 hS;have HA:=aA hA;clear hA;go_enter Tryz.func171,Tryz.ntmps171
   go_wp2_with fail
   go_loopg [5,6] 2 (fun g _ _ wx=>∃ i:Nat,i+g=2/\wx=w.iter S i)
   case atStart=>exact ⟨0,by omega,rfl⟩
   case round =>
    obtain ⟨i,hig,rfl⟩:=hrel;cases gk with
    | zero =>
      obtain rfl:i=2:=by omega
      have hnx:=fun ty=>run_next_end (P:=Tryz.prog) w S 2 ty (by omega)
      go_wp2_with fail
      go_ret;exact ⟨rfl,bA0 _ _⟩
    | succ g =>
      have hi:i<S.size:=by omega
      have hx128:=HA.out i hi;have hnx:=fun ty=>run_next_ascii (P:=Tryz.prog) w S i ty hi hx128
      obtain ⟨x,hx⟩:∃ x:UInt8,S[i]'hi=x:=⟨_,rfl⟩;rw [hx] at hnx hx128;have hq:((x.toNat:Int) == 65533)=false:=by rw [beq_eq_false_iff_ne];omega
      clear hx hx128;go_wp2_with fail
      go_roundg g
      case measure=>omega
      case rel=>exact ⟨i+1,by omega,rfl⟩
 · have q2:((r:Int) == 65533)=false:=by rw [beq_eq_false_iff_ne];exact h2
   cases hv:Lib.validRune r with
   | false =>
     have V:=aA (Tryz.utf8_ValidRune r);rw [hv] at V;clear h2 hS hA hv h1;go_enter Tryz.func171,Tryz.ntmps171
     go_wp2_with fail
     refine (V.out _).mono ?_;rintro e w2 ⟨rfl,rfl⟩;go_wp2_with fail
     go_ret;exact ⟨rfl,Below.refl _ _⟩
   | true =>
     have hv2:Utf8.valid r=true:=by
      have:=of_decide_eq_true hv;unfold Utf8.valid;simp only [Bool.or_eq_true,Bool.and_eq_true,decide_eq_true_eq];omega
     obtain ⟨z1,z2,z3⟩:=encode_facts r hv2 h1;have V:=aA (Tryz.utf8_ValidRune r);rw [hv] at V;obtain ⟨E,hE⟩:∃ E,Utf8.encode r=E:=⟨_,rfl⟩;rw [hE] at z1 z2 z3;have HCV:=aA fun W=>run_convert_int_string (P:=Tryz.prog) W 21 9 .i32 r (by rw [Tryz.underlying21];rfl) Tryz.underlying9
     rw [hE] at HCV;clear hE hv hv2 h2;by_cases h3:3<=E.size
     · have c1:¬ ((E.size:Int)-1<(S.size:Int)):=by omega
       have x9:wrap64 ((E.size:Int)-1)=(E.size:Int)-1:=by unfold wrap64;omega
       clear z3 z2 z1 hA hS;go_enter Tryz.func171,Tryz.ntmps171
       go_wp2_with fail
       refine (V.out _).mono ?_;rintro e w2 ⟨rfl,rfl⟩;have hcv:=HCV.out w2;go_wp2_with fail
       go_step3
       go_wp2_with fail
       go_loop [9] (fun i=>i=.int .i64 ((E.size:Int)-1)) (fun _=>0)
       case atStart=>rw [x9]
       case round =>
        subst hrel;go_wp2_with fail
        go_ret;exact ⟨rfl,Below.refl _ _⟩
     · have h4:E.size=2:=by omega
       have h41:1<E.size:=by omega
       obtain ⟨y,hy⟩:∃ y:UInt8,E[1]'h41=y:=⟨_,rfl⟩
       have hyz:128<=y.toNat:=by
        have:=z3 (by omega);simp only [h4] at this;rw [<- hy];exact this
       have c1:(E.size:Int)-1=1:=by omega
       have c2:(1:Int)<(S.size:Int):=by omega
       have c3:(2:Int)<=(S.size:Int):=by omega
       have c4:(0:Int)<=2:=by omega
       have c5:IntKind.i64.wrap 2=2:=by decide
       have x9:wrap64 ((E.size:Int)-1)=1:=by unfold wrap64;omega
       have hs1:1<S.size:=by omega
       have HS1:S[1]'hs1=61:=by subst hS;rfl
       have qy:(61 != (y.toNat:Int))=true:=by rw [bne_iff_ne];omega
       clear z3 z2 z1;go_enter Tryz.func171,Tryz.ntmps171
       go_wp2_with fail
       refine (V.out _).mono ?_;rintro e w2 ⟨rfl,rfl⟩;have hcv:=HCV.out w2;go_wp2_with fail
       go_step3
       go_wp2_with fail
       go_loop [9] (fun i=>i=.int .i64 1) (fun _=>0)
       case atStart=>rfl
       case round =>
        subst hrel;go_wp2_with fail
        go_step3
        go_wp2_with fail
        go_quiet (fail)
        go_wp2_with fail
        go_quiet ((go_at_call 209;refine (Tryz.strings_IndexByte _ _ _).mono ?_;rintro e w' ⟨he,hw⟩;exact ⟨he,_,hw⟩))
        rw [show Lib.indexByte ByteArray.empty.data.toList (↑y.toNat:Int).toNat.toUInt8= -1 from rfl];go_wp2_with fail
        rw [Exit.noGoto_ret];go_wp2_with fail
        rw [Exit.noGoto_ret];go_wp2_with fail
        go_ret;exact ⟨rfl,⟨rfl,rfl,rfl,Nat.le_refl _,fun _ _=>rfl⟩⟩
theorem NoAny.far {l cs:List UInt8}:∀ (n:Nat) {i:Nat},Lib.NoAny l cs i->i+n<=l.length->(∀ (k:Nat) b,k<n->l[i+k]? = some b->cs.contains b=false)->Lib.NoAny l cs (i+n)
 | 0,i,h,_,_=>h
 | n + 1, i, h, hl, hc => by
   have h0:=(List.getElem?_eq_getElem (l:=l) (i:=i) (by omega));have h1:=h.succ h0 (hc 0 _ (by omega) (by rw [Nat.add_zero];exact h0));have:=NoAny.far n h1 (by omega) (fun k b hk hb=>hc (k+1) b (by omega) (by rw [show i+(k+1)=i+1+k by omega];exact hb));rw [show i+(n+1)=i+1+n by omega];exact this
theorem Po {b:UInt8} (h:128<=b.toNat):([32,61]:List UInt8).contains b=false:=by
 have h1:¬ b=32:=fun e=>by subst e;revert h;decide
 have h2:¬ b=61:=fun e=>by subst e;revert h;decide
 simp [h1,h2]
theorem IQ (s:ByteArray) (h8:s.size<=8) (w:World):Calls Tryz.prog 110 #[.string s,.string ⟨#[32,61]⟩] w fun e w'=>e=.returned (.int .i64 (Lib.indexAny s.data.toList [32,61]))/\Below w.heap.size w w':=by
 have h8z:decide ((8:Int)<(s.size:Int))=false:=decide_eq_false (by omega);have IU:=aA (Tryz.strings_shouldUseASCIISet s.size);rw [h8z] at IU;have IA:=aA (fun (r:Int) (h:128<=r) W=>Lg r h W);have IR:=aA (fun (r:Int) (h0:0<=r) (h1:r<128) W=>Tryz.strings_IndexRune_ascii ⟨#[32,61]⟩ r W h0 h1);have HI:=aA (Below.refl w.heap.size w);clear h8z;obtain ⟨r,hr⟩:∃ r,Lib.indexAny s.data.toList [32,61]=r:=⟨_,rfl⟩;rw [hr];have HR:=aA hr;clear hr;go_enter Tryz.func110,Tryz.ntmps110
 go_wp2_with fail
 refine (IU.out _).mono ?_;rintro e w1 ⟨rfl,rfl⟩;go_wp2_with fail
 have K0:=aA (show (w1.iter s 0).heap[w1.heap.size]? = some (.stringIter s 0)/\Below w1.heap.size w1 (w1.iter s 0) from ⟨World.iter_heap _ _ _,HI.out.alloc (Nat.le_refl _) _⟩);clear HI;go_loopg [9,10] s.size (fun g _ _ wx=>∃ i:Nat,i+g=s.size/\Hid (wx.heap[w1.heap.size]? = some (.stringIter s i)/\Below w1.heap.size w1 wx)/\Hid (Lib.NoAny s.data.toList [32,61] i))
 case atStart=>exact ⟨0,by omega,K0,aA (Lib.NoAny.zero _ _)⟩
 case round =>
  obtain ⟨i,hig,HK,HN⟩:=hrel;clear K0;cases gk with
  | zero =>
    obtain rfl:i=s.size:=by omega
    have hnx:=fun ty=>Lib.run_next_end_at (P:=Tryz.prog) wr w1.heap.size s s.size ty HK.out.1 (by omega)
    obtain rfl:r= -1:=by rw [<- HR.out,Lib.indexAny_none (by rw [<- Lib.size_eq];exact HN.out)]
    go_wp2_with fail
    go_ret;exact ⟨rfl,HK.out.2⟩
  | succ g =>
    have hi:i<s.size:=by omega
    have hd:=fun ty=>Lib.run_next_any_at (P:=Tryz.prog) wr w1.heap.size s i ty HK.out.1 hi
    have hxl:s.data.toList[i]? = some (s[i]'hi):=Lib.data_getElem? s i hi;obtain ⟨d,hdd⟩:∃ d,Utf8.decode s i=d:=⟨_,rfl⟩;have RB:=Fi s i hi;rw [hdd] at RB hd;have HK2:=aA (show (wr.iterAt w1.heap.size s (i+d.2)).heap[w1.heap.size]? = some (.stringIter s (i+d.2))/\Below w1.heap.size w1 (wr.iterAt w1.heap.size s (i+d.2)) from ⟨Lib.iterAt_heap _ _ _ _ _ HK.out.1,Lib.below_iterAt HK.out.2 (Nat.le_refl _) _ _⟩);clear HK;rcases RB with ⟨h1,h2⟩ | ⟨h1,h2,h3,h4⟩
    · obtain ⟨x,hx⟩:∃ x:UInt8,s[i]'hi=x:=⟨_,rfl⟩
      rw [hx] at h1 h2 hxl;subst h2;have HX:=aA hxl;have hcon:=Lib.contains_iff_indexByte [32,61] x;have hback:((x.toNat:Int)).toNat.toUInt8=x:=by simp
      have IR2:=aA (fun W=>IR.out (x.toNat:Int) (by omega) (by omega) W);rw [hback] at IR2;clear hx hxl hdd;cases hin:([32,61]:List UInt8).contains x with
      | false =>
        rw [hin] at hcon;have hlt:¬ ((0:Int)<=Lib.indexByte [32,61] x):=of_decide_eq_false hcon.symm;have HIN:=aA hin;clear hcon hin;go_wp2_with fail
        refine (IR2.out _).mono ?_;rintro e w2 ⟨rfl,rfl⟩;go_wp2_with fail
        go_roundg g
        case measure=>omega
        case rel=>exact ⟨i+1,by omega,HK2,aA (HN.out.succ HX.out HIN.out)⟩
      | true =>
        rw [hin] at hcon;have hge:(0:Int)<=Lib.indexByte [32,61] x:=of_decide_eq_true hcon.symm;obtain rfl:r=(i:Int):=by rw [<- HR.out,Lib.indexAny_hit HN.out HX.out hin]
        clear hcon hin;go_wp2_with fail
        refine (IR2.out _).mono ?_;rintro e w2 ⟨rfl,rfl⟩;go_wp2_with fail
        go_ret;exact ⟨rfl,HK2.out.2⟩
    · have IA2:=aA (fun W=>IA.out (d.1:Int) (by omega) W)
      have HN2:=aA (NoAny.far d.2 HN.out (by rw [<- Lib.size_eq];exact h3) (fun k b hk hb=>Po (h4 k b hk hb)));clear hxl hdd h4 HN IA IR;go_wp2_with fail
      refine (IA2.out _).mono ?_;rintro e w2 ⟨rfl,hb⟩;have HK3:=aA (show w2.heap[w1.heap.size]? = some (.stringIter s (i+d.2))/\Below w1.heap.size w1 w2 from ⟨(hb.block _ (by have:=(Array.getElem?_eq_some_iff.1 HK2.out.1).1;exact this)).trans HK2.out.1,HK2.out.2.trans (hb.mono HK2.out.2.size)⟩);clear hb HK2;go_wp2_with fail
      go_roundg (s.size-(i+d.2))
      case measure=>omega
      case rel=>exact ⟨i+d.2,by omega,HK3,HN2⟩
theorem Qu {l:List UInt8} {c:UInt8} {i:Nat} (h:Lib.occAt l [c] i=true):l[i]? = some c:=by
 unfold Lib.occAt at h;cases hd:l.drop i with
 | nil=>rw [hd] at h;simp at h
 | cons d r =>
   rw [hd] at h;have h2:c=d:=by simpa [List.isPrefixOf] using h
   have:=List.getElem?_drop (xs:=l) (i:=i) (j:=0);rw [hd] at this;simpa [h2] using this.symm
theorem Ha {l:List UInt8} {c:UInt8} {i:Nat} (h:Lib.occAt l [c] i=false):¬ l[i]? = some c:=by
 intro h2;unfold Lib.occAt at h;have hl:i<l.length:=(List.getElem?_eq_some_iff.1 h2).1;rw [List.drop_eq_getElem_cons hl] at h;rw [List.getElem?_eq_getElem hl] at h2;rw [Option.some.inj h2] at h;simp [List.isPrefixOf] at h
theorem JR {l:List UInt8} (hne:¬ l=[]):cE l=(Lib.cut l [10]).1::cE (Lib.cut l [10]).2.1:=by
 rcases Lib.index_spec l [10] with ⟨h,hn⟩ | ⟨i,h,hi,ho,hn⟩
 · have e:Lib.cut l [10]=(l,[],false):=by unfold Lib.cut;rw [h,if_neg (by decide)]
   rw [e];refine yB l hne fun c hc e=>?_
   subst e;obtain ⟨k,hk,e2⟩:=List.mem_iff_getElem.1 hc;exact Ha (hn k (Nat.le_of_lt hk)) (by rw [List.getElem?_eq_getElem hk,e2])
 · have e:Lib.cut l [10]=(l.take i,l.drop (i+1),true):=by
    unfold Lib.cut;rw [h,if_pos (by omega)];rfl
   rw [e];have hat:=Qu ho;have hl:i<l.length:=(List.getElem?_eq_some_iff.1 hat).1
   have hd:l=l.take i++10::l.drop (i+1):=by
    conv=>lhs;rw [<- List.take_append_drop i l]
    rw [List.drop_eq_getElem_cons hl];rw [List.getElem?_eq_getElem hl] at hat;rw [Option.some.inj hat]
   conv=>lhs;rw [hd]
   refine AK _ _ fun c hc e=>?_
   subst e;obtain ⟨k,hk,e2⟩:=List.mem_iff_getElem.1 hc;have hk2:k<i:=by rw [List.length_take] at hk;omega
   exact Ha (hn k hk2) (by
    rw [List.getElem_take] at e2;rw [List.getElem?_eq_getElem (by omega),e2])
theorem Pj (l:List UInt8) (hne:¬ l=[]):(Lib.cut l [10]).1.length<=l.length/\(Lib.cut l [10]).2.1.length<l.length:=by
 have h0:0<l.length:=by cases l with
  | nil=>exact absurd rfl hne
  | cons _ _=>simp
 unfold Lib.cut;split
 · simp only [List.length_take,List.length_drop,List.length_cons,List.length_nil];omega
 · exact ⟨Nat.le_refl _,h0⟩
theorem MQ (c:UInt8):([32,61]:List UInt8).contains c= !eI c:=by
 unfold eI;by_cases h:c=32 <;> by_cases h2:c=61 <;> simp_all
theorem zP:∀ l:List UInt8,Lib.indexAny l [32,61]=if (l.takeWhile eI).length=l.length then -1 else ((l.takeWhile eI).length:Int)
 | []=>rfl
 | c :: l => by
   rw [Lib.indexAny,MQ];cases hc:eI c with
   | false =>
     rw [List.takeWhile_cons_of_neg (by simp [hc])];simp
   | true =>
     rw [List.takeWhile_cons_of_pos hc,zP l];simp only [List.length_cons,Nat.add_right_cancel_iff];by_cases h:(l.takeWhile eI).length=l.length
     · rw [if_pos h];simp [h]
     · rw [if_neg h]
       rw [if_neg (by simp),if_neg (by simp),if_neg h];simp
theorem Mk {l a:List UInt8} (ha:l.dropWhile jI=a):fE l=if Lib.indexAny a [32,61]<1 then none else
 if Lib.hasPrefix ((a.drop (Lib.indexAny a [32,61]).toNat).dropWhile jI) [61]=true then some (a.take (Lib.indexAny a [32,61]).toNat,Lib.trimPrefix ((a.drop (Lib.indexAny a [32,61]).toNat).dropWhile jI) [61]) else none:=by
 unfold fE;simp only [ha];have e1:=List.takeWhile_append_dropWhile (p:=eI) (l:=a);rw [zP];by_cases h:(a.takeWhile eI).length=a.length
 · rw [if_pos h,if_pos (show (-1:Int)<1 by decide)]
   have e2:a.dropWhile eI=[]:=by
    have:=congrArg List.length e1;rw [List.length_append] at this;exact List.eq_nil_of_length_eq_zero (by omega)
   rw [e2];simp
 · rw [if_neg h]
   by_cases h0:a.takeWhile eI=[]
   · rw [if_pos h0,h0,if_pos (by simp)]
   · have hp:0<(a.takeWhile eI).length:=List.length_pos_iff.2 h0
     rw [if_neg h0,if_neg (by omega),Int.toNat_natCast];obtain ⟨t,ht⟩:∃ t,a.takeWhile eI=t:=⟨_,rfl⟩;obtain ⟨d,hd⟩:∃ d,a.dropWhile eI=d:=⟨_,rfl⟩;rw [ht,hd] at e1 |-
     have e3:a.drop t.length=d:=by rw [<- e1];simp
     have e4:a.take t.length=t:=by rw [<- e1];simp
     rw [e3,e4];cases hq:d.dropWhile jI with
     | nil=>simp [Lib.hasPrefix]
     | cons c r =>
       by_cases hc:c=61
       · subst hc
         simp [Lib.hasPrefix,Lib.trimPrefix]
       · have:Lib.hasPrefix (c::r) [61]=false:=by simp [Lib.hasPrefix,List.isPrefixOf,Ne.symm hc]
         rw [this];simp only [Bool.false_eq_true,if_false];split
         · rename_i r' hr
           cases hr;exact absurd rfl hc
         · rfl
theorem Li (s:ByteArray) (hm:s.size<=5000) (w:World):Calls Tryz.prog 110 #[.string s,.string ⟨#[32,61]⟩] w fun e w'=>e=.returned (.int .i64 (Lib.indexAny s.data.toList [32,61]))/\Below w.heap.size w w':=by
 by_cases h8:s.size<=8
 · exact IQ s h8 w
 · have hz:=zero_of_info (P:=Tryz.prog) (t:=253) (v:=.agg (Array.replicate 256 (.bool false))) (n:=256) (by kernel_rfl)
   refine (Tryz.strings_IndexAny_long hz.1 s ⟨#[32,61]⟩ w (by decide) (by omega) (by omega) (by decide) (fun j b hb=>?_)).mono fun e w' ⟨he,hw⟩=>⟨he,?_⟩
   · match j,hb with
     | 0,h=>cases h;decide
     | 1,h=>cases h;decide
   · subst hw
     exact (bA0 _ _).alloc (by rw [World.size_alloc];omega) _
theorem IJ (s:ByteArray) (hm:s.size<=5000) (w:World):Calls Tryz.prog 52 #[.string s,.string ⟨#[10]⟩] w fun e w'=>e=.returned (.tuple #[.string ⟨(Lib.cut s.data.toList [10]).1.toArray⟩,.string ⟨(Lib.cut s.data.toList [10]).2.1.toArray⟩,.bool (Lib.cut s.data.toList [10]).2.2])/\Below w.heap.size w w':=by
 have IX:=aA (Tryz.stringslite_Index_one s 10);rcases Lib.indexB_cases s ⟨#[10]⟩ with hix | ⟨i,hix,hroom⟩
 · obtain ⟨e1,e2,e3⟩:=Lib.cutB_miss s ⟨#[10]⟩ hix
   have hj:Lib.indexByte s.data.toList 10= -1:=by rw [<- Lib.index_one];exact hix
   rw [hj] at IX;change (⟨(Lib.cut s.data.toList [10]).1.toArray⟩:ByteArray)=_ at e1;change (⟨(Lib.cut s.data.toList [10]).2.1.toArray⟩:ByteArray)=_ at e2;change (Lib.cut s.data.toList [10]).2.2=_ at e3;rw [e1,e2,e3];clear hix hj e1 e2 e3;go_enter Tryz.func52,Tryz.ntmps52
   go_wp2_with fail
   refine (IX.out _).mono ?_;rintro e w1 ⟨rfl,rfl⟩;go_wp2_with fail
   go_ret3
   exact ⟨rfl,Below.refl _ _⟩
 · obtain ⟨e1,e2,e3⟩:=Lib.cutB_hit s ⟨#[10]⟩ i hix
   have hj:Lib.indexByte s.data.toList 10=i:=by rw [<- Lib.index_one];exact hix
   rw [hj] at IX;change (⟨(Lib.cut s.data.toList [10]).1.toArray⟩:ByteArray)=_ at e1;change (⟨(Lib.cut s.data.toList [10]).2.1.toArray⟩:ByteArray)=s.extract (i+1) s.size at e2;change (Lib.cut s.data.toList [10]).2.2=_ at e3;change i+1<=s.size at hroom;rw [e1,e2,e3];have c1:(0:Int) <= ↑i:=by omega
   have c2:(↑i:Int) <= ↑s.size:=by omega
   have c3:(0:Int) <= ↑i+1:=by omega
   have c4:(↑i+1:Int) <= ↑s.size:=by omega
   have c5:IntKind.i64.wrap ((i:Int)+1)=(i:Int)+1:=IntWalk.i64_in _ (by omega);have c6:((i:Int)+1).toNat=i+1:=by omega
   clear hix hj e1 e2 e3;go_enter Tryz.func52,Tryz.ntmps52
   go_wp2_with fail
   refine (IX.out _).mono ?_;rintro e w1 ⟨rfl,rfl⟩;go_wp2_with fail
   go_quiet (fail)
   go_wp2_with fail
   go_ret3
   exact ⟨rfl,⟨rfl,rfl,rfl,Nat.le_refl _,fun _ _=>rfl⟩⟩
theorem Od (s:ByteArray) (hm:s.size<=5000) (w:World):Calls Tryz.prog 27 #[.string s,.string ⟨#[10]⟩] w fun e w'=>e=.returned (.tuple #[.string ⟨(Lib.cut s.data.toList [10]).1.toArray⟩,.string ⟨(Lib.cut s.data.toList [10]).2.1.toArray⟩,.bool (Lib.cut s.data.toList [10]).2.2])/\Below w.heap.size w w':=by
 have IX:=aA (IJ s hm);obtain ⟨⟨a,b,c⟩,hc⟩:∃ t,Lib.cut s.data.toList [10]=t:=⟨_,rfl⟩;rw [hc] at IX |-
 clear hc;go_enter Tryz.func27,Tryz.ntmps27
 go_wp2_with fail
 refine (IX.out _).mono ?_;rintro e w1 ⟨rfl,hb⟩;have HB:=aA hb;clear hb;go_wp2_with fail
 go_ret3
 exact ⟨rfl,HB.out⟩
def Px (o:Option (List UInt8×List UInt8)) (w:World) (e:Ending) (w':World):Prop:=Below w.heap.size w w'/\match o with
 | none=>∃ a b,e=.returned (.tuple #[.string a,.string b,.bool false])
 | some (n,r)=>e=.returned (.tuple #[.string ⟨n.toArray⟩,.string ⟨r.toArray⟩,.bool true])
theorem Lh (s:ByteArray) (hm:s.size<=5000) (w:World):Calls Tryz.prog 53 #[.string s] w (Px (fE s.data.toList) w):=by
 obtain ⟨A,hA⟩:∃ A:ByteArray,(⟨(Lib.trimLeftB s.data.toList 32).toArray⟩:ByteArray)=A:=⟨_,rfl⟩;have hAl:s.data.toList.dropWhile jI=A.data.toList:=by rw [<- hA];rfl
 have hAz:A.size<=5000:=by
  have h1:A.data.toList.length=A.size:=by simp
  have h2:s.data.toList.length=s.size:=by simp
  have h3:=congrArg List.length (List.takeWhile_append_dropWhile (p:=jI) (l:=s.data.toList));rw [List.length_append,hAl] at h3;omega
 have T1:=aA (Tryz.strings_TrimLeft_one s 32 (by decide));rw [hA] at T1;have IA:=aA (Li A (by omega));have HD:=Mk hAl;obtain ⟨i,hi⟩:∃ i,Lib.indexAny A.data.toList [32,61]=i:=⟨_,rfl⟩;rw [hi] at HD IA;obtain ⟨o,ho⟩:∃ o,fE s.data.toList=o:=⟨_,rfl⟩;rw [ho] at HD |-
 by_cases h1:i<1
 · rw [if_pos h1] at HD
   subst HD;clear hi hA hAl hAz ho;go_enter Tryz.func53,Tryz.ntmps53
   go_wp2_with fail
   refine (T1.out _).mono ?_;rintro e w1 ⟨rfl,rfl⟩;go_wp2_with fail
   refine (IA.out _).mono ?_;rintro e w2 ⟨rfl,hb⟩;have HB:=aA hb;clear hb;go_wp2_with fail
   go_ret3
   exact ⟨HB.out,_,_,rfl⟩
 · rw [if_neg h1] at HD
   obtain ⟨k,rfl⟩:∃ k:Nat,i=(k:Int):=⟨i.toNat,by omega⟩;rw [Int.toNat_natCast] at HD
   have hk:k<=A.size:=by
    have h3:A.data.toList.length=A.size:=by simp
    rw [zP] at hi;have h4:=congrArg List.length (List.takeWhile_append_dropWhile (p:=eI) (l:=A.data.toList));rw [List.length_append] at h4;split at hi <;> omega
   have c1:(0:Int)<=(k:Int):=by omega
   have c2:(k:Int)<=(A.size:Int):=by omega
   obtain ⟨R,hR⟩:∃ R:ByteArray,A.extract k A.size=R:=⟨_,rfl⟩
   have hRl:R.data.toList=A.data.toList.drop k:=by
    rw [<- hR,Lib.extract_eq];show List.take _ _=_;exact List.take_of_length_le (by rw [List.length_drop, <- Lib.size_eq];exact Nat.le_refl _)
   have T2:=aA (Tryz.strings_TrimLeft_one R 32 (by decide));obtain ⟨S,hS⟩:∃ S:ByteArray,(⟨(Lib.trimLeftB R.data.toList 32).toArray⟩:ByteArray)=S:=⟨_,rfl⟩;rw [hS] at T2;have hSl:(A.data.toList.drop k).dropWhile jI=S.data.toList:=by rw [<- hS,hRl];rfl
   have CP:=aA (Tryz.strings_CutPrefix S ⟨#[61]⟩);change Hid (∀ w,Calls _ _ _ w fun e w'=>e=.returned (.tuple #[.string ⟨(Lib.trimPrefix S.data.toList [61]).toArray⟩,.bool (Lib.hasPrefix S.data.toList [61])])/\w'=w) at CP;rw [hSl] at HD;have hN:A.extract 0 k=⟨(A.data.toList.take k).toArray⟩:=by rw [Lib.extract_eq];simp
   have HR:=aA hR;have HH:=aA HD;have HNN:=aA hN;clear hi hA hAl ho hRl hS hSl HD hN hR;go_enter Tryz.func53,Tryz.ntmps53
   go_wp2_with fail
   refine (T1.out _).mono ?_;rintro e w1 ⟨rfl,rfl⟩;go_wp2_with fail
   refine (IA.out _).mono ?_;rintro e w2 ⟨rfl,hb⟩;have HB:=aA hb;clear hb;go_wp2_with fail
   rw [HR.out];refine (T2.out _).mono ?_;rintro e w3 ⟨rfl,rfl⟩;go_wp2_with fail
   refine (CP.out _).mono ?_;rintro e w4 ⟨rfl,rfl⟩;go_wp2_with fail
   rw [HNN.out];obtain ⟨t,ht⟩:∃ t,Lib.hasPrefix S.data.toList [61]=t:=⟨_,rfl⟩;rw [ht];have HH2:=HH.out;rw [ht] at HH2;cases t with
   | true =>
     rw [if_pos rfl] at HH2;subst HH2;go_ret3
     exact ⟨HB.out,rfl⟩
   | false =>
     rw [if_neg (by decide)] at HH2;subst HH2;go_ret3
     exact ⟨HB.out,_,_,rfl⟩
abbrev lnC (x:LN) (p:PA):Array Value:=#[.string x.nm,.string x.a.fn,.int .i64 x.a.k,.string x.a.e.op,.string x.a.e.nm,.int .i64 x.a.e.n,.slice p.ea x.a.e.ks.len p.ec,.string x.a.g.op,.string x.a.g.nm,.int .i64 x.a.g.n,.slice p.ga x.a.g.ks.len p.gc,.slice p.wa x.a.wh.length p.wc]
abbrev lnV (x:LN) (p:PA):Value:=.agg (lnC x p)
abbrev lnO (x:LN) (p:PA):Obj:=.cells (lnC x p) 72
def fJ:LN:=⟨⟨#[]⟩,aP⟩
theorem Kn {W:World} {B:Nat} {x:LN} {p:PA} (h:W.heap[B]? = some (lnO x p)):nY W B 0 x p:=by
 refine ⟨?_,?_,?_,?_,?_,?_,?_,?_,?_,?_,?_,?_⟩ <;> simp [World.cell?,h]
abbrev dK (W:World) (B:Nat) (v0 v1 v2 v3 v4 v5 v6 v7 v8 v9 v10 v11:Value):World:=(((((((((((W.setCell ⟨B,0,none⟩ v0).setCell ⟨B,1,none⟩ v1).setCell ⟨B,2,none⟩ v2).setCell ⟨B,3,none⟩ v3).setCell ⟨B,4,none⟩ v4).setCell ⟨B,5,none⟩ v5).setCell ⟨B,6,none⟩ v6).setCell ⟨B,7,none⟩ v7).setCell ⟨B,8,none⟩ v8).setCell ⟨B,9,none⟩ v9).setCell ⟨B,10,none⟩ v10).setCell ⟨B,11,none⟩ v11
theorem yJ {W:World} {B:Nat} {u0 u1 u2 u3 u4 u5 u6 u7 u8 u9 u10 u11:Value} {t:TypeId} (h:W.heap[B]? = some (.cells #[u0,u1,u2,u3,u4,u5,u6,u7,u8,u9,u10,u11] t (0,0))) (v0 v1 v2 v3 v4 v5 v6 v7 v8 v9 v10 v11:Value):(dK W B v0 v1 v2 v3 v4 v5 v6 v7 v8 v9 v10 v11).heap[B]? = some (.cells #[v0,v1,v2,v3,v4,v5,v6,v7,v8,v9,v10,v11] t (0,0)) :=
 (heap_setCell_same _ B 11 _ t v11 (heap_setCell_same _ B 10 _ t v10 (heap_setCell_same _ B 9 _ t v9 (heap_setCell_same _ B 8 _ t v8 (heap_setCell_same _ B 7 _ t v7 (heap_setCell_same _ B 6 _ t v6 (heap_setCell_same _ B 5 _ t v5 (heap_setCell_same _ B 4 _ t v4 (heap_setCell_same _ B 3 _ t v3 (heap_setCell_same _ B 2 _ t v2 (heap_setCell_same _ B 1 _ t v1 (heap_setCell_same W B 0 _ t v0 h)))))))))))).trans (by simp only [Sf,Sg,Sh])
theorem yH (W:World) (B:Nat) (v0 v1 v2 v3 v4 v5 v6 v7 v8 v9 v10 v11:Value):aD (· = B) W (dK W B v0 v1 v2 v3 v4 v5 v6 v7 v8 v9 v10 v11):=((((((((((((aD.refl (· = B) W).setCell (p:=⟨B,0,none⟩) (.inl rfl) v0).setCell (p:=⟨B,1,none⟩) (.inl rfl) v1).setCell (p:=⟨B,2,none⟩) (.inl rfl) v2).setCell (p:=⟨B,3,none⟩) (.inl rfl) v3).setCell (p:=⟨B,4,none⟩) (.inl rfl) v4).setCell (p:=⟨B,5,none⟩) (.inl rfl) v5).setCell (p:=⟨B,6,none⟩) (.inl rfl) v6).setCell (p:=⟨B,7,none⟩) (.inl rfl) v7).setCell (p:=⟨B,8,none⟩) (.inl rfl) v8).setCell (p:=⟨B,9,none⟩) (.inl rfl) v9).setCell (p:=⟨B,10,none⟩) (.inl rfl) v10).setCell (p:=⟨B,11,none⟩) (.inl rfl) v11
theorem mY {W:World} {B:Nat} {x:LN} {p:PA} (h:W.heap[B]? = some (lnO x p)):W.frozen? ⟨B,0,none⟩=false/\W.frozen? ⟨B,1,none⟩=false/\W.frozen? ⟨B,2,none⟩=false/\W.frozen? ⟨B,3,none⟩=false/\W.frozen? ⟨B,4,none⟩=false/\W.frozen? ⟨B,5,none⟩=false/\W.frozen? ⟨B,6,none⟩=false/\W.frozen? ⟨B,7,none⟩=false/\W.frozen? ⟨B,8,none⟩=false/\W.frozen? ⟨B,9,none⟩=false/\W.frozen? ⟨B,10,none⟩=false/\W.frozen? ⟨B,11,none⟩=false:=by
 refine ⟨?_,?_,?_,?_,?_,?_,?_,?_,?_,?_,?_,?_⟩ <;> simp [World.frozen?,h]
theorem oI {W:World} {B:Nat} (h:W.heap[B]? = some (lnO fJ aG)):W.cell? ⟨B,0,none⟩=some (.string ⟨#[]⟩)/\W.cell? ⟨B,1,none⟩=some (.string ⟨#[]⟩)/\W.cell? ⟨B,2,none⟩=some (.int .i64 0)/\W.cell? ⟨B,3,none⟩=some (.string ⟨#[]⟩)/\W.cell? ⟨B,4,none⟩=some (.string ⟨#[]⟩)/\W.cell? ⟨B,5,none⟩=some (.int .i64 0)/\W.cell? ⟨B,6,none⟩=some (.slice none 0 0)/\W.cell? ⟨B,7,none⟩=some (.string ⟨#[]⟩)/\W.cell? ⟨B,8,none⟩=some (.string ⟨#[]⟩)/\W.cell? ⟨B,9,none⟩=some (.int .i64 0)/\W.cell? ⟨B,10,none⟩=some (.slice none 0 0)/\W.cell? ⟨B,11,none⟩=some (.slice none 0 0):=by
 refine ⟨?_,?_,?_,?_,?_,?_,?_,?_,?_,?_,?_,?_⟩ <;> simp [World.cell?,h,fJ,aP,aG,aC,F.len]
structure KX (G:Nat->Prop) (w:World) (a:Option Addr) (l:List LN) (nb:Nat) (nm:ByteArray) (V:World):Prop where
 b:Below w.heap.size w V
 r:dH G V a l
 n:V.heap[nb]? = some (.cells #[.string nm] 9 (0,0))
theorem KX.step {G:Nat->Prop} {w V V':World} {a:Option Addr} {l:List LN} {nb:Nat} {nm:ByteArray} (h:KX G w a l nb nm V) (hb:Below V.heap.size V V'):KX G w a l nb nm V' :=
 ⟨h.b.trans (hb.mono h.b.size),h.r.kept hb,(hb.block _ (aK h.n)).trans h.n⟩
theorem xS {W:World} {B:Nat} {v:Value} {t:TypeId} (h:W.heap[B]? = some (.cells #[v] t (0,0))):W.cell? ⟨B,0,none⟩=some v:=by simp [World.cell?,h]
theorem Oe (x:LN) (p:PA) (nb:Nat) (nm:ByteArray) (w:World) (hn:w.heap[nb]? = some (.cells #[.string nm] 9 (0,0))):Calls Tryz.prog 56 #[lnV x p,.pointer (some ⟨nb,0,none⟩)] w fun e w'=>e=.returned (.bool (x.nm.toList == nm.toList))/\Below w.heap.size w w':=by
 have B1:=bA0 w (lnO x p);have N1:=heap_alloc_new w (lnO x p);have n1:=xS ((B1.block _ (aK hn)).trans hn);have hlt:=aK hn;generalize hW:w.alloc (lnO x p)=W at B1 N1 n1;have HW:=aA hW;have HB:=aA B1;have HN:=aA N1;clear hW B1 N1 hn;go_enter Tryz.func56,Tryz.ntmps56
 go_upto_region 1 with fail
 rw [show w.alloc (.cells #[.string x.nm,.string x.a.fn,.int .i64 x.a.k,.string x.a.e.op,.string x.a.e.nm,.int .i64 x.a.e.n,.slice p.ea x.a.e.ks.len p.ec,.string x.a.g.op,.string x.a.g.nm,.int .i64 x.a.g.n,.slice p.ga x.a.g.ks.len p.gc,.slice p.wa x.a.wh.length p.wc] 72)=W from HW.out];obtain ⟨c0, -⟩:=Kn HN.out;go_wp2_with fail
 go_ret;exact ⟨rfl,HB.out⟩
theorem Rh {G:Nat->Prop} (l:List LN) (a:Option Addr) (c nb:Nat) (nm:ByteArray) (w:World) (hl:l.length<=100) (hr:dH G w a l) (hn:w.heap[nb]? = some (.cells #[.string nm] 9 (0,0))) :
 Calls Tryz.prog 114 #[.slice a l.length c,.func (.func 56) #[] #[.pointer (some ⟨nb,0,none⟩)]] w fun e w'=>∃ r:Int,e=.returned (.int .i64 r)/\decide (0<=r)=l.any (fun x=>x.nm.data.toList == nm.data.toList)/\Below w.heap.size w w':=by
 have K0:=aA (show KX G w a l nb nm w from ⟨Below.refl _ _,hr,hn⟩);have SN:=aA (fun (x:LN) (p:PA) (V:World) (h:KX G w a l nb nm V)=>Oe x p nb nm V h.n);obtain ⟨z,hz⟩:∃ z,l.any (fun x=>x.nm.data.toList == nm.data.toList)=z:=⟨_,rfl⟩;rw [hz];have HZ:=aA hz;clear hr hn hz;go_enter Tryz.func114,Tryz.ntmps114
 go_wp2_with fail
 go_loopw [8] (fun i wr=>∃ j:Nat,j<=l.length/\i=.int .i64 (j:Nat)/\Hid (∀ (t:Nat) y,t<j->l[t]? = some y->(y.nm.data.toList == nm.data.toList)=false)/\Hid (KX G w a l nb nm wr)) (fun i _=>l.length-(intOf i).toNat)
 case atStart=>exact ⟨0,Nat.zero_le _,rfl,aA (fun t y h _=>by omega),K0⟩
 case round =>
  obtain ⟨j,hj,rfl,HN,HK⟩:=hrel;clear K0;by_cases hlt:j<l.length
  · obtain ⟨x,hx⟩:∃ x,l[j]? = some x:=⟨_,List.getElem?_eq_getElem hlt⟩
    obtain ⟨b,off,p,hya,hbl,hG,⟨p0,p1,p2,p3,p4,p5,p6,p7,p8,p9,p10,p11⟩,hrd⟩:=HK.out.r.at hx;subst hya;have S1:=aA (SN.out x p wr HK.out);have b1:(j:Int)<(l.length:Int):=by omega
    have b2:(0:Int)<=(j:Int):=by omega
    have b3:((j:Int)).toNat=j:=by omega
    have HX:=aA hx;clear hrd hx;go_wp2_with fail
    refine S1.out.mono ?_;rintro e w2 ⟨rfl,hb⟩;have K2:=aA (HK.out.step hb);clear hb S1 HK p0 p1 p2 p3 p4 p5 p6 p7 p8 p9 p10 p11;cases hq:(x.nm.data.toList == nm.data.toList) with
    | true =>
      have q1:(x.nm.toList == nm.toList)=true:=by rw [Lib.toList_data,Lib.toList_data];exact hq
      have A:=aA (show decide ((0:Int)<=(j:Int))=z by
       rw [decide_eq_true b2, <- HZ.out];exact (List.any_eq_true.2 ⟨x,List.mem_of_getElem? HX.out,hq⟩).symm)
      clear hq;rw [q1];go_wp2_with fail
      go_ret;exact ⟨_,rfl,A.out,K2.out.b⟩
    | false =>
      have q1:(x.nm.toList == nm.toList)=false:=by rw [Lib.toList_data,Lib.toList_data];exact hq
      have HN2:=aA (show ∀ (t:Nat) y',t<j+1->l[t]? = some y'->(y'.nm.data.toList == nm.data.toList)=false from fun t y' ht hy'=>by
       by_cases e:t=j
       · subst e
         rw [HX.out] at hy';cases hy';exact hq
       · exact HN.out t y' (by omega) hy')
      clear hq;rw [q1];go_wp2_with fail
      go_roundw
      case rel=>exact ⟨j+1,by omega,by go_num,HN2,K2⟩
      case measure=>simp [intOf];omega
  · have A:=aA (show decide ((0:Int) <= -1)=z by
     rw [decide_eq_false (by decide), <- HZ.out];symm;rw [List.any_eq_false];intro y hy;obtain ⟨t,ht,e2⟩:=List.mem_iff_getElem.1 hy;rw [HN.out t y (by omega) (by rw [List.getElem?_eq_getElem ht,e2])];decide)
    have b1:¬ (j:Int)<(l.length:Int):=by omega
    go_wp2_with fail
    go_ret;exact ⟨_,rfl,A.out,HK.out.b⟩
theorem Ri {G:Nat->Prop} (l:List LN) (a:Option Addr) (c nb:Nat) (nm:ByteArray) (w:World) (hl:l.length<=100) (hr:dH G w a l) (hn:w.heap[nb]? = some (.cells #[.string nm] 9 (0,0))) :
 Calls Tryz.prog 55 #[.slice a l.length c,.func (.func 56) #[] #[.pointer (some ⟨nb,0,none⟩)]] w fun e w'=>e=.returned (.bool (l.any (fun x=>x.nm.data.toList == nm.data.toList)))/\Below w.heap.size w w':=by
 have I:=aA (Rh l a c nb nm w hl hr hn);obtain ⟨z,hz⟩:∃ z,l.any (fun x=>x.nm.data.toList == nm.data.toList)=z:=⟨_,rfl⟩;rw [hz] at I |-
 clear hr hn hz;go_enter Tryz.func55,Tryz.ntmps55
 go_wp2_with fail
 refine I.out.mono ?_;rintro e w1 ⟨r,rfl,hr,hb⟩;have HR:=aA hr;have HB:=aA hb;clear hr hb I;go_wp2_with fail
 go_ret;exact ⟨by rw [<- HR.out];rfl,HB.out⟩
theorem Qp (s:ByteArray) (hm:s.size<=281474976710656) (w:World):Calls Tryz.prog 58 #[.string s] w fun e w'=>e=.returned (.string s)/\Below w.heap.size w w':=by
 have C:=aA (Tryz.stringslite_Clone s w hm);go_enter Tryz.func58,Tryz.ntmps58
 go_wp2_with fail
 refine C.out.mono ?_;rintro e w1 ⟨rfl,hb⟩;have HB:=aA hb;clear hb C;go_wp2_with fail
 go_ret;exact ⟨rfl,HB.out⟩
theorem P8 (L:List Tk) (p:Nat):eZ L p=bK L p:=by unfold eZ bK;cases L[p]? <;> rfl
theorem Bz {L:List Tk} {p:Nat} (h:¬ (bK L p).kind=0):p<L.length:=by
 rcases Nat.lt_or_ge p L.length with hp | hp
 · exact hp
 · exact absurd (by unfold bK;rw [List.getElem?_eq_none hp];rfl) h
structure PR (ts:List Tk) (rb:Nat) (a:Option Addr) (c p:Nat) (er:Int) (w:World):Prop where
 r:w.heap[rb]? = some (.cells #[.slice a ts.length c,.int .i64 p,.int .i64 er] 202 (0,0))
 t:Cz rb w a ts
 p:p<=ts.length
 n:ts.length<=100000
abbrev PS (ts:List Tk) (rb:Nat) (a:Option Addr) (c:Nat) (s:RS) (w:World):Prop:=PR ts rb a c (atR s) s.bad w
section
variable {ts : List Tk} {rb : Nat} {a : Option Addr} {c p : Nat} {er : Int} {w w' : World}
theorem PR.kept (h:PR ts rb a c p er w) {S:Nat->Prop} (hk:aD S w w') (hS:∀ k,S k->rb<k):PR ts rb a c p er w' :=
 ⟨hk.heap h.r (fun hs=>by have:=hS rb hs;omega),h.t.kept hk (fun k hs=>by have:=hS k hs;omega),h.p,h.n⟩
theorem PR.below (h:PR ts rb a c p er w) (hb:Below w.heap.size w w'):PR ts rb a c p er w' :=
 h.kept (aE hb (fun _=>False)) (fun _ h=>h.elim)
theorem PR.lt (h:PR ts rb a c p er w):rb<w.heap.size:=aK h.r
theorem PR.setE (h:PR ts rb a c p er w) (e:Int):PR ts rb a c p e (w.setCell ⟨rb,2,none⟩ (.int .i64 e)):=by
 refine ⟨?_,h.t.kept ((aD.refl (· = rb) w).setCell (p:=⟨rb,2,none⟩) (.inl rfl) _) (fun k hk=>by omega),h.p,h.n⟩;have:=heap_setCell_same w rb 2 _ 202 (.int .i64 e) h.r;simpa using this
theorem PR.setP (h:PR ts rb a c p er w) (q:Nat) (hq:q<=ts.length):PR ts rb a c q er (w.setCell ⟨rb,1,none⟩ (.int .i64 (q:Nat))):=by
 refine ⟨?_,h.t.kept ((aD.refl (· = rb) w).setCell (p:=⟨rb,1,none⟩) (.inl rfl) _) (fun k hk=>by omega),hq,h.n⟩;have:=heap_setCell_same w rb 1 _ 202 (.int .i64 (q:Nat)) h.r;simpa using this
theorem PR.reads (h:PR ts rb a c p er w):fI w a ts :=
 h.t.imp id fun ⟨b,off,e,hlt,hc⟩=>⟨b,off,e,Nat.lt_trans hlt h.lt,hc⟩
theorem PR.drewN (h:PR ts rb a c p er w) (n:Nat):PR ts rb a c p er (w.drewN n):=h.kept ((aD.refl (fun _=>False) w).drewN n) (fun _ h=>h.elim)
end
theorem mL (ts:List Tk) (rb:Nat) (a:Option Addr) (c p:Nat) (er:Int) (w:World) (h:PR ts rb a c p er w) :
 Calls Tryz.prog 217 #[.pointer (some ⟨rb,0,none⟩)] w fun e w'=>e=.returned (tkG (bK ts p))/\Below w.heap.size w w':=by
 rw [<- P8];have hpos:=h.p;have hn:=h.n;have BA:=bA0 w (tkO 0 ⟨#[]⟩ 0 0);have NB:=heap_alloc_new w (tkO 0 ⟨#[]⟩ 0 0);have hP:=h.below BA;have hsz:(w.alloc (tkO 0 ⟨#[]⟩ 0 0)).heap.size=w.heap.size+1:=World.size_alloc _ _;obtain ⟨⟨c0,c1,c2⟩, -⟩:=dV hP.r;obtain ⟨⟨x0,x1,x2,x3⟩,f0,f1,f2,f3⟩:=aL NB;by_cases hlt:p<ts.length
 · obtain ⟨b,off,ha, -,p0,p1,p2,p3⟩:=aY hP.t hlt
   subst ha;obtain ⟨X,hX⟩:∃ X,tkG (eZ ts p)=X:=⟨_,rfl⟩;have hX':=hX;rw [wT hlt] at hX';unfold tkG at hX';rw [hX];generalize ts[p]=t at p0 p1 p2 p3 hX';obtain ⟨k,s,nn,pp⟩:=t;simp only at p0 p1 p2 p3 hX';have a1:((p:Int) == (ts.length:Int))=false:=by rw [beq_eq_false_iff_ne];omega
   have a2:(p:Int)<(ts.length:Int):=by omega
   have a4:(0:Int)<=(p:Int):=by omega
   have a3:((p:Int)).toNat=p:=by omega
   subst hX';clear hX h hP;have HN:=aA NB;have HB:=aA BA;clear NB BA;go_enter Tryz.func217,Tryz.ntmps217
   go_upto_region 1 with fail
   generalize w.alloc (tkO 0 ⟨#[]⟩ 0 0)=W at *;go_upto_region 3 with (go_quiet (fail))
   go_region
   go_wp2_with fail
   obtain ⟨⟨d0,d1,d2,d3⟩, -⟩:=aL (aU (W:=W.drewN (nq+1)) HN.out (.int .i64 k) (.string ⟨s.toArray⟩) (.int .i64 nn) (.int .i64 pp));exact bodyPost_ret (v:=.agg #[.int .i64 k,.string ⟨s.toArray⟩,.int .i64 nn,.int .i64 pp]) (by simp [results,Tryz.results217,go_sem,d0,d1,d2,d3]) rfl ⟨rfl,lA HB.out (Nat.le_refl _) (by omega) (nq+1) _ _ _ _⟩
 · obtain rfl:p=ts.length:=by omega
   rw [wU (Nat.le_refl _)];clear h hP;have HN:=aA NB;have HB:=aA BA;clear NB BA;go_enter Tryz.func217,Tryz.ntmps217
   go_upto_region 1 with fail
   generalize w.alloc (tkO 0 ⟨#[]⟩ 0 0)=W at *;go_upto_region 2 with (go_quiet (fail))
   go_wp2_with fail
   obtain ⟨⟨d0,d1,d2,d3⟩, -⟩:=aL (aU (W:=W.drewN nq) HN.out (.int .i64 0) (.string ⟨#[]⟩) (.int .i64 0) (.int .i64 0));exact bodyPost_ret (v:=.agg #[.int .i64 0,.string ⟨#[]⟩,.int .i64 0,.int .i64 0]) (by simp [results,Tryz.results217,go_sem,d0,d1,d2,d3]) rfl ⟨rfl,lA HB.out (Nat.le_refl _) (by omega) nq _ _ _ _⟩
theorem gS (ts:List Tk) (rb:Nat) (a:Option Addr) (c:Nat) (s:RS) (so:Bool) (er:Int) (he:¬ er=0) (w:World) (h:PS ts rb a c s w) :
 Calls Tryz.prog 218 #[.pointer (some ⟨rb,0,none⟩),.bool so,.int .i64 er] w fun e w'=>e=.returned (.tuple #[])/\PS ts rb a c (bT so er s) w'/\aD (· = rb) w w':=by
 obtain ⟨⟨c0,c1,c2⟩,f0,f1,f2⟩:=dV h.r;cases so with
 | true =>
   have H:=aA (show PS ts rb a c (bT true er s) w from h);clear h;go_enter Tryz.func218,Tryz.ntmps218
   go_wp2_with fail
   go_end0
   exact ⟨rfl,H.out,aD.refl _ _⟩
 | false =>
   by_cases hb:s.bad=0
   · have q:((s.bad:Int) == 0)=true:=by rw [hb];rfl
     have H:=aA (show PS ts rb a c (bT false er s) (w.setCell ⟨rb,2,none⟩ (.int .i64 er)) from by
      rw [iA];show PR ts rb a c (atR (aM er s)) (aM er s).bad _;rw [O9 er he s,show (aM er s).bad=er by unfold aM;rw [if_pos hb]];exact h.setE er)
     clear h hb;go_enter Tryz.func218,Tryz.ntmps218
     go_wp2_with fail
     go_end0
     exact ⟨rfl,H.out,cS (aD.refl _ _) 2 _⟩
   · have q:((s.bad:Int) == 0)=false:=beq_eq_false_iff_ne.2 hb
     have H:=aA (show PS ts rb a c (bT false er s) w from by rw [iA,qP hb];exact h);clear h hb;go_enter Tryz.func218,Tryz.ntmps218
     go_wp2_with fail
     go_end0
     exact ⟨rfl,H.out,aD.refl _ _⟩
theorem jY (ts:List Tk) (rb:Nat) (a:Option Addr) (c:Nat) (s:RS) (hlt:s.bad=0->s.pos<ts.length) (w:World) (h:PS ts rb a c s w) :
 Calls Tryz.prog 219 #[.pointer (some ⟨rb,0,none⟩)] w fun e w'=>e=.returned (.tuple #[])/\PS ts rb a c (goR s) w'/\aD (· = rb) w w':=by
 obtain ⟨⟨c0,c1,c2⟩,f0,f1,f2⟩:=dV h.r;have hp:=h.p;have hn:=h.n;by_cases hb:s.bad=0
 · have q:((s.bad:Int) == 0)=true:=by rw [hb];rfl
   have H:=aA (show PS ts rb a c (goR s) (w.setCell ⟨rb,1,none⟩ (.int .i64 ((atR s:Nat)+1:Nat))) from by
    rw [Et hb];show PR ts rb a c (atR (aJ s)) s.bad _;rw [show atR (aJ s)=atR s+1 by rw [lB hb,lB (show (aJ s).bad=0 from hb)];rfl];exact h.setP (atR s+1) (by rw [lB hb];exact hlt hb))
   rw [Int.natCast_add] at H;clear h hb hlt;go_enter Tryz.func219,Tryz.ntmps219
   go_wp2_with fail
   go_end0
   exact ⟨rfl,H.out,cS (aD.refl _ _) 1 _⟩
 · have q:((s.bad:Int) == 0)=false:=beq_eq_false_iff_ne.2 hb
   have H:=aA (show PS ts rb a c (goR s) w from by rw [gN hb];exact h);clear h hb hlt;go_enter Tryz.func219,Tryz.ntmps219
   go_wp2_with fail
   go_end0
   exact ⟨rfl,H.out,aD.refl _ _⟩
theorem lI {so:Bool} {e:Int} (he:¬ e=0) {s:RS} (h:(bT so e s).bad=0):so=true/\s.bad=0:=by
 cases so with
 | true=>exact ⟨rfl,h⟩
 | false =>
   by_cases hb:s.bad=0
   · exact absurd h (dG he hb)
   · rw [iA,qP hb] at h;exact absurd h hb
theorem jC (so:Bool) (e:Int) (s:RS):(bT so e s).pos=s.pos:=by
 unfold bT;split
 · rfl
 · exact kZ e s
theorem sH (t:Tk):tkG t=.agg #[.int .i64 t.kind,.string ⟨t.text.toArray⟩,.int .i64 t.num,.int .i64 t.place]:=rfl
theorem pS (ts:List Tk) (rb:Nat) (a:Option Addr) (c:Nat) (s:RS) (x:ByteArray) (w:World) (h:PS ts rb a c s w) :
 Calls Tryz.prog 178 #[.pointer (some ⟨rb,0,none⟩),.string x] w fun e w'=>e=.returned (.tuple #[])/\PS ts rb a c (aS ts x.data.toList s) w'/\aD (· = rb) w w':=by
 have TL:(bK ts (atR s)).kind=3->atR s<ts.length:=fun hk=>Bz (by rw [hk];decide)
 have SI:=NE ts x.data.toList s;have NX:=mL ts rb a c (atR s) s.bad w h;obtain ⟨t,ht⟩:∃ t,bK ts (atR s)=t:=⟨_,rfl⟩;rw [ht] at TL SI NX;rw [sH] at NX;rw [<- SI];clear SI ht;obtain ⟨X,hX⟩:∃ X:ByteArray,⟨t.text.toArray⟩=X:=⟨_,rfl⟩;have hXl:t.text=X.data.toList:=by rw [<- hX]
 rw [hX] at NX;rw [hXl, <- Lib.toList_data, <- Lib.toList_data];obtain ⟨k,s',nn,pp⟩:=t;simp only at TL NX hX |-
 have HT:=aA TL;have HN:=aA NX;have HP:=aA h;obtain ⟨so,hso⟩:∃ so,((k == 3) && (X.toList == x.toList))=so:=⟨_,rfl⟩;rw [hso];have HSO:=aA hso;clear TL NX hX hXl h hso;have hrb:=HP.out.lt;go_enter Tryz.func178,Tryz.ntmps178
 go_wp2_with fail
 refine HN.out.mono ?_;rintro e w1 ⟨rfl,hb⟩;have P1:=HP.out.below hb;have K1:=aE hb (· = rb);have BA:=bA0 w1 (tkO k X nn pp);have NB:=heap_alloc_new w1 (tkO k X nn pp);have P2:=aA (P1.below BA);have K2:=aA (K1.trans (aE BA (· = rb)) (fun i hi _=>hi));have CM:=aA (fun so V (hV:PS ts rb a c s V)=>gS ts rb a c s so 2 (by decide) V hV);obtain ⟨⟨x0,x1,x2,x3⟩, -⟩:=aL NB;clear hb P1 K1 BA NB HN;cases hk3:(k == 3) with
 | true =>
   have z:(k == 3)=true:=hk3;have hso:(X.toList == x.toList)=so:=by rw [<- HSO.out,hk3,Bool.true_and]
   have hz:=HT.out (by simpa using hk3);clear hk3;go_upto_region 1 with fail
   generalize w1.alloc (tkO k X nn pp)=W at *;go_wp2_with fail
   refine (CM.out so _ P2.out).mono ?_;rintro e w2 ⟨rfl,P3,k3⟩;clear hso;have K3:=K2.out.trans k3 (fun i hi _=>hi);have CS:=jY ts rb a c (bT so 2 s) (fun hh=>by rw [jC];have:=(lI (by decide) hh).2;rw [lB this] at hz;exact hz) w2 P3;have HC:=aA CS;have HK:=aA K3;clear P3 k3 K3 CS CM P2 K2 x0 x1 x2 x3;go_wp2_with fail
   refine HC.out.mono ?_;rintro e w3 ⟨rfl,P4,k4⟩;have P5:=aA P4;have K5:=aA (HK.out.trans k4 (fun i hi _=>hi));clear P4 k4;go_wp2_with fail
   go_end0
   exact ⟨rfl,P5.out,K5.out⟩
 | false =>
   have z:(k == 3)=false:=hk3;have hz:false=so:=by rw [<- HSO.out,hk3,Bool.false_and]
   subst hz;clear hk3;go_upto_region 1 with fail
   generalize w1.alloc (tkO k X nn pp)=W at *;go_wp2_with fail
   refine (CM.out false _ P2.out).mono ?_;rintro e w2 ⟨rfl,P3,k3⟩;have K3:=K2.out.trans k3 (fun i hi _=>hi);have CS:=jY ts rb a c (bT false 2 s) (fun hh=>absurd (lI (by decide) hh).1 (by decide)) w2 P3;have HC:=aA CS;have HK:=aA K3;clear P3 k3 K3 CS CM P2 K2 x0 x1 x2 x3;go_wp2_with fail
   refine HC.out.mono ?_;rintro e w3 ⟨rfl,P4,k4⟩;have P5:=aA P4;have K5:=aA (HK.out.trans k4 (fun i hi _=>hi));clear P4 k4;go_wp2_with fail
   go_end0
   exact ⟨rfl,P5.out,K5.out⟩
theorem I1 (ts:List Tk) (rb:Nat) (a:Option Addr) (c:Nat) (s:RS) (w:World) (h:PS ts rb a c s w) :
 Calls Tryz.prog 177 #[.pointer (some ⟨rb,0,none⟩)] w fun e w'=>e=.returned (.string ⟨(bK ts (atR s)).text.toArray⟩) /\
  PS ts rb a c (goR (bT (dX (bK ts (atR s)).text) 5 (bT ((bK ts (atR s)).kind == 1) 2 s))) w'/\aD (· = rb) w w':=by
 have TL:(bK ts (atR s)).kind=1->atR s<ts.length:=fun hk=>Bz (by rw [hk];decide)
 have NX:=mL ts rb a c (atR s) s.bad w h;obtain ⟨t,ht⟩:∃ t,bK ts (atR s)=t:=⟨_,rfl⟩;rw [ht] at TL NX;rw [sH] at NX;rw [ht];clear ht;obtain ⟨X,hX⟩:∃ X:ByteArray,⟨t.text.toArray⟩=X:=⟨_,rfl⟩;have hXl:t.text=X.data.toList:=by rw [<- hX]
 rw [hX] at NX |-
 rw [hXl];obtain ⟨k,s',nn,pp⟩:=t;simp only at TL NX hX |-
 have HT:=aA TL;have HN:=aA NX;have HP:=aA h;obtain ⟨fo,hfo⟩:∃ b,dX X.data.toList=b:=⟨_,rfl⟩;rw [hfo];have HFO:=aA hfo;clear TL NX hX hXl h hfo;have hrb:=HP.out.lt;go_enter Tryz.func177,Tryz.ntmps177
 go_wp2_with fail
 refine HN.out.mono ?_;rintro e w1 ⟨rfl,hb⟩;have P1:=HP.out.below hb;have K1:=aE hb (· = rb);have BA:=bA0 w1 (tkO k X nn pp);have NB:=heap_alloc_new w1 (tkO k X nn pp);have P2:=aA (P1.below BA);have K2:=aA (K1.trans (aE BA (· = rb)) (fun i hi _=>hi));have hb1:=hb.size;have hs1:(w1.alloc (tkO k X nn pp)).heap.size=w1.heap.size+1:=World.size_alloc _ _;clear hb P1 K1 BA HN;obtain ⟨B,hB⟩:∃ B,w1.heap.size=B:=⟨_,rfl⟩;rw [hB] at NB hs1;have hBr:rb<B:=by omega
 go_upto_region 2 with fail
 try rw [hB]
 generalize w1.alloc (tkO k X nn pp)=W at *;clear hB hb1;obtain ⟨⟨x0,x1,x2,x3⟩, -⟩:=aL NB;have HNB:=aA NB;have CP:=aA (mE X W);rw [HFO.out] at CP;clear NB;go_wp2_with fail
 refine CP.out.mono ?_;rintro e w2 ⟨rfl,hb⟩;have P3:=P2.out.below hb;have K3:=K2.out.trans (aE hb (· = rb)) (fun i hi _=>hi);have N3:=(hb.block B (by omega)).trans HNB.out;have hz3:=hb.size;have BA:=bA0 w2 (ptO (kP X.data.toList) (eP X.data.toList) (bP X.data.toList));have P4:=aA (P3.below BA);have K4:=aA (K3.trans (aE BA (· = rb)) (fun i hi _=>hi));have N4:=aA ((BA.block B (by omega)).trans N3);clear hb P3 K3 N3 hz3 BA CP P2 K2 HNB x0 x1 x2 x3;go_upto_region 3 with fail
 generalize w2.alloc (ptO (kP X.data.toList) (eP X.data.toList) (bP X.data.toList))=W2 at *;obtain ⟨⟨x0,x1,x2,x3⟩, -⟩:=aL N4.out;have CM:=aA (gS ts rb a c s (k == 1) 2 (by decide) W2 P4.out);go_wp2_with fail
 refine CM.out.mono ?_;rintro e w3 ⟨rfl,P5,k5⟩;have N5:=k5.heap N4.out (by omega);have K5:=aA (K4.out.trans k5 (fun i hi _=>hi));have CF:=aA (gS ts rb a c (bT (k == 1) 2 s) fo 5 (by decide) w3 P5);clear P5 k5 CM P4 K4 N4 x0 x1 x2 x3;obtain ⟨⟨x0,x1,x2,x3⟩, -⟩:=aL N5;have N6:=aA N5;clear N5;go_wp2_with fail
 refine CF.out.mono ?_;rintro e w4 ⟨rfl,P7,k7⟩;have N7:=k7.heap N6.out (by omega);have K7:=aA (K5.out.trans k7 (fun i hi _=>hi))
 have CS:=aA (jY ts rb a c (bT fo 5 (bT (k == 1) 2 s)) (fun hh=>by
  rw [jC,jC];have h1:=(lI (by decide) hh).2;have h2:=lI (by decide) h1;have:=HT.out (by simpa using h2.1);rw [lB h2.2] at this;exact this) w4 P7)
 clear P7 k7 CF K5 N6 x0 x1 x2 x3;obtain ⟨⟨x0,x1,x2,x3⟩, -⟩:=aL N7;have N8:=aA N7;clear N7;go_wp2_with fail
 refine CS.out.mono ?_;rintro e w5 ⟨rfl,P9,k9⟩;have N9:=k9.heap N8.out (by omega);have K9:=aA (K7.out.trans k9 (fun i hi _=>hi));have P10:=aA P9;clear P9 k9 CS K7 N8 x0 x1 x2 x3;obtain ⟨⟨x0,x1,x2,x3⟩, -⟩:=aL N9;clear N9;go_wp2_with fail
 go_ret;exact ⟨rfl,P10.out,K9.out⟩
theorem QI (ts:List Tk) (rb:Nat) (a:Option Addr) (c:Nat) (s:RS) (w:World) (h:PS ts rb a c s w) :
 Calls Tryz.prog 220 #[.pointer (some ⟨rb,0,none⟩)] w fun e w'=>e=.returned (.int .i64 (bK ts (atR s)).num)/\PS ts rb a c (sG ts s) w'/\aD (· = rb) w w':=by
 have TL:(bK ts (atR s)).kind=2->atR s<ts.length:=fun hk=>Bz (by rw [hk];decide)
 have NX:=mL ts rb a c (atR s) s.bad w h;unfold sG;obtain ⟨t,ht⟩:∃ t,bK ts (atR s)=t:=⟨_,rfl⟩;rw [ht] at TL NX;rw [sH] at NX;rw [ht];clear ht;obtain ⟨X,hX⟩:∃ X:ByteArray,⟨t.text.toArray⟩=X:=⟨_,rfl⟩;rw [hX] at NX;obtain ⟨k,s',nn,pp⟩:=t;simp only at TL NX hX |-
 have HT:=aA TL;have HN:=aA NX;have HP:=aA h;obtain ⟨so,hso⟩:∃ so,(decide (1<=nn) && decide (nn<=16))=so:=⟨_,rfl⟩;rw [hso];have HSO:=aA hso;clear TL NX hX h hso;have hrb:=HP.out.lt;go_enter Tryz.func220,Tryz.ntmps220
 go_wp2_with fail
 refine HN.out.mono ?_;rintro e w1 ⟨rfl,hb⟩;have P1:=HP.out.below hb;have K1:=aE hb (· = rb);have BA:=bA0 w1 (tkO k X nn pp);have NB:=heap_alloc_new w1 (tkO k X nn pp);have P2:=aA (P1.below BA);have K2:=aA (K1.trans (aE BA (· = rb)) (fun i hi _=>hi));have hb1:=hb.size;have hs1:(w1.alloc (tkO k X nn pp)).heap.size=w1.heap.size+1:=World.size_alloc _ _;clear hb P1 K1 BA HN;obtain ⟨B,hB⟩:∃ B,w1.heap.size=B:=⟨_,rfl⟩;rw [hB] at NB hs1;have hBr:rb<B:=by omega
 go_upto_region 2 with fail
 try rw [hB]
 generalize w1.alloc (tkO k X nn pp)=W at *;clear hB hb1;obtain ⟨⟨x0,x1,x2,x3⟩, -⟩:=aL NB;have HNB:=aA NB;have CM:=aA (gS ts rb a c s (k == 2) 2 (by decide) W P2.out);clear NB;go_wp2_with fail
 refine CM.out.mono ?_;rintro e w3 ⟨rfl,P5,k5⟩;have N5:=k5.heap HNB.out (by omega);have K5:=aA (K2.out.trans k5 (fun i hi _=>hi));have CK:=aA (D6 nn w3);have CF:=aA (gS ts rb a c (bT (k == 2) 2 s) (decide (1<=nn) && decide (nn<=16)) 1 (by decide) w3 P5);clear P5 k5 CM P2 K2 HNB x0 x1 x2 x3;obtain ⟨⟨x0,x1,x2,x3⟩, -⟩:=aL N5;have N6:=aA N5;clear N5;rw [HSO.out] at CK CF;go_wp2_with fail
 refine CK.out.mono ?_;rintro e w3' ⟨rfl,rfl⟩;go_wp2_with fail
 refine CF.out.mono ?_;rintro e w4 ⟨rfl,P7,k7⟩;have N7:=k7.heap N6.out (by omega);have K7:=aA (K5.out.trans k7 (fun i hi _=>hi))
 have CS:=aA (jY ts rb a c (bT so 1 (bT (k == 2) 2 s)) (fun hh=>by
  rw [jC,jC];have h1:=(lI (by decide) hh).2;have h2:=lI (by decide) h1;have:=HT.out (by simpa using h2.1);rw [lB h2.2] at this;exact this) w4 P7)
 clear P7 k7 CF K5 N6 x0 x1 x2 x3;obtain ⟨⟨x0,x1,x2,x3⟩, -⟩:=aL N7;have N8:=aA N7;clear N7;go_wp2_with fail
 refine CS.out.mono ?_;rintro e w5 ⟨rfl,P9,k9⟩;have N9:=k9.heap N8.out (by omega);have K9:=aA (K7.out.trans k9 (fun i hi _=>hi));have P10:=aA P9;clear P9 k9 CS K7 N8 x0 x1 x2 x3;obtain ⟨⟨x0,x1,x2,x3⟩, -⟩:=aL N9;clear N9;go_wp2_with fail
 go_ret;exact ⟨rfl,P10.out,K9.out⟩
def ofN (q:Hy):TN×Nat×Int:=match q with | .ok t p=>(t,p,0) | .bad p e=>(aC,p,e)
theorem Lm {q:Hy} {w w':World} {e:Ending} (h:GH q w e w'):Below w.heap.size w w'/\∃ ad cc,e=.returned (.tuple #[cF (ofN q).1.op (ofN q).1.nm (ofN q).1.n ad (ofN q).1.ks.len cc,.int .i64 ((ofN q).2.1:Nat),.int .i64 (ofN q).2.2])/\a8 w.heap.size w' ad (ofN q).1.ks:=by
 cases q with
 | ok t p=>obtain ⟨hb,ad,cc,he,hr⟩:=h;exact ⟨hb,ad,cc,he,hr⟩
 | bad p er=>obtain ⟨hb,he⟩:=h;exact ⟨hb,none,0,he,.inl rfl⟩
theorem Mz {L:List Tk} {s:RS} (hb:s.bad=0) (hp:s.pos<=L.length):(aZ L s).1=(ofN (ofL L s.pos)).1/\atR (aZ L s).2=(ofN (ofL L s.pos)).2.1/\(aZ L s).2.bad=(ofN (ofL L s.pos)).2.2:=by
 unfold aZ;rw [if_pos hb];cases h:ofL L s.pos with
 | ok t p=>exact ⟨rfl,rfl,rfl⟩
 | bad p e =>
   have hne:¬ e=0:=((rS hp).2 p e h).2;exact ⟨rfl,rZ hne,rfl⟩
theorem xV {ts:List Tk} {rb:Nat} {a:Option Addr} {c p:Nat} {er:Int} {w V:World} {t:TN} {ad:Option Addr} {cc:Nat} (hrb:rb<w.heap.size) (h:PR ts rb a c p er V) (hk:aD (· = rb) w V) (hr:a8 (w.heap.size+1) V ad t.ks) :
 PR ts rb a c p er (kL V w.heap.size t.op t.nm t.n ad t.ks.len cc)/\aD (· = rb) w (kL V w.heap.size t.op t.nm t.n ad t.ks.len cc)/\a8 w.heap.size (kL V w.heap.size t.op t.nm t.n ad t.ks.len cc) ad t.ks:=by
 have KP:=eX V w.heap.size t.op t.nm t.n ad t.ks.len cc;exact ⟨h.kept KP (fun k hk=>by omega),hk.trans (KP.mono (T:=fun i=>w.heap.size<=i) (fun i hi _=>by omega)) (fun i hi hl=>by omega),(hr.keptS KP (fun k hk=>by omega)).mono (by omega)⟩
theorem FQ (ts:List Tk) (rb:Nat) (a:Option Addr) (c p:Nat) (er:Int) (w:World) (h:PR ts rb a c p er w) (hb:¬ er=0) :
 Calls Tryz.prog 221 #[.pointer (some ⟨rb,0,none⟩)] w fun e w'=>∃ ad cc,e=.returned (cF aC.op aC.nm aC.n ad aC.ks.len cc)/\PR ts rb a c p er w'/\aD (· = rb) w w'/\a8 w.heap.size w' ad aC.ks:=by
 have q:((er:Int) != 0)=true:=by simpa using hb
 have BA:=bA0 w (ndG ⟨#[]⟩ ⟨#[]⟩ 0 none 0 0);have NB:=heap_alloc_new w (ndG ⟨#[]⟩ ⟨#[]⟩ 0 none 0 0);have H1:=aA (h.below BA);have K1:=aA (aE BA (· = rb));have hrb:=h.lt;have HN:=aA NB;generalize hW:w.alloc (ndG ⟨#[]⟩ ⟨#[]⟩ 0 none 0 0)=W at *;have HW:=aA hW;obtain ⟨⟨c0,c1,c2⟩,f0,f1,f2⟩:=dV H1.out.r;obtain ⟨⟨r0,r1,r2,r3⟩,z0,z1,z2,z3⟩:=aL NB;clear h hb NB BA hW;go_enter Tryz.func221,Tryz.ntmps221
 go_upto_region 1 with fail
 rw [HW.out];go_wp2_with fail
 have P:=xV (t:=aC) (ad:=none) (cc:=0) hrb H1.out K1.out (.inl rfl);obtain ⟨⟨y0,y1,y2,y3⟩, -⟩:=aL (aU HN.out (.string ⟨#[]⟩) (.string ⟨#[]⟩) (.int .i64 0) (.slice none 0 0));exact bodyPost_ret (v:=cF ⟨#[]⟩ ⟨#[]⟩ 0 none 0 0) (by simp [results,Tryz.results221,go_sem,y0,y1,y2,y3]) rfl ⟨none,0,rfl,P⟩
theorem Lr (ts:List Tk) (hL:∀ t∈ts,cK t) (rb:Nat) (a:Option Addr) (c p:Nat) (w:World) (h:PR ts rb a c p 0 w) {t:TN} {q:Nat} {er:Int} (ho:ofN (ofL ts p)=(t,q,er)) (hq:q<=ts.length) :
 Calls Tryz.prog 221 #[.pointer (some ⟨rb,0,none⟩)] w fun e w'=>∃ ad cc,e=.returned (cF t.op t.nm t.n ad t.ks.len cc)/\PR ts rb a c q er w'/\aD (· = rb) w w'/\a8 w.heap.size w' ad t.ks:=by
 have hrb:=h.lt;have B1:=bA0 w (ndG ⟨#[]⟩ ⟨#[]⟩ 0 none 0 0);have NB:=heap_alloc_new w (ndG ⟨#[]⟩ ⟨#[]⟩ 0 none 0 0);have hs0:(w.alloc (ndG ⟨#[]⟩ ⟨#[]⟩ 0 none 0 0)).heap.size=w.heap.size+1:=World.size_alloc _ _;have H1:=h.below B1;generalize hW:w.alloc (ndG ⟨#[]⟩ ⟨#[]⟩ 0 none 0 0)=W at *;have B2:=bA0 W (ndG ⟨#[]⟩ ⟨#[]⟩ 0 none 0 0);have NC:=heap_alloc_new W (ndG ⟨#[]⟩ ⟨#[]⟩ 0 none 0 0);have ND:=(B2.block w.heap.size (by omega)).trans NB;have hs1:(W.alloc (ndG ⟨#[]⟩ ⟨#[]⟩ 0 none 0 0)).heap.size=W.heap.size+1:=World.size_alloc _ _;have H2:=H1.below B2;have BB:Below w.heap.size w (W.alloc (ndG ⟨#[]⟩ ⟨#[]⟩ 0 none 0 0)):=B1.trans (B2.mono (by omega))
 have CO:∀ V,fI V a ts->Calls Tryz.prog 244 #[.slice a ts.length c,.int .i64 p] V fun e w'=>Below V.heap.size V w'/\∃ ad cc,e=.returned (.tuple #[cF t.op t.nm t.n ad t.ks.len cc,.int .i64 (q:Nat),.int .i64 er])/\a8 V.heap.size w' ad t.ks:=fun V hV =>
  (Of ts hL a c p h.n h.p V hV).mono fun e w' hh=>by
   have:=Lm hh.1;rw [ho] at this;exact this
 have C1:=aA (CO W.drew (H1.below (⟨rfl,rfl,rfl,Nat.le_refl _,fun _ _=>rfl⟩:Below W.heap.size W W.drew)).reads);have C2:=aA (CO (W.alloc (ndG ⟨#[]⟩ ⟨#[]⟩ 0 none 0 0)).drew (H2.below (⟨rfl,rfl,rfl,Nat.le_refl _,fun _ _=>rfl⟩:Below _ (W.alloc (ndG ⟨#[]⟩ ⟨#[]⟩ 0 none 0 0)) (W.alloc (ndG ⟨#[]⟩ ⟨#[]⟩ 0 none 0 0)).drew)).reads);have H:=aA H1;have G:=aA H2;have N0:=aA NB;have N1:=aA NC;have N2:=aA ND;have BV:=aA B1;have BW:=aA BB;have hpos:=h.p;have hnn:=h.n;have HW:=aA hW;have HS0:=aA hs0;have HS1:=aA hs1;obtain ⟨⟨c0,c1,c2⟩,f0,f1,f2⟩:=dV H1.r;have d0:=(dV H2.r).1.1;have d1:=(dV H2.r).1.2.1;clear h H1 H2 NB NC ND B1 B2 BB ho hW hs0 hs1 CO hL;go_enter Tryz.func221,Tryz.ntmps221
 go_upto_region 1 with fail
 rw [HW.out];go_wp2_with fail
 go_region_law (first
  | (go_simp
     go_at_call 244
     refine C1.out.mono ?_;rintro e w2 ⟨hb2,ad,cc,rfl,hr⟩;have hb3:Below W.heap.size W w2:=⟨hb2.os,hb2.tape,hb2.output,hb2.size,hb2.block⟩;have H3:=aA (H.out.below hb3);have hz3:=hb3.size;have hzz:=HS0.out;have M0:=aA ((hb3.block w.heap.size (by omega)).trans N0.out);have B3:=aA (BV.out.trans (hb3.mono (by omega)));have ZZ:=aA hz3;have R3:=aA (show a8 W.heap.size w2 ad t.ks from hr);clear hb2 hb3 hr hz3 hzz)
  | (go_simp
     go_at_call 244
     refine C2.out.mono ?_;rintro e w2 ⟨hb2,ad,cc,rfl,hr⟩;have hb3:Below (W.alloc (ndG ⟨#[]⟩ ⟨#[]⟩ 0 none 0 0)).heap.size (W.alloc (ndG ⟨#[]⟩ ⟨#[]⟩ 0 none 0 0)) w2:=⟨hb2.os,hb2.tape,hb2.output,hb2.size,hb2.block⟩;have H3:=aA (G.out.below hb3);have hz3:=hb3.size;have hzz:=HS0.out;have hzy:=HS1.out;have M1:=aA ((hb3.block W.heap.size (by omega)).trans N1.out);have M0:=aA ((hb3.block w.heap.size (by omega)).trans N2.out);have B3:=aA (BW.out.trans (hb3.mono (by omega)));have ZZ:=aA hz3;obtain ⟨⟨n0,n1,n2,n3⟩,z0,z1,z2,z3⟩:=aL M1.out;have R3:=aA (show a8 (W.alloc (ndG ⟨#[]⟩ ⟨#[]⟩ 0 none 0 0)).heap.size w2 ad t.ks from hr);clear hb2 hb3 hr hz3 hzz hzy)
  | fail)
 all_goals first
  | (skip
     have BA:=bA0 w2 (ndG t.op t.nm t.n ad t.ks.len cc);have K3:=aA (H3.out.below BA);have B4:=aA (show Below w.heap.size w (w2.alloc (ndG t.op t.nm t.n ad t.ks.len cc)) from B3.out.alloc (by have:=ZZ.out;have:=HS0.out;omega) _);have N4:=aA (heap_alloc_new w2 (ndG t.op t.nm t.n ad t.ks.len cc));have M4:=aA ((BA.block w.heap.size (by have:=ZZ.out;have:=HS0.out;omega)).trans M0.out);have R4:=aA ((R3.out.kept BA).mono (show w.heap.size+1<=W.heap.size by have:=HS0.out;omega));have hzw:w.heap.size+1<=(w2.alloc (ndG t.op t.nm t.n ad t.ks.len cc)).heap.size:=by rw [World.size_alloc];have:=ZZ.out;have:=HS0.out;omega
     have ZX:=aA hzw;clear BA hzw;generalize hX:w2.alloc (ndG t.op t.nm t.n ad t.ks.len cc)=X at K3 B4 N4 M4 ZX R4;generalize hBX:w2.heap.size=BX at N4;have HX:=aA hX;have HBX:=aA hBX;have LX:=aA (show w.heap.size<BX by have:=ZZ.out;have:=HS0.out;omega);clear hX hBX C1 C2 c0 c1 c2 f0 f1 f2 d0 d1;go_upto_region 4 with fail
     obtain ⟨⟨c0,c1,c2⟩,f0,f1,f2⟩:=dV K3.out.r;have K5:=aA ((K3.out.setP q hq).setE er);have KS:=aA (((aD.refl (· = rb) X).setCell (p:=⟨rb,1,none⟩) (.inl rfl) (.int .i64 (q:Nat))).setCell (p:=⟨rb,2,none⟩) (.inl rfl) (.int .i64 er));have N5:=aA (KS.out.heap N4.out (by have:=LX.out;omega));have M5:=aA (KS.out.heap M4.out (by omega));have R5:=aA (R4.out.keptS KS.out (fun k hk=>by omega));go_upto_region 5 with fail
     obtain ⟨⟨n0,n1,n2,n3⟩, -⟩:=aL N5.out;obtain ⟨⟨r0,r1,r2,r3⟩,z0,z1,z2,z3⟩:=aL M5.out;go_wp2_with fail
     have hk6:=j0 B4.out KS.out ZX.out;have P:=xV (cc:=cc) hrb K5.out hk6 R5.out;obtain ⟨⟨y0,y1,y2,y3⟩, -⟩:=aL (aU M5.out (.string t.op) (.string t.nm) (.int .i64 t.n) (.slice ad t.ks.len cc));exact bodyPost_ret (v:=cF t.op t.nm t.n ad t.ks.len cc) (by simp [results,Tryz.results221,go_sem,y0,y1,y2,y3]) rfl ⟨ad,cc,rfl,P⟩)
  | (skip
     have KP:=eX w2 W.heap.size t.op t.nm t.n ad t.ks.len cc;have K3:=aA (H3.out.kept KP (fun k hk=>by have:=HS0.out;omega));have B4:=aA (B3.out.trans (KP.below (B:=w.heap.size) (fun b hb=>by have:=HS0.out;omega) (by have:=ZZ.out;have:=HS1.out;have:=HS0.out;omega)));have N4:=aA (yP M1.out t.op t.nm t.n ad t.ks.len cc);have M4:=aA (KP.heap M0.out (by have:=HS0.out;omega));have R4:=aA ((R3.out.keptS KP (fun k hk=>by have:=HS1.out;omega)).mono (show w.heap.size+1<=_ by have:=HS0.out;have:=HS1.out;omega));have hzw:w.heap.size+1<=(kL w2 W.heap.size t.op t.nm t.n ad t.ks.len cc).heap.size:=by have:=KP.size;have:=ZZ.out;have:=HS1.out;have:=HS0.out;omega
     have ZX:=aA hzw;clear KP hzw;obtain ⟨X,hX⟩:∃ X,kL w2 W.heap.size t.op t.nm t.n ad t.ks.len cc=X:=⟨_,rfl⟩;rw [hX] at K3 B4 N4 M4 ZX R4;have hX2:(((w2.setCell ⟨W.heap.size,0,none⟩ (.string t.op)).setCell ⟨W.heap.size,1,none⟩ (.string t.nm)).setCell ⟨W.heap.size,2,none⟩ (.int .i64 t.n)).setCell ⟨W.heap.size,3,none⟩ (.slice ad t.ks.len cc)=X:=hX;have LX:=aA (show w.heap.size<W.heap.size by have:=HS0.out;omega);rw [hX2];clear hX hX2 C1 C2 c0 c1 c2 f0 f1 f2 d0 d1 n0 n1 n2 n3 z0 z1 z2 z3;go_upto_region 4 with fail
     obtain ⟨⟨c0,c1,c2⟩,f0,f1,f2⟩:=dV K3.out.r;have K5:=aA ((K3.out.setP q hq).setE er);have KS:=aA (((aD.refl (· = rb) X).setCell (p:=⟨rb,1,none⟩) (.inl rfl) (.int .i64 (q:Nat))).setCell (p:=⟨rb,2,none⟩) (.inl rfl) (.int .i64 er));have N5:=aA (KS.out.heap N4.out (by have:=LX.out;omega));have M5:=aA (KS.out.heap M4.out (by omega));have R5:=aA (R4.out.keptS KS.out (fun k hk=>by omega));go_upto_region 5 with fail
     obtain ⟨⟨n0,n1,n2,n3⟩, -⟩:=aL N5.out;obtain ⟨⟨r0,r1,r2,r3⟩,z0,z1,z2,z3⟩:=aL M5.out;go_wp2_with fail
     have hk6:=j0 B4.out KS.out ZX.out;have P:=xV (cc:=cc) hrb K5.out hk6 R5.out;obtain ⟨⟨y0,y1,y2,y3⟩, -⟩:=aL (aU M5.out (.string t.op) (.string t.nm) (.int .i64 t.n) (.slice ad t.ks.len cc));exact bodyPost_ret (v:=cF t.op t.nm t.n ad t.ks.len cc) (by simp [results,Tryz.results221,go_sem,y0,y1,y2,y3]) rfl ⟨ad,cc,rfl,P⟩)
theorem qD (ts:List Tk) (hL:∀ t∈ts,cK t) (rb:Nat) (a:Option Addr) (c:Nat) (s:RS) (w:World) (h:PS ts rb a c s w) :
 Calls Tryz.prog 221 #[.pointer (some ⟨rb,0,none⟩)] w fun e w'=>∃ ad cc,e=.returned (cF (aZ ts s).1.op (aZ ts s).1.nm (aZ ts s).1.n ad (aZ ts s).1.ks.len cc)/\PS ts rb a c (aZ ts s).2 w'/\aD (· = rb) w w'/\a8 w.heap.size w' ad (aZ ts s).1.ks:=by
 by_cases hb:s.bad=0
 · have hp:s.pos<=ts.length:=by have:=h.p;rw [lB hb] at this;exact this
   obtain ⟨e1,e2,e3⟩:=Mz hb hp
   have hq:(ofN (ofL ts s.pos)).2.1<=ts.length:=by
    cases ho:ofL ts s.pos with
    | ok t q=>exact (rS hp).1 t q ho
    | bad q er=>exact ((rS hp).2 q er ho).1
   have h':PR ts rb a c s.pos 0 w:=by
    have:=h;unfold PS at this;rw [lB hb,hb] at this;exact this
   refine (Lr ts hL rb a c s.pos w h' (t:=(aZ ts s).1) (q:=atR (aZ ts s).2) (er:=(aZ ts s).2.bad) (by rw [e1,e2,e3]) (by rw [e2];exact hq)).mono fun e w' hh=>hh
 · rw [fT hb]
   exact FQ ts rb a c (atR s) s.bad w h hb
theorem vK {c:UInt8} {r:List UInt8} (h:bE c=true\/aV c=true):bD ⟨(c::r).toArray⟩ 0 0=none:=by
 have hc:¬ c=61/\¬ c=33/\¬ c=60/\¬ c=62:=by
  rcases h with h | h
  · unfold bE at h
    simp only [Bool.and_eq_true,decide_eq_true_eq] at h;refine ⟨?_,?_,?_,?_⟩ <;> (rintro rfl;revert h;decide)
  · unfold aV at h
    simp only [Bool.and_eq_true,decide_eq_true_eq] at h;refine ⟨?_,?_,?_,?_⟩ <;> (rintro rfl;revert h;decide)
 have hx:∀ (y:UInt8) (m:List UInt8),c ≠ y->¬ (⟨(c::r).toArray⟩:ByteArray)=⟨(y::m).toArray⟩:=fun y m hn e=>by
  have:=congrArg (fun z=>z.data.toList) e;simp at this;exact hn this.1
 unfold bD;rw [if_neg (hx 61 [] hc.1),if_neg (hx 33 [61] hc.2.1),if_neg (hx 60 [] hc.2.2.1),if_neg (hx 60 [61] hc.2.2.1),if_neg (hx 62 [] hc.2.2.2),if_neg (hx 62 [61] hc.2.2.2)]
def EW (t:Tk):Prop:=(bD ⟨t.text.toArray⟩ 0 0).isSome=true->t.kind=3
theorem Ms {l:List UInt8} {n:Nat} {k v:Int} (p:Nat) (hn:1<=n) (h:bU l=.tok k n v):EW ⟨k,l.take n,v,p⟩:=by
 intro ho;cases l with
 | nil=>cases h
 | cons c r =>
   obtain ⟨m,rfl⟩:∃ m,n=m+1:=⟨n-1,by omega⟩;simp only at ho |-
   rw [List.take_succ_cons] at ho;simp only [bU] at h;split at h
   · rename_i hc
     rw [vK (.inl hc)] at ho;cases ho
   · split at h
     · rename_i hd
       rw [vK (.inr hd)] at ho;cases ho
     · unfold iI at h
       split at h
       · cases h
       · injection h with h1
         exact h1.symm
theorem QE (l:List UInt8) (p:Nat):∀ ts,cL l p=.ok ts->∀ t∈ts,EW t:=by
 refine nP (C:=fun l p=>∀ ts,cL l p=.ok ts->∀ t∈ts,EW t) ?_ ?_ ?_ ?_ l.length l p (Nat.le_refl _)
 · intro p ts h
   rw [lJ] at h;cases h;intro t ht;cases ht
 · intro r p ih ts h
   rw [fH] at h;exact ih ts h
 · intro l p e h1 h0 hf ts h
   rw [qH h0 h1 hf] at h;cases h
 · intro l p k n v h1 h0 hf hn hl ih ts h
   rw [iC h1 hn hf] at h;obtain ⟨ts',h',rfl⟩:=zR h;intro t ht;rcases List.mem_cons.1 ht with rfl | ht
   · exact Ms p hn hf
   · exact ih ts' h' t ht
theorem Oy {l:List UInt8} {ts:List Tk} (h:gU l=.ok ts):∀ t∈ts,EW t:=by
 unfold gU at h;split at h
 · cases h
 · exact QE _ _ _ h
def opS (L:List Tk) (s:RS):RS:=goR (bT ((bK L (atR s)).kind == 3 && (bD ⟨(bK L (atR s)).text.toArray⟩ 0 0).isSome) 2 s)
theorem Pn {L:List Tk} (hO:∀ t∈L,EW t) (s:RS):(aZ L (opS L (aZ L s).2)).2=(bV L s).2 /\
 ((bV L s).2.bad=0->(bV L s).1=⟨⟨(bK L (atR (aZ L s).2)).text.toArray⟩,(aZ L s).1,(aZ L (opS L (aZ L s).2)).1⟩):=by
 unfold bV;obtain ⟨t,u,hu⟩:∃ t u,aZ L s=(t,u):=⟨_,_,rfl⟩;rw [hu];simp only;by_cases hb:u.bad=0
 · rw [if_pos hb]
   have hop:opS L u=if opB L u.pos=true then aJ u else aM 2 u:=by
    unfold opS opB bK;rw [lB hb];cases hp:L[u.pos]? with
    | none =>
      rw [if_neg (by decide)];show goR (bT false 2 u)=_;rw [iA,gN (dG (by decide) hb)]
    | some t =>
      simp only [Option.getD_some];by_cases ho:(bD ⟨t.text.toArray⟩ 0 0).isSome=true
      · have hk:(t.kind == 3)=true:=by rw [hO t (List.mem_of_getElem? hp) ho];rfl
        rw [if_pos ho,hk,Bool.true_and,ho,kV,Et hb]
      · have ho':(bD ⟨t.text.toArray⟩ 0 0).isSome=false:=by simpa using ho
        rw [if_neg ho,ho',Bool.and_false,iA,gN (dG (by decide) hb)]
   rw [hop];cases ho:opB L u.pos with
   | true =>
     rw [if_pos rfl,if_pos rfl];refine ⟨rfl,fun _=>?_⟩;rw [lB hb]
     have:dW L u.pos=(bK L u.pos).text:=by
      unfold dW bK;cases L[u.pos]? <;> rfl
     rw [this]
   | false =>
     rw [if_neg (by decide),if_neg (by decide),fT (dG (by decide) hb)];exact ⟨rfl,fun h=>absurd h (dG (by decide) hb)⟩
 · have e:opS L u=u:=by
    unfold opS;rw [iB hb,gN hb]
   rw [if_neg hb,e,fT hb];exact ⟨rfl,fun h=>absurd h hb⟩
abbrev cdP (d:CD) (a1:Option Addr) (c1:Nat) (a2:Option Addr) (c2:Nat):Obj:=.cells #[.string d.op,.string d.a.op,.string d.a.nm,.int .i64 d.a.n,.slice a1 d.a.ks.len c1,.string d.b.op,.string d.b.nm,.int .i64 d.b.n,.slice a2 d.b.ks.len c2] 144
abbrev Re (W:World) (B:Nat) (d:CD) (a1:Option Addr) (c1:Nat) (a2:Option Addr) (c2:Nat):World:=((((((((W.setCell ⟨B,0,none⟩ (.string d.op)).setCell ⟨B,1,none⟩ (.string d.a.op)).setCell ⟨B,2,none⟩ (.string d.a.nm)).setCell ⟨B,3,none⟩ (.int .i64 d.a.n)).setCell ⟨B,4,none⟩ (.slice a1 d.a.ks.len c1)).setCell ⟨B,5,none⟩ (.string d.b.op)).setCell ⟨B,6,none⟩ (.string d.b.nm)).setCell ⟨B,7,none⟩ (.int .i64 d.b.n)).setCell ⟨B,8,none⟩ (.slice a2 d.b.ks.len c2)
theorem Jf (W:World) (B:Nat) (d:CD) (a1:Option Addr) (c1:Nat) (a2:Option Addr) (c2:Nat):aD (· = B) W (Re W B d a1 c1 a2 c2) :=
 ((((((((((aD.refl (· = B) W).setCell (p:=⟨B,0,none⟩) (.inl rfl) _).setCell (p:=⟨B,1,none⟩) (.inl rfl) _).setCell (p:=⟨B,2,none⟩) (.inl rfl) _).setCell (p:=⟨B,3,none⟩) (.inl rfl) _).setCell (p:=⟨B,4,none⟩) (.inl rfl) _).setCell (p:=⟨B,5,none⟩) (.inl rfl) _).setCell (p:=⟨B,6,none⟩) (.inl rfl) _).setCell (p:=⟨B,7,none⟩) (.inl rfl) _).setCell (p:=⟨B,8,none⟩) (.inl rfl) _)
theorem nB {W:World} {B:Nat} {l:List Value} {t:TypeId} (h:W.heap[B]? = some (.cells l.toArray t (0,0))) (i:Nat) (v:Value):(W.setCell ⟨B,i,none⟩ v).heap[B]? = some (.cells (l.set i v).toArray t (0,0)):=by
 have:=heap_setCell_same W B i _ t v h;simpa using this
theorem Lv {W:World} {B:Nat} {v0 v1 v2 v3 v4 v5 v6 v7 v8:Value} {t:TypeId} (h:W.heap[B]? = some (.cells #[v0,v1,v2,v3,v4,v5,v6,v7,v8] t (0,0))) (d:CD) (a1:Option Addr) (c1:Nat) (a2:Option Addr) (c2:Nat) :
 (Re W B d a1 c1 a2 c2).heap[B]? = some (.cells #[.string d.op,.string d.a.op,.string d.a.nm,.int .i64 d.a.n,.slice a1 d.a.ks.len c1,.string d.b.op,.string d.b.nm,.int .i64 d.b.n,.slice a2 d.b.ks.len c2] t (0,0)) :=
 nB (nB (nB (nB (nB (nB (nB (nB (nB (l:=[v0,v1,v2,v3,v4,v5,v6,v7,v8]) h 0 _) 1 _) 2 _) 3 _) 4 _) 5 _) 6 _) 7 _) 8 _
theorem MP (ts:List Tk) (hL:∀ t∈ts,cK t) (rb:Nat) (a:Option Addr) (c:Nat) (s:RS) (w:World) (h:PS ts rb a c s w) {t1 t2:TN} {s1 s4:RS} {X:ByteArray}
 (h1:aZ ts s=(t1,s1)) (h2:aZ ts (opS ts s1)=(t2,s4)) (hX:X=⟨(bK ts (atR s1)).text.toArray⟩) :
 Calls Tryz.prog 222 #[.pointer (some ⟨rb,0,none⟩)] w fun e w'=>∃ ad1 cc1 ad2 cc2,e=.returned (.agg #[.string X,.string t1.op,.string t1.nm,.int .i64 t1.n,.slice ad1 t1.ks.len cc1,.string t2.op,.string t2.nm,.int .i64 t2.n,.slice ad2 t2.ks.len cc2]) /\
  PS ts rb a c s4 w'/\aD (· = rb) w w'/\a8 w.heap.size w' ad1 t1.ks/\a8 w.heap.size w' ad2 t2.ks:=by
 have hrb:=h.lt;have B1:=bA0 w (cdP ⟨⟨#[]⟩,aC,aC⟩ none 0 none 0);have NB:=heap_alloc_new w (cdP ⟨⟨#[]⟩,aC,aC⟩ none 0 none 0);have hs0:(w.alloc (cdP ⟨⟨#[]⟩,aC,aC⟩ none 0 none 0)).heap.size=w.heap.size+1:=World.size_alloc _ _;have H1:=aA (h.below B1);have K1:=aA (aE B1 (· = rb));generalize hW:w.alloc (cdP ⟨⟨#[]⟩,aC,aC⟩ none 0 none 0)=W at *;have HW:=aA hW;have HNR:=aA NB;have CE1:=aA (qD ts hL rb a c s W H1.out);rw [h1] at CE1;have HC2:=aA h2;have HX:=aA hX;clear h B1 NB hW h1 h2 hX;go_enter Tryz.func222,Tryz.ntmps222
 go_upto_region 1 with fail
 rw [show w.alloc (.cells #[.string ⟨#[]⟩,.string ⟨#[]⟩,.string ⟨#[]⟩,.int .i64 0,.slice none 0 0,.string ⟨#[]⟩,.string ⟨#[]⟩,.int .i64 0,.slice none 0 0] 144)=W from HW.out];go_wp2_with fail
 refine CE1.out.mono ?_;rintro e w1 ⟨ad1,cc1,rfl,P2,k2,r2⟩;have BA:=bA0 w1 (ndG t1.op t1.nm t1.n ad1 t1.ks.len cc1);have NA:=heap_alloc_new w1 (ndG t1.op t1.nm t1.n ad1 t1.ks.len cc1);have hs1:(w1.alloc (ndG t1.op t1.nm t1.n ad1 t1.ks.len cc1)).heap.size=w1.heap.size+1:=World.size_alloc _ _;have hz1:=k2.size;have P3:=aA (P2.below BA);have K3:=aA ((K1.out.trans k2 (fun i hi _=>hi)).trans (aE BA (· = rb)) (fun i hi _=>hi));have NR3:=aA ((BA.block w.heap.size (by omega)).trans (k2.heap HNR.out (by omega)));have R3:=aA ((show a8 (w.heap.size+1) w1 ad1 t1.ks by rw [<- hs0];exact r2).kept BA);clear P2 k2 r2 BA CE1 HNR K1 H1;go_upto_region 2 with fail
 rw [show w1.alloc (.cells #[.string t1.op,.string t1.nm,.int .i64 t1.n,.slice ad1 t1.ks.len cc1] 67)=w1.alloc (ndG t1.op t1.nm t1.n ad1 t1.ks.len cc1) from rfl];generalize w1.alloc (ndG t1.op t1.nm t1.n ad1 t1.ks.len cc1)=W1 at *;generalize w1.heap.size=B at *;have hBw:w.heap.size<B:=by omega
 have HNB:=aA NA;have CN:=mL ts rb a c (atR s1) s1.bad W1 P3.out;have TL:(bK ts (atR s1)).kind=3->atR s1<ts.length:=fun hk=>Bz (by rw [hk];decide)
 have hX:=HX.out;have h2:=HC2.out;unfold opS at h2;obtain ⟨t,ht⟩:∃ t,bK ts (atR s1)=t:=⟨_,rfl⟩;rw [ht] at CN TL hX h2;rw [sH, <- hX] at CN;rw [<- hX] at h2;obtain ⟨k,s',nn,pp⟩:=t;simp only at CN TL h2;have HN:=aA CN;have HT:=aA TL;have HC:=aA h2;clear CN TL h2 hX ht HX HC2 NA hz1;go_wp2_with fail
 refine HN.out.mono ?_;rintro e w2 ⟨rfl,hb⟩;have BA:=bA0 w2 (tkO k X nn pp);have NA:=heap_alloc_new w2 (tkO k X nn pp);have hs2:(w2.alloc (tkO k X nn pp)).heap.size=w2.heap.size+1:=World.size_alloc _ _;have hz2:=hb.size;have P4:=aA ((P3.out.below hb).below BA);have K4:=aA ((K3.out.trans (aE hb (· = rb)) (fun i hi _=>hi)).trans (aE BA (· = rb)) (fun i hi _=>hi));have NR4:=aA ((BA.block w.heap.size (by omega)).trans ((hb.block w.heap.size (by omega)).trans NR3.out));have NB4:=aA ((BA.block B (by omega)).trans ((hb.block B (by omega)).trans HNB.out));have R4:=aA ((R3.out.kept hb).kept BA);clear hb BA P3 K3 NR3 HNB R3 HN;go_upto_region 3 with fail
 generalize w2.alloc (tkO k X nn pp)=W2 at *;generalize w2.heap.size=T at *;have hTB:B<T:=by omega
 obtain ⟨⟨x0,x1,x2,x3⟩, -⟩:=aL NA;have HNT:=aA NA;clear NA hz2;have CM:=aA (fun so=>gS ts rb a c s1 so 2 (by decide) W2 P4.out);obtain ⟨z,hz⟩:∃ z,((k == 3) && (bD X 0 0).isSome)=z:=⟨_,rfl⟩;rw [hz] at HC;have HZ:=aA hz
 have CS:=aA (fun V (hV:PS ts rb a c (bT z 2 s1) V)=>jY ts rb a c (bT z 2 s1) (fun hh=>by
  rw [jC];have h2:=lI (by decide) hh;have h3:=HZ.out;rw [h2.1,Bool.and_eq_true] at h3;have:=HT.out (by simpa using h3.1);rw [lB h2.2] at this;exact this) V hV)
 clear hz;go_cut [] (fun wc=>Hid (PS ts rb a c (bT z 2 s1) wc)/\Hid (aD (· = rb) W2 wc))
 case first =>
  cases hk3:(k == 3) with
  | true =>
    have q:(k == 3)=true:=hk3;have MO:=aA (AJ X W2);have hz:(bD X 0 0).isSome=z:=by rw [<- HZ.out,hk3,Bool.true_and]
    rw [hz] at MO;clear hk3 hz;go_wp2_with fail
    refine MO.out.mono ?_;rintro e w3 ⟨rfl,rfl⟩;go_wp2_with fail
    refine (CM.out z).mono ?_;rintro e w4 ⟨rfl,P5,k5⟩;have P6:=aA P5;have K6:=aA k5;clear P5 k5;go_wp2_with fail
    go_meet;case rel=>exact ⟨P6,K6⟩
  | false =>
    have q:(k == 3)=false:=hk3;have hz:false=z:=by rw [<- HZ.out,hk3,Bool.false_and]
    subst hz;clear hk3;go_wp2_with fail
    refine (CM.out false).mono ?_;rintro e w4 ⟨rfl,P5,k5⟩;have P6:=aA P5;have K6:=aA k5;clear P5 k5;go_wp2_with fail
    go_meet;case rel=>exact ⟨P6,K6⟩
 case rest =>
  obtain ⟨P5,K5⟩:=hcut;clear x0 x1 x2 x3 CM;go_wp2_with fail
  refine (CS.out _ P5.out).mono ?_;rintro e w4 ⟨rfl,P6,k6⟩;have hz5:=Nat.le_trans K5.out.size k6.size;have PD:=aA (show PS ts rb a c (goR (bT z 2 s1)) w4.drew from P6.drewN 1);have KD:=aA (show aD (· = rb) w w4.drew from ((K4.out.trans K5.out (fun i hi _=>hi)).trans k6 (fun i hi _=>hi)).drewN 1);have NT5:=k6.heap (K5.out.heap HNT.out (by omega)) (by omega);have NB5:=k6.heap (K5.out.heap NB4.out (by omega)) (by omega);have NR5:=k6.heap (K5.out.heap NR4.out (by omega)) (by omega);have NTD:=aA (show w4.drew.heap[T]? = _ from NT5);have NBD:=aA (show w4.drew.heap[B]? = _ from NB5);have NRD:=aA (show w4.drew.heap[w.heap.size]? = _ from NR5);have RD:=aA (show a8 (w.heap.size+1) w4.drew ad1 t1.ks from (R4.out.keptS K5.out (fun k hk=>by omega)).keptS (k6.drewN 1) (fun k hk=>by omega));have HZ5:=aA (show w.heap.size+1<=w4.drew.heap.size by show _<=w4.heap.size;omega)
  have CE:=aA (fun V (hV:PS ts rb a c (goR (bT z 2 s1)) V)=>by
   have:=qD ts hL rb a c _ V hV;rw [HC.out] at this;exact this)
  obtain ⟨⟨-,x1, -, -⟩, -⟩:=aL NT5;obtain ⟨⟨y0,y1,y2,y3⟩, -⟩:=aL NB5;clear P6 k6 NT5 NB5 NR5 P5 K5 CS P4 K4 NR4 NB4 R4 HNT hz5;go_upto_region 5 with fail
  refine wp_region_held_drew (S:=fun V=>V.cell? ⟨T,1,none⟩=some (.string X)/\V.cell? ⟨B,0,none⟩=some (.string t1.op)/\V.cell? ⟨B,1,none⟩=some (.string t1.nm)/\V.cell? ⟨B,2,none⟩=some (.int .i64 t1.n)/\V.cell? ⟨B,3,none⟩=some (.slice ad1 t1.ks.len cc1)) (by kernel_rfl) ⟨x1,y0,y1,y2,y3⟩ (fun hHeld=>?_);refine aB (i:=0) (d:=some 21) (v:=.pointer (some ⟨T,1,none⟩)) rfl rfl (by kernel_rfl) (by kernel_rfl) (by kernel_rfl) (fun _ _ _ h=>h) (Or.inl ⟨by rfl,by rintro w ⟨x1,y0,y1,y2,y3⟩;go_simp⟩) hHeld ?_;simp only [Act.put,Sf,Sg,Sh];refine aB (i:=1) (d:=some 22) (v:=.string X) rfl rfl (by kernel_rfl) (by kernel_rfl) (by kernel_rfl) (fun _ _ _ h=>h) (Or.inl ⟨by rfl,by rintro w ⟨x1,y0,y1,y2,y3⟩;go_simp⟩) hHeld ?_;simp only [Act.put,Sf,Sg,Sh];refine aB (i:=2) (d:=some 23) (v:=cF t1.op t1.nm t1.n ad1 t1.ks.len cc1) rfl rfl (by kernel_rfl) (by kernel_rfl) (by kernel_rfl) (fun _ _ _ h=>h) (Or.inl ⟨by rfl,by rintro w ⟨x1,y0,y1,y2,y3⟩;go_simp⟩) hHeld ?_;simp only [Act.put,Sf,Sg,Sh];refine aB (i:=3) (d:=some 24) (v:=.pointer (some ⟨rb,0,none⟩)) rfl rfl (by kernel_rfl) (by kernel_rfl) (by kernel_rfl) (fun _ _ _ h=>h) (Or.inl ⟨by rfl,by rintro w ⟨x1,y0,y1,y2,y3⟩;go_simp⟩) hHeld ?_;simp only [Act.put,Sf,Sg,Sh];refine wpAnyH_ready (rs:=[4]) (by kernel_rfl) (by simp) ?_;refine AllReadyH.cons (o:=_) rfl (fun K hK=>?_) AllReadyH.nil;go_simp
  refine (CE.out _ PD.out).mono ?_;rintro e w5 ⟨ad2,cc2,rfl,P6,k6,r6⟩;have NT6:=k6.heap NTD.out (by omega);have NB6:=k6.heap NBD.out (by omega);have NR6:=k6.heap NRD.out (by omega);have K6:=KD.out.trans k6 (fun i hi _=>hi);have R16:=RD.out.keptS k6 (fun k hk=>by omega)
  have cc:w5.cell? ⟨T,1,none⟩=some (.string X)/\w5.cell? ⟨B,0,none⟩=some (.string t1.op)/\w5.cell? ⟨B,1,none⟩=some (.string t1.nm)/\w5.cell? ⟨B,2,none⟩=some (.int .i64 t1.n)/\w5.cell? ⟨B,3,none⟩=some (.slice ad1 t1.ks.len cc1):=by
   obtain ⟨⟨-,u1, -, -⟩, -⟩:=aL NT6;obtain ⟨⟨v0,v1,v2,v3⟩, -⟩:=aL NB6;exact ⟨u1,v0,v1,v2,v3⟩
  refine hK.out _ _ cc (fun hHeld2=>?_);try simp only [Act.put,Sf,Sg,Sh]
  clear hK K;refine aB (i:=5) (d:=some 26) (v:=.agg #[.string X,.string t1.op,.string t1.nm,.int .i64 t1.n,.slice ad1 t1.ks.len cc1,.string t2.op,.string t2.nm,.int .i64 t2.n,.slice ad2 t2.ks.len cc2]) rfl rfl (by kernel_rfl) (by kernel_rfl) (by kernel_rfl) (fun _ _ _ h=>h) (Or.inl ⟨by rfl,by rintro w ⟨x1,y0,y1,y2,y3⟩;go_simp⟩) hHeld2 ?_;simp only [Act.put,Sf,Sg,Sh];have KP:=Jf w5 w.heap.size ⟨X,t1,t2⟩ ad1 cc1 ad2 cc2;have NR7:=Lv NR6 ⟨X,t1,t2⟩ ad1 cc1 ad2 cc2;obtain ⟨z0,z1,z2,z3,z4,z5,z6,z7,z8⟩:=vD NR6;obtain ⟨o0,o1,o2,o3,o4,o5,o6,o7,o8⟩:=gT NR6;have CC:=And.intro (KP.cell hHeld2.1 (by show ¬ T=_;omega)) (And.intro (KP.cell hHeld2.2.1 (by show ¬ B=_;omega)) (And.intro (KP.cell hHeld2.2.2.1 (by show ¬ B=_;omega)) (And.intro (KP.cell hHeld2.2.2.2.1 (by show ¬ B=_;omega)) (KP.cell hHeld2.2.2.2.2 (by show ¬ B=_;omega)))));refine wpAnyH_ready (rs:=[6]) (by kernel_rfl) (by simp) ?_;refine AllReadyH.cons (o:=_) rfl (fun K hK=>?_) AllReadyH.nil;go_simp
  refine hK.out _ _ CC (fun hHeld3=>?_);try simp only [Act.put,Sf,Sg,Sh]
  clear hK K;refine wpAnyH_done (by kernel_rfl) ?_ _;have FIN:=aA (And.intro (P6.kept KP (fun k hk=>by omega)) (And.intro (K6.trans (KP.mono (T:=fun i=>w.heap.size<=i) (fun i hi _=>by omega)) (fun i hi hl=>by omega)) (And.intro ((R16.keptS KP (fun k hk=>by omega)).mono (show w.heap.size<=w.heap.size+1 by omega)) ((r6.keptS KP (fun k hk=>by have:=HZ5.out;omega)).mono (show w.heap.size<=_ by have:=HZ5.out;omega)))));obtain ⟨d0,d1,d2,d3,d4,d5,d6,d7,d8⟩:=gT NR7;clear hHeld hHeld2 hHeld3 CC cc KP NT6 NB6 NR6 NR7 K6 R16 P6 k6 r6 z0 z1 z2 z3 z4 z5 z6 z7 z8 o0 o1 o2 o3 o4 o5 o6 o7 o8;go_wp2
  exact bodyPost_ret (v:=.agg #[.string X,.string t1.op,.string t1.nm,.int .i64 t1.n,.slice ad1 t1.ks.len cc1,.string t2.op,.string t2.nm,.int .i64 t2.n,.slice ad2 t2.ks.len cc2]) (by simp [results,Tryz.results222,go_sem,d0,d1,d2,d3,d4,d5,d6,d7,d8]) rfl ⟨ad1,cc1,ad2,⟨cc2,rfl⟩,FIN.out⟩
theorem JW (ts:List Tk) (hL:∀ t∈ts,cK t) (hO:∀ t∈ts,EW t) (rb:Nat) (a:Option Addr) (c:Nat) (s:RS) (w:World) (h:PS ts rb a c s w) :
 Calls Tryz.prog 222 #[.pointer (some ⟨rb,0,none⟩)] w fun e w'=>∃ (d:CD) (ad1:Option Addr) (cc1:Nat) (ad2:Option Addr) (cc2:Nat),e=.returned (.agg #[.string d.op,.string d.a.op,.string d.a.nm,.int .i64 d.a.n,.slice ad1 d.a.ks.len cc1,.string d.b.op,.string d.b.nm,.int .i64 d.b.n,.slice ad2 d.b.ks.len cc2]) /\
  PS ts rb a c (bV ts s).2 w'/\aD (· = rb) w w'/\a8 w.heap.size w' ad1 d.a.ks/\a8 w.heap.size w' ad2 d.b.ks/\((bV ts s).2.bad=0->(bV ts s).1=d):=by
 obtain ⟨h1,h2⟩:=Pn hO s;refine (MP ts hL rb a c s w h (t1:=(aZ ts s).1) (s1:=(aZ ts s).2) (t2:=(aZ ts (opS ts (aZ ts s).2)).1) (s4:=(aZ ts (opS ts (aZ ts s).2)).2) rfl rfl rfl).mono ?_;rintro e w' ⟨ad1,cc1,ad2,cc2,he,hp,hk,r1,r2⟩;rw [h1] at hp;exact ⟨⟨_,_,_⟩,ad1,cc1,ad2,cc2,he,hp,hk,r1,r2,h2⟩
end
end Go.Proofs.YtgfkjkokmcejbaaGreatDoor
