/-
 No statement: what ProgTextsLift needs, of the texts ZPAny, ZPMath, ZPCut, ZPIdx, ORead, OName, ONode, OCond.
-/
import Derived.Test.YtgfkjkokmcejbaaGreatDoorVX16
import Derived.Laws.RangeAny
import Derived.Lib.OthersKept
import Derived.Laws.Runes
import Derived.Lib.SpaceUEq
import Derived.Lib.IndexAny
import Derived.WalkMore
import Derived.Lib.CutLaws
import Derived.Lib.SlTrimSet
import Derived.Lib.IndexMore
import Derived.Lib.IndexBytes
import Derived.Lib.TrimByte
set_option maxHeartbeats 40000000
set_option maxRecDepth 100000
open List renaming length_append -> Tb, length_cons -> Te, length_take -> Th, mem_iff_getElem -> Tn
open Go.World renaming size_alloc -> Tc
open Nat renaming le_refl -> Td
open Go.Lib renaming toList_data -> Tm
namespace Go.Proofs.YtgfkjkokmcejbaaGreatDoor
open Go.RowKit Tryz
theorem FG (s:Tr) (i:Nat) (m:i<s.size):((s[i]'m).toNat<128/\Utf8.decode s i=((s[i]'m).toNat,1))\/(128<=(Utf8.decode s i).1/\1<=(Utf8.decode s i).2/\i+(Utf8.decode s i).2<=s.size/\∀ (k:Nat) b,k<(Utf8.decode s i).2->s.data.toList[i+k]? = some b->128<=b.toNat):=by
 have g:s.get! i=s[i]'m:=by simp [ByteArray.get!,getElem!_pos,m];rfl
 by_cases h:(s[i]'m).toNat<128
 · exact .inl ⟨h,by rw [Lib.decode_at,g,Lib.decodeN_ascii _ _ _ _ _ h]⟩
 · right
   have n:∀ k b,s.data.toList[i+k]? = some b->s.get! (i+k)=b:=fun k b c=>by
    have a:i+k<s.size:=by have:=(List.getElem?_eq_some_iff.1 c).1;simpa using this
    have:=(List.getElem?_eq_some_iff.1 c).2;rw [<- this];simp [ByteArray.get!,getElem!_pos,a]
   have l:=Lib.decodeN_conts (s.size-i) (s.get! i).toNat (s.get! (i+1)).toNat (s.get! (i+2)).toNat (s.get! (i+3)).toNat;have j:=Lib.decodeN_ge1 (s.size-i) (s.get! i).toNat (s.get! (i+1)).toNat (s.get! (i+2)).toNat (s.get! (i+3)).toNat;have d:=Lib.decodeN_cases (s.size-i) (s.get! i).toNat (s.get! (i+1)).toNat (s.get! (i+2)).toNat (s.get! (i+3)).toNat;rw [<- Lib.decode_at] at l j d;obtain ⟨c1,c2,c3,c4⟩:=l;refine ⟨?_,j,?_,fun k b a c=>?_⟩
   · rw [g] at d
     rcases d with ⟨q, -⟩ | ⟨-, -, -,q,e⟩ | ⟨-, -, -, -,q,e⟩ | ⟨q, -⟩ | e
     · exact absurd q h
     · rw [e];exact q
     · rw [e];show 128<=_;omega
     · omega
     · rw [e];decide
   · omega
   · have f:=n k b c
     rw [<- f];match k,a with
     | 0,_=>rw [Nat.add_zero,g];omega
     | 1,a=>have:=(c1 (by omega)).1;omega
     | 2,a=>have:=(c2 (by omega)).1;omega
     | 3,a=>have:=(c3 (by omega)).1;omega
     | k+4,a=>omega
theorem QG (j:Nat) (h:j<2):((⟨#[32,61]⟩:Tr)[j]'h).toNat<128:=by
 match j,h with
 | 0,_=>show (32:UInt8).toNat<128;decide
 | 1,_=>show (61:UInt8).toNat<128;decide
/-- strings.IndexRune of a rune beyond these, in a blank and a sign. -/
theorem Lx (r:Int) (u:128<=r) (w:World):Calls prog 171 #[.string ⟨#[32,61]⟩,.int .i32 r] w fun e w'=>e=.returned (.int .i64 (-1))/\Below w.heap.size w w':=by
 have D:¬ r<128:=by omega
 have C:(0:Int)<=r:=by omega
 obtain ⟨S,b⟩:∃ S:Tr,(⟨#[32,61]⟩:Tr)=S:=⟨_,rfl⟩;have hz:S.size=2:=by rw [<- b];rfl
 have n:∀ (j:Nat) (h:j<S.size),(S[j]'h).toNat<128:=by
  subst b;exact QG
 rw [b];by_cases o:r=65533
 · subst o
   clear D C u b;have U:=aA n;clear n;go_enter func171,ntmps171
   go_wp2_with fail
   go_loopg [5,6] 2 (fun g _ _ B=>∃ i:Nat,i+g=2/\B=w.iter S i)
   case atStart=>exact ⟨0,by omega,rfl⟩
   case round =>
    obtain ⟨i,M,rfl⟩:=hrel;cases gk with
    | zero =>
      obtain rfl:i=2:=by omega
      have k:=fun ty=>run_next_end (P:=prog) w S 2 ty (by omega)
      go_wp2_with fail
      go_ret;exact ⟨rfl,bA0 _ _⟩
    | succ g =>
      have A:i<S.size:=by omega
      have a:=U.out i A;have k:=fun ty=>run_next_ascii (P:=prog) w S i ty A a
      obtain ⟨x,hx⟩:∃ x:UInt8,S[i]'A=x:=⟨_,rfl⟩;rw [hx] at k a;have Z:((x.toNat:Int) == 65533)=false:=by rw [beq_eq_false_iff_ne];omega
      clear hx a;go_wp2_with fail
      go_roundg g
      case measure=>omega
      case rel=>exact ⟨i+1,by omega,rfl⟩
 · have Y:((r:Int) == 65533)=false:=by rw [beq_eq_false_iff_ne];exact o
   cases f:Lib.validRune r with
   | false =>
     have V:=aA (utf8_ValidRune r);rw [f] at V;clear o b n f u;go_enter func171,ntmps171
     go_wp2_with fail
     refine (V.out _).mono ?_;rintro e m ⟨rfl,rfl⟩;go_wp2_with fail
     go_ret;exact ⟨rfl,Below.refl _ _⟩
   | true =>
     have d:Utf8.valid r=true:=by
      have:=of_decide_eq_true f;unfold Utf8.valid;simp only [Bool.or_eq_true,Bool.and_eq_true,decide_eq_true_eq];omega
     obtain ⟨q,p,l⟩:=encode_facts r d u;have V:=aA (utf8_ValidRune r);rw [f] at V;obtain ⟨E,t⟩:∃ E,Utf8.encode r=E:=⟨_,rfl⟩;rw [t] at q p l;have c:=aA fun W=>run_convert_int_string (P:=prog) W 21 9 .i32 r (by rw [underlying21];rfl) underlying9
     rw [t] at c;clear t f d o;by_cases h3:3<=E.size
     · have c1:¬ ((E.size:Int)-1<(S.size:Int)):=by omega
       have z:wrap64 ((E.size:Int)-1)=(E.size:Int)-1:=by unfold wrap64;omega
       clear l p q n b;go_enter func171,ntmps171
       go_wp2_with fail
       refine (V.out _).mono ?_;rintro e m ⟨rfl,rfl⟩;have s:=c.out m;go_wp2_with fail
       go_step3
       go_wp2_with fail
       go_loop [9] (fun i=>i=.int .i64 ((E.size:Int)-1)) (fun _=>0)
       case atStart=>rw [z]
       case round =>
        subst hrel;go_wp2_with fail
        go_ret;exact ⟨rfl,Below.refl _ _⟩
     · have R:E.size=2:=by omega
       have O:1<E.size:=by omega
       obtain ⟨y,H⟩:∃ y:UInt8,E[1]'O=y:=⟨_,rfl⟩
       have G:128<=y.toNat:=by
        have:=l (by omega);simp only [R] at this;rw [<- H];exact this
       have c1:(E.size:Int)-1=1:=by omega
       have c2:(1:Int)<(S.size:Int):=by omega
       have c3:(2:Int)<=(S.size:Int):=by omega
       have c4:(0:Int)<=2:=by omega
       have c5:IntKind.i64.wrap 2=2:=by decide
       have z:wrap64 ((E.size:Int)-1)=1:=by unfold wrap64;omega
       have L:1<S.size:=by omega
       have T:S[1]'L=61:=by subst b;rfl
       have X:(61 != (y.toNat:Int))=true:=by rw [bne_iff_ne];omega
       clear l p q;go_enter func171,ntmps171
       go_wp2_with fail
       refine (V.out _).mono ?_;rintro e m ⟨rfl,rfl⟩;have s:=c.out m;go_wp2_with fail
       go_step3
       go_wp2_with fail
       go_loop [9] (fun i=>i=.int .i64 1) (fun _=>0)
       case atStart=>rfl
       case round =>
        subst hrel;go_wp2_with fail
        go_step3
        go_wp2_with fail
        go_quiet (fail)
        go_wp2_with fail
        go_quiet ((go_at_call 209;refine (strings_IndexByte _ _ _).mono ?_;rintro e w' ⟨N,I⟩;exact ⟨N,_,I⟩))
        rw [show Lib.indexByte ByteArray.empty.data.toList (↑y.toNat:Int).toNat.toUInt8= -1 from rfl];go_wp2_with fail
        rw [Exit.noGoto_ret];go_wp2_with fail
        rw [Exit.noGoto_ret];go_wp2_with fail
        go_ret;exact ⟨rfl,⟨rfl,rfl,rfl,Td _,fun _ _=>rfl⟩⟩
theorem NoAny.far {l a:Tq}:∀ (n:Nat) {i:Nat},Lib.NoAny l a i->i+n<=l.length->(∀ (k:Nat) b,k<n->l[i+k]? = some b->a.contains b=false)->Lib.NoAny l a (i+n)
 | 0,i,h,_,_=>h
 | n + 1, i, h, hl, hc => by
   have c:=(List.getElem?_eq_getElem (l:=l) (i:=i) (by omega));have f:=h.succ c (hc 0 _ (by omega) (by rw [Nat.add_zero];exact c));have:=NoAny.far n f (by omega) (fun k b g d=>hc (k+1) b (by omega) (by rw [show i+(k+1)=i+1+k by omega];exact d));rw [show i+(n+1)=i+1+n by omega];exact this
theorem Qg {b:UInt8} (h:128<=b.toNat):([32,61]:Tq).contains b=false:=by
 have c:¬ b=32:=fun e=>by subst e;revert h;decide
 have a:¬ b=61:=fun e=>by subst e;revert h;decide
 simp [c,a]
theorem I8 (s:Tr) (h8:s.size<=8) (w:World):Calls prog 110 #[.string s,.string ⟨#[32,61]⟩] w fun e w'=>e=.returned (.int .i64 (Lib.indexAny s.data.toList [32,61]))/\Below w.heap.size w w':=by
 have t:decide ((8:Int)<(s.size:Int))=false:=decide_eq_false (by omega);have N:=aA (strings_shouldUseASCIISet s.size);rw [t] at N;have R:=aA (fun (r:Int) (h:128<=r) W=>Lx r h W);have O:=aA (fun (r:Int) (h0:0<=r) (z:r<128) W=>strings_IndexRune_ascii ⟨#[32,61]⟩ r W h0 z);have U:=aA (Below.refl w.heap.size w);clear t;obtain ⟨r,hr⟩:∃ r,Lib.indexAny s.data.toList [32,61]=r:=⟨_,rfl⟩;rw [hr];have T:=aA hr;clear hr;go_enter func110,ntmps110
 go_wp2_with fail
 refine (N.out _).mono ?_;rintro e c ⟨rfl,rfl⟩;go_wp2_with fail
 have M:=aA (show (c.iter s 0).heap[c.heap.size]? = some (.stringIter s 0)/\Below c.heap.size c (c.iter s 0) from ⟨World.iter_heap _ _ _,U.out.alloc (Td _) _⟩);clear U;go_loopg [9,10] s.size (fun g _ _ H=>∃ i:Nat,i+g=s.size/\Hid (H.heap[c.heap.size]? = some (.stringIter s i)/\Below c.heap.size c H)/\Hid (Lib.NoAny s.data.toList [32,61] i))
 case atStart=>exact ⟨0,by omega,M,aA (Lib.NoAny.zero _ _)⟩
 case round =>
  obtain ⟨i,Z,p,u⟩:=hrel;clear M;cases gk with
  | zero =>
    obtain rfl:i=s.size:=by omega
    have V:=fun ty=>Lib.run_next_end_at (P:=prog) wr c.heap.size s s.size ty p.out.1 (by omega)
    obtain rfl:r= -1:=by rw [<- T.out,Lib.indexAny_none (by rw [<- Lib.size_eq];exact u.out)]
    go_wp2_with fail
    go_ret;exact ⟨rfl,p.out.2⟩
  | succ g =>
    have A:i<s.size:=by omega
    have hd:=fun ty=>Lib.run_next_any_at (P:=prog) wr c.heap.size s i ty p.out.1 A
    have l:s.data.toList[i]? = some (s[i]'A):=Lib.data_getElem? s i A;obtain ⟨d,m⟩:∃ d,Utf8.decode s i=d:=⟨_,rfl⟩;have L:=FG s i A;rw [m] at L hd;have f:=aA (show (wr.iterAt c.heap.size s (i+d.2)).heap[c.heap.size]? = some (.stringIter s (i+d.2))/\Below c.heap.size c (wr.iterAt c.heap.size s (i+d.2)) from ⟨Lib.iterAt_heap _ _ _ _ _ p.out.1,Lib.below_iterAt p.out.2 (Td _) _ _⟩);clear p;rcases L with ⟨z,B⟩ | ⟨z,B,h3,I⟩
    · obtain ⟨x,hx⟩:∃ x:UInt8,s[i]'A=x:=⟨_,rfl⟩
      rw [hx] at z B l;subst B;have S:=aA l;have a:=Lib.contains_iff_indexByte [32,61] x;have n:((x.toNat:Int)).toNat.toUInt8=x:=by simp
      have o:=aA (fun W=>O.out (x.toNat:Int) (by omega) (by omega) W);rw [n] at o;clear hx l m;cases j:([32,61]:Tq).contains x with
      | false =>
        rw [j] at a;have X:¬ ((0:Int)<=Lib.indexByte [32,61] x):=of_decide_eq_false a.symm;have G:=aA j;clear a j;go_wp2_with fail
        refine (o.out _).mono ?_;rintro e y ⟨rfl,rfl⟩;go_wp2_with fail
        go_roundg g
        case measure=>omega
        case rel=>exact ⟨i+1,by omega,f,aA (u.out.succ S.out G.out)⟩
      | true =>
        rw [j] at a;have ja:(0:Int)<=Lib.indexByte [32,61] x:=of_decide_eq_true a.symm;obtain rfl:r=(i:Int):=by rw [<- T.out,Lib.indexAny_hit u.out S.out j]
        clear a j;go_wp2_with fail
        refine (o.out _).mono ?_;rintro e y ⟨rfl,rfl⟩;go_wp2_with fail
        go_ret;exact ⟨rfl,f.out.2⟩
    · have C:=aA (fun W=>R.out (d.1:Int) (by omega) W)
      have D:=aA (NoAny.far d.2 u.out (by rw [<- Lib.size_eq];exact h3) (fun k b Y q=>Qg (I k b Y q)));clear l m I u R O;go_wp2_with fail
      refine (C.out _).mono ?_;rintro e y ⟨rfl,q⟩;have E:=aA (show y.heap[c.heap.size]? = some (.stringIter s (i+d.2))/\Below c.heap.size c y from ⟨(q.block _ (by have:=(Array.getElem?_eq_some_iff.1 f.out.1).1;exact this)).trans f.out.1,f.out.2.trans (q.mono f.out.2.size)⟩);clear q f;go_wp2_with fail
      go_roundg (s.size-(i+d.2))
      case measure=>omega
      case rel=>exact ⟨i+d.2,by omega,E,D⟩
theorem Rd {l:Tq} {c:UInt8} {i:Nat} (h:Lib.occAt l [c] i=true):l[i]? = some c:=by
 unfold Lib.occAt at h;cases hd:l.drop i with
 | nil=>rw [hd] at h;simp at h
 | cons d r =>
   rw [hd] at h;have a:c=d:=by simpa [List.isPrefixOf] using h
   have:=List.getElem?_drop (xs:=l) (i:=i) (j:=0);rw [hd] at this;simpa [a] using this.symm
theorem Hr {l:Tq} {c:UInt8} {i:Nat} (h:Lib.occAt l [c] i=false):¬ l[i]? = some c:=by
 intro a;unfold Lib.occAt at h;have hl:i<l.length:=(List.getElem?_eq_some_iff.1 a).1;rw [List.drop_eq_getElem_cons hl] at h;rw [List.getElem?_eq_getElem hl] at a;rw [Option.some.inj a] at h;simp [List.isPrefixOf] at h
theorem J8 {l:Tq} (f:¬ l=[]):cE l=(Lib.cut l [10]).1::cE (Lib.cut l [10]).2.1:=by
 rcases Lib.index_spec l [10] with ⟨h,hn⟩ | ⟨i,h,m,ho,hn⟩
 · have e:Lib.cut l [10]=(l,[],false):=by unfold Lib.cut;rw [h,if_neg (by decide)]
   rw [e];refine yQ l f fun c j e=>?_
   subst e;obtain ⟨k,b,d⟩:=Tn.1 j;exact Hr (hn k (Nat.le_of_lt b)) (by rw [List.getElem?_eq_getElem b,d])
 · have e:Lib.cut l [10]=(l.take i,l.drop (i+1),true):=by
    unfold Lib.cut;rw [h,if_pos (by omega)];rfl
   rw [e];have a:=Rd ho;have hl:i<l.length:=(List.getElem?_eq_some_iff.1 a).1
   have hd:l=l.take i++10::l.drop (i+1):=by
    conv=>lhs;rw [<- List.take_append_drop i l]
    rw [List.drop_eq_getElem_cons hl];rw [List.getElem?_eq_getElem hl] at a;rw [Option.some.inj a]
   conv=>lhs;rw [hd]
   refine uO _ _ fun c j e=>?_
   subst e;obtain ⟨k,b,d⟩:=Tn.1 j;have g:k<i:=by rw [Th] at b;omega
   exact Hr (hn k g) (by
    rw [List.getElem_take] at d;rw [List.getElem?_eq_getElem (by omega),d])
theorem Qd (l:Tq) (a:¬ l=[]):(Lib.cut l [10]).1.length<=l.length/\(Lib.cut l [10]).2.1.length<l.length:=by
 have b:0<l.length:=by cases l with
  | nil=>exact absurd rfl a
  | cons _ _=>simp
 unfold Lib.cut;split
 · simp only [Th,List.length_drop,Te,List.length_nil];omega
 · exact ⟨Td _,b⟩
theorem No (c:UInt8):([32,61]:Tq).contains c= !eM c:=by
 unfold eM;by_cases h:c=32 <;> by_cases a:c=61 <;> simp_all
theorem Af:∀ l:Tq,Lib.indexAny l [32,61]=if (l.takeWhile eM).length=l.length then -1 else ((l.takeWhile eM).length:Int)
 | []=>rfl
 | c :: l => by
   rw [Lib.indexAny,No];cases a:eM c with
   | false =>
     rw [List.takeWhile_cons_of_neg (by simp [a])];simp
   | true =>
     rw [List.takeWhile_cons_of_pos a,Af l];simp only [Te,Nat.add_right_cancel_iff];by_cases h:(l.takeWhile eM).length=l.length
     · rw [if_pos h];simp [h]
     · rw [if_neg h]
       rw [if_neg (by simp),if_neg (by simp),if_neg h];simp
theorem MN {l a:Tq} (ha:l.dropWhile jS=a):fN l=if Lib.indexAny a [32,61]<1 then none else
 if Lib.hasPrefix ((a.drop (Lib.indexAny a [32,61]).toNat).dropWhile jS) [61]=true then some (a.take (Lib.indexAny a [32,61]).toNat,Lib.trimPrefix ((a.drop (Lib.indexAny a [32,61]).toNat).dropWhile jS) [61]) else none:=by
 unfold fN;simp only [ha];have f:=List.takeWhile_append_dropWhile (p:=eM) (l:=a);rw [Af];by_cases h:(a.takeWhile eM).length=a.length
 · rw [if_pos h,if_pos (show (-1:Int)<1 by decide)]
   have n:a.dropWhile eM=[]:=by
    have:=congrArg List.length f;rw [Tb] at this;exact List.eq_nil_of_length_eq_zero (by omega)
   rw [n];simp
 · rw [if_neg h]
   by_cases b:a.takeWhile eM=[]
   · rw [if_pos b,b,if_pos (by simp)]
   · have hp:0<(a.takeWhile eM).length:=List.length_pos_iff.2 b
     rw [if_neg b,if_neg (by omega),Int.toNat_natCast];obtain ⟨t,j⟩:∃ t,a.takeWhile eM=t:=⟨_,rfl⟩;obtain ⟨d,hd⟩:∃ d,a.dropWhile eM=d:=⟨_,rfl⟩;rw [j,hd] at f |-
     have m:a.drop t.length=d:=by rw [<- f];simp
     have k:a.take t.length=t:=by rw [<- f];simp
     rw [m,k];cases q:d.dropWhile jS with
     | nil=>simp [Lib.hasPrefix]
     | cons c r =>
       by_cases g:c=61
       · subst g
         simp [Lib.hasPrefix,Lib.trimPrefix]
       · have:Lib.hasPrefix (c::r) [61]=false:=by simp [Lib.hasPrefix,List.isPrefixOf,Ne.symm g]
         rw [this];simp only [Bool.false_eq_true,if_false];split
         · rename_i o hr
           cases hr;exact absurd rfl g
         · rfl
theorem LF (s:Tr) (f:s.size<=5000) (w:World):Calls prog 110 #[.string s,.string ⟨#[32,61]⟩] w fun e w'=>e=.returned (.int .i64 (Lib.indexAny s.data.toList [32,61]))/\Below w.heap.size w w':=by
 by_cases d:s.size<=8
 · exact I8 s d w
 · have hz:=zero_of_info (P:=prog) (t:=253) (v:=.agg (Array.replicate 256 (.bool false))) (n:=256) (by kernel_rfl)
   refine (strings_IndexAny_long hz.1 s ⟨#[32,61]⟩ w (by decide) (by omega) (by omega) (by decide) (fun j b c=>?_)).mono fun e w' ⟨a,hw⟩=>⟨a,?_⟩
   · match j,c with
     | 0,h=>cases h;decide
     | 1,h=>cases h;decide
   · subst hw
     exact (bA0 _ _).alloc (by rw [Tc];omega) _
theorem I3 (s:Tr) (k:s.size<=5000) (w:World):Calls prog 52 #[.string s,.string ⟨#[10]⟩] w fun e w'=>e=.returned (.tuple #[.string ⟨(Lib.cut s.data.toList [10]).1.toArray⟩,.string ⟨(Lib.cut s.data.toList [10]).2.1.toArray⟩,.bool (Lib.cut s.data.toList [10]).2.2])/\Below w.heap.size w w':=by
 have h:=aA (stringslite_Index_one s 10);rcases Lib.indexB_cases s ⟨#[10]⟩ with a | ⟨i,a,b⟩
 · obtain ⟨f,d,c⟩:=Lib.cutB_miss s ⟨#[10]⟩ a
   have g:Lib.indexByte s.data.toList 10= -1:=by rw [<- Lib.index_one];exact a
   rw [g] at h;change (⟨(Lib.cut s.data.toList [10]).1.toArray⟩:Tr)=_ at f;change (⟨(Lib.cut s.data.toList [10]).2.1.toArray⟩:Tr)=_ at d;change (Lib.cut s.data.toList [10]).2.2=_ at c;rw [f,d,c];clear a g f d c;go_enter func52,ntmps52
   go_wp2_with fail
   refine (h.out _).mono ?_;rintro e j ⟨rfl,rfl⟩;go_wp2_with fail
   go_ret3
   exact ⟨rfl,Below.refl _ _⟩
 · obtain ⟨f,d,c⟩:=Lib.cutB_hit s ⟨#[10]⟩ i a
   have g:Lib.indexByte s.data.toList 10=i:=by rw [<- Lib.index_one];exact a
   rw [g] at h;change (⟨(Lib.cut s.data.toList [10]).1.toArray⟩:Tr)=_ at f;change (⟨(Lib.cut s.data.toList [10]).2.1.toArray⟩:Tr)=s.extract (i+1) s.size at d;change (Lib.cut s.data.toList [10]).2.2=_ at c;change i+1<=s.size at b;rw [f,d,c];have c1:(0:Int) <= ↑i:=by omega
   have c2:(↑i:Int) <= ↑s.size:=by omega
   have c3:(0:Int) <= ↑i+1:=by omega
   have c4:(↑i+1:Int) <= ↑s.size:=by omega
   have m:IntKind.i64.wrap ((i:Int)+1)=(i:Int)+1:=IntWalk.i64_in _ (by omega);have l:((i:Int)+1).toNat=i+1:=by omega
   clear a g f d c;go_enter func52,ntmps52
   go_wp2_with fail
   refine (h.out _).mono ?_;rintro e j ⟨rfl,rfl⟩;go_wp2_with fail
   go_quiet (fail)
   go_wp2_with fail
   go_ret3
   exact ⟨rfl,⟨rfl,rfl,rfl,Td _,fun _ _=>rfl⟩⟩
theorem OX (s:Tr) (h:s.size<=5000) (w:World):Calls prog 27 #[.string s,.string ⟨#[10]⟩] w fun e w'=>e=.returned (.tuple #[.string ⟨(Lib.cut s.data.toList [10]).1.toArray⟩,.string ⟨(Lib.cut s.data.toList [10]).2.1.toArray⟩,.bool (Lib.cut s.data.toList [10]).2.2])/\Below w.heap.size w w':=by
 have g:=aA (I3 s h);obtain ⟨⟨a,b,c⟩,d⟩:∃ t,Lib.cut s.data.toList [10]=t:=⟨_,rfl⟩;rw [d] at g |-
 clear d;go_enter func27,ntmps27
 go_wp2_with fail
 refine (g.out _).mono ?_;rintro e k ⟨rfl,f⟩;have j:=aA f;clear f;go_wp2_with fail
 go_ret3
 exact ⟨rfl,j.out⟩
def Qp (o:Option (Tq×Tq)) (w:World) (e:Ending) (w':World):Prop:=Below w.heap.size w w'/\match o with
 | none=>∃ a b,e=.returned (.tuple #[.string a,.string b,.bool false])
 | some (n,r)=>e=.returned (.tuple #[.string ⟨n.toArray⟩,.string ⟨r.toArray⟩,.bool true])
theorem Lz (s:Tr) (T:s.size<=5000) (w:World):Calls prog 53 #[.string s] w (Qp (fN s.data.toList) w):=by
 obtain ⟨A,j⟩:∃ A:Tr,(⟨(Lib.trimLeftB s.data.toList 32).toArray⟩:Tr)=A:=⟨_,rfl⟩;have b:s.data.toList.dropWhile jS=A.data.toList:=by rw [<- j];rfl
 have r:A.size<=5000:=by
  have u:A.data.toList.length=A.size:=by simp
  have V:s.data.toList.length=s.size:=by simp
  have D:=congrArg List.length (List.takeWhile_append_dropWhile (p:=jS) (l:=s.data.toList));rw [Tb,b] at D;omega
 have x:=aA (strings_TrimLeft_one s 32 (by decide));rw [j] at x;have y:=aA (LF A (by omega));have c:=MN b;obtain ⟨i,d⟩:∃ i,Lib.indexAny A.data.toList [32,61]=i:=⟨_,rfl⟩;rw [d] at c y;obtain ⟨o,ho⟩:∃ o,fN s.data.toList=o:=⟨_,rfl⟩;rw [ho] at c |-
 by_cases u:i<1
 · rw [if_pos u] at c
   subst c;clear d j b r ho;go_enter func53,ntmps53
   go_wp2_with fail
   refine (x.out _).mono ?_;rintro e I ⟨rfl,rfl⟩;go_wp2_with fail
   refine (y.out _).mono ?_;rintro e H ⟨rfl,f⟩;have m:=aA f;clear f;go_wp2_with fail
   go_ret3
   exact ⟨m.out,_,_,rfl⟩
 · rw [if_neg u] at c
   obtain ⟨k,rfl⟩:∃ k:Nat,i=(k:Int):=⟨i.toNat,by omega⟩;rw [Int.toNat_natCast] at c
   have U:k<=A.size:=by
    have D:A.data.toList.length=A.size:=by simp
    rw [Af] at d;have L:=congrArg List.length (List.takeWhile_append_dropWhile (p:=eM) (l:=A.data.toList));rw [Tb] at L;split at d <;> omega
   have c1:(0:Int)<=(k:Int):=by omega
   have c2:(k:Int)<=(A.size:Int):=by omega
   obtain ⟨R,q⟩:∃ R:Tr,A.extract k A.size=R:=⟨_,rfl⟩
   have h:R.data.toList=A.data.toList.drop k:=by
    rw [<- q,Lib.extract_eq];show List.take _ _=_;exact List.take_of_length_le (by rw [List.length_drop, <- Lib.size_eq];exact Td _)
   have E:=aA (strings_TrimLeft_one R 32 (by decide));obtain ⟨S,n⟩:∃ S:Tr,(⟨(Lib.trimLeftB R.data.toList 32).toArray⟩:Tr)=S:=⟨_,rfl⟩;rw [n] at E;have g:(A.data.toList.drop k).dropWhile jS=S.data.toList:=by rw [<- n,h];rfl
   have G:=aA (strings_CutPrefix S ⟨#[61]⟩);change Hid (∀ w,Calls _ _ _ w fun e w'=>e=.returned (.tuple #[.string ⟨(Lib.trimPrefix S.data.toList [61]).toArray⟩,.bool (Lib.hasPrefix S.data.toList [61])])/\w'=w) at G;rw [g] at c;have C:A.extract 0 k=⟨(A.data.toList.take k).toArray⟩:=by rw [Lib.extract_eq];simp
   have M:=aA q;have N:=aA c;have z:=aA C;clear d j b ho h n g c C q;go_enter func53,ntmps53
   go_wp2_with fail
   refine (x.out _).mono ?_;rintro e I ⟨rfl,rfl⟩;go_wp2_with fail
   refine (y.out _).mono ?_;rintro e H ⟨rfl,f⟩;have m:=aA f;clear f;go_wp2_with fail
   rw [M.out];refine (E.out _).mono ?_;rintro e P ⟨rfl,rfl⟩;go_wp2_with fail
   refine (G.out _).mono ?_;rintro e O ⟨rfl,rfl⟩;go_wp2_with fail
   rw [z.out];obtain ⟨t,B⟩:∃ t,Lib.hasPrefix S.data.toList [61]=t:=⟨_,rfl⟩;rw [B];have a:=N.out;rw [B] at a;cases t with
   | true =>
     rw [if_pos rfl] at a;subst a;go_ret3
     exact ⟨m.out,rfl⟩
   | false =>
     rw [if_neg (by decide)] at a;subst a;go_ret3
     exact ⟨m.out,_,_,rfl⟩
abbrev lnC (x:LN) (p:PA):Array Value:=#[.string x.nm,.string x.a.fn,.int .i64 x.a.k,.string x.a.e.op,.string x.a.e.nm,.int .i64 x.a.e.n,.slice p.ea x.a.e.ks.len p.ec,.string x.a.g.op,.string x.a.g.nm,.int .i64 x.a.g.n,.slice p.ga x.a.g.ks.len p.gc,.slice p.wa x.a.wh.length p.wc]
abbrev lnV (x:LN) (p:PA):Value:=.agg (lnC x p)
abbrev lnO (x:LN) (p:PA):Obj:=.cells (lnC x p) 72
def fS:LN:=⟨⟨#[]⟩,aO⟩
theorem KM {W:World} {B:Nat} {x:LN} {p:PA} (h:W.heap[B]? = some (lnO x p)):oH W B 0 x p:=by
 refine ⟨?_,?_,?_,?_,?_,?_,?_,?_,?_,?_,?_,?_⟩ <;> simp [World.cell?,h]
abbrev dP (W:World) (B:Nat) (v0 v1 v2 v3 v4 v5 v6 v7 v8 v9 v10 v11:Value):World:=(((((((((((W.setCell ⟨B,0,none⟩ v0).setCell ⟨B,1,none⟩ v1).setCell ⟨B,2,none⟩ v2).setCell ⟨B,3,none⟩ v3).setCell ⟨B,4,none⟩ v4).setCell ⟨B,5,none⟩ v5).setCell ⟨B,6,none⟩ v6).setCell ⟨B,7,none⟩ v7).setCell ⟨B,8,none⟩ v8).setCell ⟨B,9,none⟩ v9).setCell ⟨B,10,none⟩ v10).setCell ⟨B,11,none⟩ v11
theorem zC {W:World} {B:Nat} {u0 u1 u2 u3 u4 u5 u6 u7 u8 u9 u10 u11:Value} {t:TypeId} (h:W.heap[B]? = some (.cells #[u0,u1,u2,u3,u4,u5,u6,u7,u8,u9,u10,u11] t (0,0))) (o n m l k j g f d c b a:Value):(dP W B o n m l k j g f d c b a).heap[B]? = some (.cells #[o,n,m,l,k,j,g,f,d,c,b,a] t (0,0)) :=
 (heap_setCell_same _ B 11 _ t a (heap_setCell_same _ B 10 _ t b (heap_setCell_same _ B 9 _ t c (heap_setCell_same _ B 8 _ t d (heap_setCell_same _ B 7 _ t f (heap_setCell_same _ B 6 _ t g (heap_setCell_same _ B 5 _ t j (heap_setCell_same _ B 4 _ t k (heap_setCell_same _ B 3 _ t l (heap_setCell_same _ B 2 _ t m (heap_setCell_same _ B 1 _ t n (heap_setCell_same W B 0 _ t o h)))))))))))).trans (by simp only [S7,S9,Ta])
theorem yY (W:World) (B:Nat) (n m l k j h g f d c b a:Value):aC (· = B) W (dP W B n m l k j h g f d c b a):=((((((((((((aC.refl (· = B) W).setCell (p:=⟨B,0,none⟩) (.inl rfl) n).setCell (p:=⟨B,1,none⟩) (.inl rfl) m).setCell (p:=⟨B,2,none⟩) (.inl rfl) l).setCell (p:=⟨B,3,none⟩) (.inl rfl) k).setCell (p:=⟨B,4,none⟩) (.inl rfl) j).setCell (p:=⟨B,5,none⟩) (.inl rfl) h).setCell (p:=⟨B,6,none⟩) (.inl rfl) g).setCell (p:=⟨B,7,none⟩) (.inl rfl) f).setCell (p:=⟨B,8,none⟩) (.inl rfl) d).setCell (p:=⟨B,9,none⟩) (.inl rfl) c).setCell (p:=⟨B,10,none⟩) (.inl rfl) b).setCell (p:=⟨B,11,none⟩) (.inl rfl) a
theorem nG {W:World} {B:Nat} {x:LN} {p:PA} (h:W.heap[B]? = some (lnO x p)):W.frozen? ⟨B,0,none⟩=false/\W.frozen? ⟨B,1,none⟩=false/\W.frozen? ⟨B,2,none⟩=false/\W.frozen? ⟨B,3,none⟩=false/\W.frozen? ⟨B,4,none⟩=false/\W.frozen? ⟨B,5,none⟩=false/\W.frozen? ⟨B,6,none⟩=false/\W.frozen? ⟨B,7,none⟩=false/\W.frozen? ⟨B,8,none⟩=false/\W.frozen? ⟨B,9,none⟩=false/\W.frozen? ⟨B,10,none⟩=false/\W.frozen? ⟨B,11,none⟩=false:=by
 refine ⟨?_,?_,?_,?_,?_,?_,?_,?_,?_,?_,?_,?_⟩ <;> simp [World.frozen?,h]
theorem oT {W:World} {B:Nat} (h:W.heap[B]? = some (lnO fS aI)):W.cell? ⟨B,0,none⟩=some (.string ⟨#[]⟩)/\W.cell? ⟨B,1,none⟩=some (.string ⟨#[]⟩)/\W.cell? ⟨B,2,none⟩=some (.int .i64 0)/\W.cell? ⟨B,3,none⟩=some (.string ⟨#[]⟩)/\W.cell? ⟨B,4,none⟩=some (.string ⟨#[]⟩)/\W.cell? ⟨B,5,none⟩=some (.int .i64 0)/\W.cell? ⟨B,6,none⟩=some (.slice none 0 0)/\W.cell? ⟨B,7,none⟩=some (.string ⟨#[]⟩)/\W.cell? ⟨B,8,none⟩=some (.string ⟨#[]⟩)/\W.cell? ⟨B,9,none⟩=some (.int .i64 0)/\W.cell? ⟨B,10,none⟩=some (.slice none 0 0)/\W.cell? ⟨B,11,none⟩=some (.slice none 0 0):=by
 refine ⟨?_,?_,?_,?_,?_,?_,?_,?_,?_,?_,?_,?_⟩ <;> simp [World.cell?,h,fS,aO,aI,aD,F.len]
structure KX (G:Nat->Prop) (w:World) (a:Tp) (l:List LN) (nb:Nat) (nm:Tr) (V:World):Prop where
 b:Below w.heap.size w V
 r:cQ G V a l
 n:V.heap[nb]? = some (.cells #[.string nm] 9 (0,0))
theorem KX.step {G:Nat->Prop} {w V V':World} {a:Tp} {l:List LN} {nb:Nat} {nm:Tr} (h:KX G w a l nb nm V) (c:Below V.heap.size V V'):KX G w a l nb nm V' :=
 ⟨h.b.trans (c.mono h.b.size),h.r.kept c,(c.block _ (aG h.n)).trans h.n⟩
theorem yI {W:World} {B:Nat} {v:Value} {t:TypeId} (h:W.heap[B]? = some (.cells #[v] t (0,0))):W.cell? ⟨B,0,none⟩=some v:=by simp [World.cell?,h]
theorem OY (x:LN) (p:PA) (nb:Nat) (nm:Tr) (w:World) (hn:w.heap[nb]? = some (.cells #[.string nm] 9 (0,0))):Calls prog 56 #[lnV x p,.pointer (some ⟨nb,0,none⟩)] w fun e w'=>e=.returned (.bool (x.nm.toList == nm.toList))/\Below w.heap.size w w':=by
 have b:=bA0 w (lnO x p);have c:=heap_alloc_new w (lnO x p);have n1:=yI ((b.block _ (aG hn)).trans hn);have f:=aG hn;generalize d:w.alloc (lnO x p)=W at b c n1;have h:=aA d;have l:=aA b;have j:=aA c;clear d b c hn;go_enter func56,ntmps56
 go_upto_region 1 with fail
 rw [show w.alloc (.cells #[.string x.nm,.string x.a.fn,.int .i64 x.a.k,.string x.a.e.op,.string x.a.e.nm,.int .i64 x.a.e.n,.slice p.ea x.a.e.ks.len p.ec,.string x.a.g.op,.string x.a.g.nm,.int .i64 x.a.g.n,.slice p.ga x.a.g.ks.len p.gc,.slice p.wa x.a.wh.length p.wc] 72)=W from h.out];obtain ⟨m, -⟩:=KM j.out;go_wp2_with fail
 go_ret;exact ⟨rfl,l.out⟩
theorem Sh {G:Nat->Prop} (l:List LN) (a:Tp) (c nb:Nat) (nm:Tr) (w:World) (hl:l.length<=100) (hr:cQ G w a l) (hn:w.heap[nb]? = some (.cells #[.string nm] 9 (0,0))) :
 Calls prog 114 #[.slice a l.length c,.func (.func 56) #[] #[.pointer (some ⟨nb,0,none⟩)]] w fun e w'=>∃ r:Int,e=.returned (.int .i64 r)/\decide (0<=r)=l.any (fun x=>x.nm.data.toList == nm.data.toList)/\Below w.heap.size w w':=by
 have L:=aA (show KX G w a l nb nm w from ⟨Below.refl _ _,hr,hn⟩);have SN:=aA (fun (x:LN) (p:PA) (V:World) (h:KX G w a l nb nm V)=>OY x p nb nm V h.n);obtain ⟨z,hz⟩:∃ z,l.any (fun x=>x.nm.data.toList == nm.data.toList)=z:=⟨_,rfl⟩;rw [hz];have M:=aA hz;clear hr hn hz;go_enter func114,ntmps114
 go_wp2_with fail
 go_loopw [8] (fun i wr=>∃ j:Nat,j<=l.length/\i=.int .i64 (j:Nat)/\Hid (∀ (t:Nat) y,t<j->l[t]? = some y->(y.nm.data.toList == nm.data.toList)=false)/\Hid (KX G w a l nb nm wr)) (fun i _=>l.length-(intOf i).toNat)
 case atStart=>exact ⟨0,Nat.zero_le _,rfl,aA (fun t y h _=>by omega),L⟩
 case round =>
  obtain ⟨j,hj,rfl,O,g⟩:=hrel;clear L;by_cases B:j<l.length
  · obtain ⟨x,hx⟩:∃ x,l[j]? = some x:=⟨_,List.getElem?_eq_getElem B⟩
    obtain ⟨b,off,p,s,ja,hG,⟨p0,p1,Z,Y,X,U,T,S,R,P,q,o⟩,u⟩:=g.out.r.at hx;subst s;have H:=aA (SN.out x p wr g.out);have b1:(j:Int)<(l.length:Int):=by omega
    have b2:(0:Int)<=(j:Int):=by omega
    have b3:((j:Int)).toNat=j:=by omega
    have N:=aA hx;clear u hx;go_wp2_with fail
    refine H.out.mono ?_;rintro e w2 ⟨rfl,E⟩;have I:=aA (g.out.step E);clear E H g p0 p1 Z Y X U T S R P q o;cases f:(x.nm.data.toList == nm.data.toList) with
    | true =>
      have m:(x.nm.toList == nm.toList)=true:=by rw [Tm,Tm];exact f
      have A:=aA (show decide ((0:Int)<=(j:Int))=z by
       rw [decide_eq_true b2, <- M.out];exact (List.any_eq_true.2 ⟨x,List.mem_of_getElem? N.out,f⟩).symm)
      clear f;rw [m];go_wp2_with fail
      go_ret;exact ⟨_,rfl,A.out,I.out.b⟩
    | false =>
      have m:(x.nm.toList == nm.toList)=false:=by rw [Tm,Tm];exact f
      have C:=aA (show ∀ (t:Nat) k,t<j+1->l[t]? = some k->(k.nm.data.toList == nm.data.toList)=false from fun t k D d=>by
       by_cases e:t=j
       · subst e
         rw [N.out] at d;cases d;exact f
       · exact O.out t k (by omega) d)
      clear f;rw [m];go_wp2_with fail
      go_roundw
      case rel=>exact ⟨j+1,by omega,by go_num,C,I⟩
      case measure=>simp [intOf];omega
  · have A:=aA (show decide ((0:Int) <= -1)=z by
     rw [decide_eq_false (by decide), <- M.out];symm;rw [List.any_eq_false];intro y hy;obtain ⟨t,D,e2⟩:=Tn.1 hy;rw [O.out t y (by omega) (by rw [List.getElem?_eq_getElem D,e2])];decide)
    have b1:¬ (j:Int)<(l.length:Int):=by omega
    go_wp2_with fail
    go_ret;exact ⟨_,rfl,A.out,g.out.b⟩
theorem Si {G:Nat->Prop} (l:List LN) (a:Tp) (c nb:Nat) (nm:Tr) (w:World) (hl:l.length<=100) (hr:cQ G w a l) (hn:w.heap[nb]? = some (.cells #[.string nm] 9 (0,0))) :
 Calls prog 55 #[.slice a l.length c,.func (.func 56) #[] #[.pointer (some ⟨nb,0,none⟩)]] w fun e w'=>e=.returned (.bool (l.any (fun x=>x.nm.data.toList == nm.data.toList)))/\Below w.heap.size w w':=by
 have I:=aA (Sh l a c nb nm w hl hr hn);obtain ⟨z,hz⟩:∃ z,l.any (fun x=>x.nm.data.toList == nm.data.toList)=z:=⟨_,rfl⟩;rw [hz] at I |-
 clear hr hn hz;go_enter func55,ntmps55
 go_wp2_with fail
 refine I.out.mono ?_;rintro e g ⟨r,rfl,hr,b⟩;have d:=aA hr;have f:=aA b;clear hr b I;go_wp2_with fail
 go_ret;exact ⟨by rw [<- d.out];rfl,f.out⟩
theorem QY (s:Tr) (b:s.size<=281474976710656) (w:World):Calls prog 58 #[.string s] w fun e w'=>e=.returned (.string s)/\Below w.heap.size w w':=by
 have C:=aA (stringslite_Clone s w b);go_enter func58,ntmps58
 go_wp2_with fail
 refine C.out.mono ?_;rintro e d ⟨rfl,a⟩;have c:=aA a;clear a C;go_wp2_with fail
 go_ret;exact ⟨rfl,c.out⟩
theorem QH (L:List Tk) (p:Nat):fB L p=bQ L p:=by unfold fB bQ;cases L[p]? <;> rfl
theorem Cc {L:List Tk} {p:Nat} (h:¬ (bQ L p).kind=0):p<L.length:=by
 rcases Nat.lt_or_ge p L.length with hp | hp
 · exact hp
 · exact absurd (by unfold bQ;rw [List.getElem?_eq_none hp];rfl) h
structure PR (ts:List Tk) (rb:Nat) (a:Tp) (c p:Nat) (er:Int) (w:World):Prop where
 r:w.heap[rb]? = some (.cells #[.slice a ts.length c,.int .i64 p,.int .i64 er] 202 (0,0))
 t:Dl rb w a ts
 p:p<=ts.length
 n:ts.length<=100000
abbrev PS (ts:List Tk) (rb:Nat) (a:Tp) (c:Nat) (s:RS) (w:World):Prop:=PR ts rb a c (atR s) s.bad w
section
variable {ts : List Tk} {rb : Nat} {a : Tp} {c p : Nat} {er : Int} {w w' : World}
theorem PR.kept (h:PR ts rb a c p er w) {S:Nat->Prop} (b:aC S w w') (d:∀ k,S k->rb<k):PR ts rb a c p er w' :=
 ⟨b.heap h.r (fun hs=>by have:=d rb hs;omega),h.t.kept b (fun k hs=>by have:=d k hs;omega),h.p,h.n⟩
theorem PR.below (h:PR ts rb a c p er w) (b:Below w.heap.size w w'):PR ts rb a c p er w' :=
 h.kept (aF b (fun _=>False)) (fun _ h=>h.elim)
theorem PR.lt (h:PR ts rb a c p er w):rb<w.heap.size:=aG h.r
theorem PR.setE (h:PR ts rb a c p er w) (e:Int):PR ts rb a c p e (w.setCell ⟨rb,2,none⟩ (.int .i64 e)):=by
 refine ⟨?_,h.t.kept ((aC.refl (· = rb) w).setCell (p:=⟨rb,2,none⟩) (.inl rfl) _) (fun k b=>by omega),h.p,h.n⟩;have:=heap_setCell_same w rb 2 _ 202 (.int .i64 e) h.r;simpa using this
theorem PR.setP (h:PR ts rb a c p er w) (q:Nat) (b:q<=ts.length):PR ts rb a c q er (w.setCell ⟨rb,1,none⟩ (.int .i64 (q:Nat))):=by
 refine ⟨?_,h.t.kept ((aC.refl (· = rb) w).setCell (p:=⟨rb,1,none⟩) (.inl rfl) _) (fun k d=>by omega),b,h.n⟩;have:=heap_setCell_same w rb 1 _ 202 (.int .i64 (q:Nat)) h.r;simpa using this
theorem PR.reads (h:PR ts rb a c p er w):fQ w a ts :=
 h.t.imp id fun ⟨b,off,e,hlt,hc⟩=>⟨b,off,e,Nat.lt_trans hlt h.lt,hc⟩
theorem PR.drewN (h:PR ts rb a c p er w) (n:Nat):PR ts rb a c p er (w.drewN n):=h.kept ((aC.refl (fun _=>False) w).drewN n) (fun _ h=>h.elim)
end
theorem mT (ts:List Tk) (rb:Nat) (a:Tp) (c p:Nat) (er:Int) (w:World) (h:PR ts rb a c p er w) :
 Calls prog 217 #[.pointer (some ⟨rb,0,none⟩)] w fun e w'=>e=.returned (tkG (bQ ts p))/\Below w.heap.size w w':=by
 rw [<- QH];have H:=h.p;have hn:=h.n;have j:=bA0 w (tkO 0 ⟨#[]⟩ 0 0);have g:=heap_alloc_new w (tkO 0 ⟨#[]⟩ 0 0);have l:=h.below j;have I:(w.alloc (tkO 0 ⟨#[]⟩ 0 0)).heap.size=w.heap.size+1:=Tc _ _;obtain ⟨⟨U,c1,c2⟩, -⟩:=d9 l.r;obtain ⟨⟨O,N,M,L⟩,T,S,R,P⟩:=aL g;by_cases f:p<ts.length
 · obtain ⟨b,off,ha, -,E,D,C,B⟩:=bB l.t f
   subst ha;obtain ⟨X,m⟩:∃ X,tkG (fB ts p)=X:=⟨_,rfl⟩;have d:=m;rw [xK f] at d;unfold tkG at d;rw [m];generalize ts[p]=t at E D C B d;obtain ⟨k,s,G,A⟩:=t;simp only at E D C B d;have a1:((p:Int) == (ts.length:Int))=false:=by rw [beq_eq_false_iff_ne];omega
   have a2:(p:Int)<(ts.length:Int):=by omega
   have a4:(0:Int)<=(p:Int):=by omega
   have a3:((p:Int)).toNat=p:=by omega
   subst d;clear m h l;have y:=aA g;have z:=aA j;clear g j;go_enter func217,ntmps217
   go_upto_region 1 with fail
   generalize w.alloc (tkO 0 ⟨#[]⟩ 0 0)=W at *;go_upto_region 3 with (go_quiet (fail))
   go_region
   go_wp2_with fail
   obtain ⟨⟨x,u,q,o⟩, -⟩:=aL (aY (W:=W.drewN (nq+1)) y.out (.int .i64 k) (.string ⟨s.toArray⟩) (.int .i64 G) (.int .i64 A));exact bodyPost_ret (v:=.agg #[.int .i64 k,.string ⟨s.toArray⟩,.int .i64 G,.int .i64 A]) (by simp [results,results217,go_sem,x,u,q,o]) rfl ⟨rfl,lJ z.out (Td _) (by omega) (nq+1) _ _ _ _⟩
 · obtain rfl:p=ts.length:=by omega
   rw [xL (Td _)];clear h l;have y:=aA g;have z:=aA j;clear g j;go_enter func217,ntmps217
   go_upto_region 1 with fail
   generalize w.alloc (tkO 0 ⟨#[]⟩ 0 0)=W at *;go_upto_region 2 with (go_quiet (fail))
   go_wp2_with fail
   obtain ⟨⟨x,u,q,o⟩, -⟩:=aL (aY (W:=W.drewN nq) y.out (.int .i64 0) (.string ⟨#[]⟩) (.int .i64 0) (.int .i64 0));exact bodyPost_ret (v:=.agg #[.int .i64 0,.string ⟨#[]⟩,.int .i64 0,.int .i64 0]) (by simp [results,results217,go_sem,x,u,q,o]) rfl ⟨rfl,lJ z.out (Td _) (by omega) nq _ _ _ _⟩
theorem iC (ts:List Tk) (rb:Nat) (a:Tp) (c:Nat) (s:RS) (so:Bool) (er:Int) (d:¬ er=0) (w:World) (h:PS ts rb a c s w) :
 Calls prog 218 #[.pointer (some ⟨rb,0,none⟩),.bool so,.int .i64 er] w fun e w'=>e=.returned (.tuple #[])/\PS ts rb a c (bY so er s) w'/\aC (· = rb) w w':=by
 obtain ⟨⟨k,c1,c2⟩,j,g,f⟩:=d9 h.r;cases so with
 | true =>
   have H:=aA (show PS ts rb a c (bY true er s) w from h);clear h;go_enter func218,ntmps218
   go_wp2_with fail
   go_end0
   exact ⟨rfl,H.out,aC.refl _ _⟩
 | false =>
   by_cases b:s.bad=0
   · have q:((s.bad:Int) == 0)=true:=by rw [b];rfl
     have H:=aA (show PS ts rb a c (bY false er s) (w.setCell ⟨rb,2,none⟩ (.int .i64 er)) from by
      rw [iL];show PR ts rb a c (atR (aQ er s)) (aQ er s).bad _;rw [PT er d s,show (aQ er s).bad=er by unfold aQ;rw [if_pos b]];exact h.setE er)
     clear h b;go_enter func218,ntmps218
     go_wp2_with fail
     go_end0
     exact ⟨rfl,H.out,cZ (aC.refl _ _) 2 _⟩
   · have q:((s.bad:Int) == 0)=false:=beq_eq_false_iff_ne.2 b
     have H:=aA (show PS ts rb a c (bY false er s) w from by rw [iL,rA b];exact h);clear h b;go_enter func218,ntmps218
     go_wp2_with fail
     go_end0
     exact ⟨rfl,H.out,aC.refl _ _⟩
theorem kM (ts:List Tk) (rb:Nat) (a:Tp) (c:Nat) (s:RS) (d:s.bad=0->s.pos<ts.length) (w:World) (h:PS ts rb a c s w) :
 Calls prog 219 #[.pointer (some ⟨rb,0,none⟩)] w fun e w'=>e=.returned (.tuple #[])/\PS ts rb a c (goR s) w'/\aC (· = rb) w w':=by
 obtain ⟨⟨k,c1,c2⟩,j,g,f⟩:=d9 h.r;have hp:=h.p;have hn:=h.n;by_cases b:s.bad=0
 · have q:((s.bad:Int) == 0)=true:=by rw [b];rfl
   have H:=aA (show PS ts rb a c (goR s) (w.setCell ⟨rb,1,none⟩ (.int .i64 ((atR s:Nat)+1:Nat))) from by
    rw [EO b];show PR ts rb a c (atR (aM s)) s.bad _;rw [show atR (aM s)=atR s+1 by rw [lK b,lK (show (aM s).bad=0 from b)];rfl];exact h.setP (atR s+1) (by rw [lK b];exact d b))
   rw [Int.natCast_add] at H;clear h b d;go_enter func219,ntmps219
   go_wp2_with fail
   go_end0
   exact ⟨rfl,H.out,cZ (aC.refl _ _) 1 _⟩
 · have q:((s.bad:Int) == 0)=false:=beq_eq_false_iff_ne.2 b
   have H:=aA (show PS ts rb a c (goR s) w from by rw [gZ b];exact h);clear h b d;go_enter func219,ntmps219
   go_wp2_with fail
   go_end0
   exact ⟨rfl,H.out,aC.refl _ _⟩
theorem lQ {so:Bool} {e:Int} (b:¬ e=0) {s:RS} (h:(bY so e s).bad=0):so=true/\s.bad=0:=by
 cases so with
 | true=>exact ⟨rfl,h⟩
 | false =>
   by_cases a:s.bad=0
   · exact absurd h (dN b a)
   · rw [iL,rA a] at h;exact absurd h a
theorem jN (so:Bool) (e:Int) (s:RS):(bY so e s).pos=s.pos:=by
 unfold bY;split
 · rfl
 · exact lH e s
theorem sU (t:Tk):tkG t=.agg #[.int .i64 t.kind,.string ⟨t.text.toArray⟩,.int .i64 t.num,.int .i64 t.place]:=rfl
theorem qC (ts:List Tk) (rb:Nat) (a:Tp) (c:Nat) (s:RS) (x:Tr) (w:World) (h:PS ts rb a c s w) :
 Calls prog 178 #[.pointer (some ⟨rb,0,none⟩),.string x] w fun e w'=>e=.returned (.tuple #[])/\PS ts rb a c (aU ts x.data.toList s) w'/\aC (· = rb) w w':=by
 have C:(bQ ts (atR s)).kind=3->atR s<ts.length:=fun hk=>Cc (by rw [hk];decide)
 have M:=Ox ts x.data.toList s;have g:=mT ts rb a c (atR s) s.bad w h;obtain ⟨t,ht⟩:∃ t,bQ ts (atR s)=t:=⟨_,rfl⟩;rw [ht] at C M g;rw [sU] at g;rw [<- M];clear M ht;obtain ⟨X,B⟩:∃ X:Tr,⟨t.text.toArray⟩=X:=⟨_,rfl⟩;have m:t.text=X.data.toList:=by rw [<- B]
 rw [B] at g;rw [m, <- Tm, <- Tm];obtain ⟨k,s',A,y⟩:=t;simp only at C g B |-
 have HT:=aA C;have HN:=aA g;have HP:=aA h;obtain ⟨so,d⟩:∃ so,((k == 3) && (X.toList == x.toList))=so:=⟨_,rfl⟩;rw [d];have q:=aA d;clear C g B m h d;have ja:=HP.out.lt;go_enter func178,ntmps178
 go_wp2_with fail
 refine HN.out.mono ?_;rintro e u ⟨rfl,L⟩;have P1:=HP.out.below L;have K1:=aF L (· = rb);have S:=bA0 u (tkO k X A y);have NB:=heap_alloc_new u (tkO k X A y);have D:=aA (P1.below S);have E:=aA (K1.trans (aF S (· = rb)) (fun i f _=>f));have G:=aA (fun so V (hV:PS ts rb a c s V)=>iC ts rb a c s so 2 (by decide) V hV);obtain ⟨⟨Z,Y,U,T⟩, -⟩:=aL NB;clear L P1 K1 S NB HN;cases b:(k == 3) with
 | true =>
   have z:(k == 3)=true:=b;have d:(X.toList == x.toList)=so:=by rw [<- q.out,b,Bool.true_and]
   have hz:=HT.out (by simpa using b);clear b;go_upto_region 1 with fail
   generalize u.alloc (tkO k X A y)=W at *;go_wp2_with fail
   refine (G.out so _ D.out).mono ?_;rintro e H ⟨rfl,o,l⟩;clear d;have p:=E.out.trans l (fun i f _=>f);have r:=kM ts rb a c (bY so 2 s) (fun I=>by rw [jN];have:=(lQ (by decide) I).2;rw [lK this] at hz;exact hz) H o;have R:=aA r;have P:=aA p;clear o l p r G D E Z Y U T;go_wp2_with fail
   refine R.out.mono ?_;rintro e w3 ⟨rfl,n,j⟩;have N:=aA n;have O:=aA (P.out.trans j (fun i f _=>f));clear n j;go_wp2_with fail
   go_end0
   exact ⟨rfl,N.out,O.out⟩
 | false =>
   have z:(k == 3)=false:=b;have hz:false=so:=by rw [<- q.out,b,Bool.false_and]
   subst hz;clear b;go_upto_region 1 with fail
   generalize u.alloc (tkO k X A y)=W at *;go_wp2_with fail
   refine (G.out false _ D.out).mono ?_;rintro e H ⟨rfl,o,l⟩;have p:=E.out.trans l (fun i f _=>f);have r:=kM ts rb a c (bY false 2 s) (fun I=>absurd (lQ (by decide) I).1 (by decide)) H o;have R:=aA r;have P:=aA p;clear o l p r G D E Z Y U T;go_wp2_with fail
   refine R.out.mono ?_;rintro e w3 ⟨rfl,n,j⟩;have N:=aA n;have O:=aA (P.out.trans j (fun i f _=>f));clear n j;go_wp2_with fail
   go_end0
   exact ⟨rfl,N.out,O.out⟩
theorem Jf (ts:List Tk) (rb:Nat) (a:Tp) (c:Nat) (s:RS) (w:World) (h:PS ts rb a c s w) :
 Calls prog 177 #[.pointer (some ⟨rb,0,none⟩)] w fun e w'=>e=.returned (.string ⟨(bQ ts (atR s)).text.toArray⟩) /\
  PS ts rb a c (goR (bY (dZ (bQ ts (atR s)).text) 5 (bY ((bQ ts (atR s)).kind == 1) 2 s))) w'/\aC (· = rb) w w':=by
 have A:(bQ ts (atR s)).kind=1->atR s<ts.length:=fun hk=>Cc (by rw [hk];decide)
 have q:=mT ts rb a c (atR s) s.bad w h;obtain ⟨t,I⟩:∃ t,bQ ts (atR s)=t:=⟨_,rfl⟩;rw [I] at A q;rw [sU] at q;rw [I];clear I;obtain ⟨X,z⟩:∃ X:Tr,⟨t.text.toArray⟩=X:=⟨_,rfl⟩;have r:t.text=X.data.toList:=by rw [<- z]
 rw [z] at q |-
 rw [r];obtain ⟨k,s',y,x⟩:=t;simp only at A q z |-
 have HT:=aA A;have HN:=aA q;have HP:=aA h;obtain ⟨Z,o⟩:∃ b,dZ X.data.toList=b:=⟨_,rfl⟩;rw [o];have T:=aA o;clear A q z r h o;have ja:=HP.out.lt;go_enter func177,ntmps177
 go_wp2_with fail
 refine HN.out.mono ?_;rintro e p ⟨rfl,f⟩;have P1:=HP.out.below f;have K1:=aF f (· = rb);have n:=bA0 p (tkO k X y x);have C:=heap_alloc_new p (tkO k X y x);have P2:=aA (P1.below n);have K2:=aA (K1.trans (aF n (· = rb)) (fun i d _=>d));have M:=f.size;have L:(p.alloc (tkO k X y x)).heap.size=p.heap.size+1:=Tc _ _;clear f P1 K1 n HN;obtain ⟨B,N⟩:∃ B,p.heap.size=B:=⟨_,rfl⟩;rw [N] at C L;have jb:rb<B:=by omega
 go_upto_region 2 with fail
 try rw [N]
 generalize p.alloc (tkO k X y x)=W at *;clear N M;obtain ⟨⟨m,l,j,g⟩, -⟩:=aL C;have u:=aA C;have U:=aA (mO X W);rw [T.out] at U;clear C;go_wp2_with fail
 refine U.out.mono ?_;rintro e V ⟨rfl,f⟩;have P3:=P2.out.below f;have K3:=K2.out.trans (aF f (· = rb)) (fun i d _=>d);have N3:=(f.block B (by omega)).trans u.out;have H:=f.size;have n:=bA0 V (ptO (kP X.data.toList) (eP X.data.toList) (bP X.data.toList));have P4:=aA (P3.below n);have K4:=aA (K3.trans (aF n (· = rb)) (fun i d _=>d));have S:=aA ((n.block B (by omega)).trans N3);clear f P3 K3 N3 H n U P2 K2 u m l j g;go_upto_region 3 with fail
 generalize V.alloc (ptO (kP X.data.toList) (eP X.data.toList) (bP X.data.toList))=W2 at *;obtain ⟨⟨m,l,j,g⟩, -⟩:=aL S.out;have CM:=aA (iC ts rb a c s (k == 1) 2 (by decide) W2 P4.out);go_wp2_with fail
 refine CM.out.mono ?_;rintro e w3 ⟨rfl,P5,G⟩;have R:=G.heap S.out (by omega);have K5:=aA (K4.out.trans G (fun i d _=>d));have CF:=aA (iC ts rb a c (bY (k == 1) 2 s) Z 5 (by decide) w3 P5);clear P5 G CM P4 K4 S m l j g;obtain ⟨⟨m,l,j,g⟩, -⟩:=aL R;have N6:=aA R;clear R;go_wp2_with fail
 refine CF.out.mono ?_;rintro e w4 ⟨rfl,P7,E⟩;have P:=E.heap N6.out (by omega);have K7:=aA (K5.out.trans E (fun i d _=>d))
 have CS:=aA (kM ts rb a c (bY Z 5 (bY (k == 1) 2 s)) (fun hh=>by
  rw [jN,jN];have h1:=(lQ (by decide) hh).2;have Y:=lQ (by decide) h1;have:=HT.out (by simpa using Y.1);rw [lK Y.2] at this;exact this) w4 P7)
 clear P7 E CF K5 N6 m l j g;obtain ⟨⟨m,l,j,g⟩, -⟩:=aL P;have N8:=aA P;clear P;go_wp2_with fail
 refine CS.out.mono ?_;rintro e w5 ⟨rfl,P9,D⟩;have N9:=D.heap N8.out (by omega);have K9:=aA (K7.out.trans D (fun i d _=>d));have O:=aA P9;clear P9 D CS K7 N8 m l j g;obtain ⟨⟨m,l,j,g⟩, -⟩:=aL N9;clear N9;go_wp2_with fail
 go_ret;exact ⟨rfl,O.out,K9.out⟩
theorem Rt (ts:List Tk) (rb:Nat) (a:Tp) (c:Nat) (s:RS) (w:World) (h:PS ts rb a c s w) :
 Calls prog 220 #[.pointer (some ⟨rb,0,none⟩)] w fun e w'=>e=.returned (.int .i64 (bQ ts (atR s)).num)/\PS ts rb a c (sS ts s) w'/\aC (· = rb) w w':=by
 have u:(bQ ts (atR s)).kind=2->atR s<ts.length:=fun hk=>Cc (by rw [hk];decide)
 have o:=mT ts rb a c (atR s) s.bad w h;unfold sS;obtain ⟨t,C⟩:∃ t,bQ ts (atR s)=t:=⟨_,rfl⟩;rw [C] at u o;rw [sU] at o;rw [C];clear C;obtain ⟨X,G⟩:∃ X:Tr,⟨t.text.toArray⟩=X:=⟨_,rfl⟩;rw [G] at o;obtain ⟨k,s',b,q⟩:=t;simp only at u o G |-
 have HT:=aA u;have HN:=aA o;have HP:=aA h;obtain ⟨so,d⟩:∃ so,(decide (1<=b) && decide (b<=16))=so:=⟨_,rfl⟩;rw [d];have N:=aA d;clear u o G h d;have jb:=HP.out.lt;go_enter func220,ntmps220
 go_wp2_with fail
 refine HN.out.mono ?_;rintro e n ⟨rfl,r⟩;have Z:=HP.out.below r;have K1:=aF r (· = rb);have P:=bA0 n (tkO k X b q);have x:=heap_alloc_new n (tkO k X b q);have Y:=aA (Z.below P);have K2:=aA (K1.trans (aF P (· = rb)) (fun i f _=>f));have E:=r.size;have D:(n.alloc (tkO k X b q)).heap.size=n.heap.size+1:=Tc _ _;clear r Z K1 P HN;obtain ⟨B,H⟩:∃ B,n.heap.size=B:=⟨_,rfl⟩;rw [H] at x D;have jc:rb<B:=by omega
 go_upto_region 2 with fail
 try rw [H]
 generalize n.alloc (tkO k X b q)=W at *;clear H E;obtain ⟨⟨m,l,j,g⟩, -⟩:=aL x;have p:=aA x;have CM:=aA (iC ts rb a c s (k == 2) 2 (by decide) W Y.out);clear x;go_wp2_with fail
 refine CM.out.mono ?_;rintro e R ⟨rfl,V,A⟩;have M:=A.heap p.out (by omega);have K5:=aA (K2.out.trans A (fun i f _=>f));have CK:=aA (Et b R);have O:=aA (iC ts rb a c (bY (k == 2) 2 s) (decide (1<=b) && decide (b<=16)) 1 (by decide) R V);clear V A CM Y K2 p m l j g;obtain ⟨⟨m,l,j,g⟩, -⟩:=aL M;have N6:=aA M;clear M;rw [N.out] at CK O;go_wp2_with fail
 refine CK.out.mono ?_;rintro e ja ⟨rfl,rfl⟩;go_wp2_with fail
 refine O.out.mono ?_;rintro e w4 ⟨rfl,U,z⟩;have L:=z.heap N6.out (by omega);have K7:=aA (K5.out.trans z (fun i f _=>f))
 have CS:=aA (kM ts rb a c (bY so 1 (bY (k == 2) 2 s)) (fun hh=>by
  rw [jN,jN];have h1:=(lQ (by decide) hh).2;have S:=lQ (by decide) h1;have:=HT.out (by simpa using S.1);rw [lK S.2] at this;exact this) w4 U)
 clear U z O K5 N6 m l j g;obtain ⟨⟨m,l,j,g⟩, -⟩:=aL L;have N8:=aA L;clear L;go_wp2_with fail
 refine CS.out.mono ?_;rintro e w5 ⟨rfl,T,y⟩;have N9:=y.heap N8.out (by omega);have K9:=aA (K7.out.trans y (fun i f _=>f));have I:=aA T;clear T y CS K7 N8 m l j g;obtain ⟨⟨m,l,j,g⟩, -⟩:=aL N9;clear N9;go_wp2_with fail
 go_ret;exact ⟨rfl,I.out,K9.out⟩
def ofN (q:Iq):TN×Nat×Int:=match q with | .ok t p=>(t,p,0) | .bad p e=>(aD,p,e)
theorem LP {q:Iq} {w w':World} {e:Ending} (h:Hb q w e w'):Below w.heap.size w w'/\∃ ad cc,e=.returned (.tuple #[bN (ofN q).1.op (ofN q).1.nm (ofN q).1.n ad (ofN q).1.ks.len cc,.int .i64 ((ofN q).2.1:Nat),.int .i64 (ofN q).2.2])/\bD w.heap.size w' ad (ofN q).1.ks:=by
 cases q with
 | ok t p=>obtain ⟨b,ad,cc,a,hr⟩:=h;exact ⟨b,ad,cc,a,hr⟩
 | bad p er=>obtain ⟨b,a⟩:=h;exact ⟨b,none,0,a,.inl rfl⟩
theorem Nf {L:List Tk} {s:RS} (b:s.bad=0) (hp:s.pos<=L.length):(bC L s).1=(ofN (ofL L s.pos)).1/\atR (bC L s).2=(ofN (ofL L s.pos)).2.1/\(bC L s).2.bad=(ofN (ofL L s.pos)).2.2:=by
 unfold bC;rw [if_pos b];cases h:ofL L s.pos with
 | ok t p=>exact ⟨rfl,rfl,rfl⟩
 | bad p e =>
   have a:¬ e=0:=((sE hp).2 p e h).2;exact ⟨rfl,sK a,rfl⟩
theorem yK {ts:List Tk} {rb:Nat} {a:Tp} {c p:Nat} {er:Int} {w V:World} {t:TN} {ad:Tp} {cc:Nat} (f:rb<w.heap.size) (h:PR ts rb a c p er V) (b:aC (· = rb) w V) (hr:bD (w.heap.size+1) V ad t.ks) :
 PR ts rb a c p er (kY V w.heap.size t.op t.nm t.n ad t.ks.len cc)/\aC (· = rb) w (kY V w.heap.size t.op t.nm t.n ad t.ks.len cc)/\bD w.heap.size (kY V w.heap.size t.op t.nm t.n ad t.ks.len cc) ad t.ks:=by
 have d:=eI V w.heap.size t.op t.nm t.n ad t.ks.len cc;exact ⟨h.kept d (fun k b=>by omega),b.trans (d.mono (T:=fun i=>w.heap.size<=i) (fun i g _=>by omega)) (fun i g hl=>by omega),(hr.keptS d (fun k b=>by omega)).mono (by omega)⟩
theorem Ga (ts:List Tk) (rb:Nat) (a:Tp) (c p:Nat) (er:Int) (w:World) (h:PR ts rb a c p er w) (g:¬ er=0) :
 Calls prog 221 #[.pointer (some ⟨rb,0,none⟩)] w fun e w'=>∃ ad cc,e=.returned (bN aD.op aD.nm aD.n ad aD.ks.len cc)/\PR ts rb a c p er w'/\aC (· = rb) w w'/\bD w.heap.size w' ad aD.ks:=by
 have q:((er:Int) != 0)=true:=by simpa using g
 have f:=bA0 w (ndG ⟨#[]⟩ ⟨#[]⟩ 0 none 0 0);have d:=heap_alloc_new w (ndG ⟨#[]⟩ ⟨#[]⟩ 0 none 0 0);have k:=aA (h.below f);have u:=aA (aF f (· = rb));have b:=h.lt;have y:=aA d;generalize j:w.alloc (ndG ⟨#[]⟩ ⟨#[]⟩ 0 none 0 0)=W at *;have x:=aA j;obtain ⟨⟨L,c1,c2⟩,I,H,G⟩:=d9 k.out.r;obtain ⟨⟨E,r1,r2,D⟩,C,B,A,z⟩:=aL d;clear h g d f j;go_enter func221,ntmps221
 go_upto_region 1 with fail
 rw [x.out];go_wp2_with fail
 have P:=yK (t:=aD) (ad:=none) (cc:=0) b k.out u.out (.inl rfl);obtain ⟨⟨s,o,m,l⟩, -⟩:=aL (aY y.out (.string ⟨#[]⟩) (.string ⟨#[]⟩) (.int .i64 0) (.slice none 0 0));exact bodyPost_ret (v:=bN ⟨#[]⟩ ⟨#[]⟩ 0 none 0 0) (by simp [results,results221,go_sem,s,o,m,l]) rfl ⟨none,0,rfl,P⟩
theorem LV (ts:List Tk) (hL:∀ t∈ts,cS t) (rb:Nat) (a:Tp) (c p:Nat) (w:World) (h:PR ts rb a c p 0 w) {t:TN} {q:Nat} {er:Int} (ho:ofN (ofL ts p)=(t,q,er)) (hq:q<=ts.length) :
 Calls prog 221 #[.pointer (some ⟨rb,0,none⟩)] w fun e w'=>∃ ad cc,e=.returned (bN t.op t.nm t.n ad t.ks.len cc)/\PR ts rb a c q er w'/\aC (· = rb) w w'/\bD w.heap.size w' ad t.ks:=by
 have I:=h.lt;have B1:=bA0 w (ndG ⟨#[]⟩ ⟨#[]⟩ 0 none 0 0);have NB:=heap_alloc_new w (ndG ⟨#[]⟩ ⟨#[]⟩ 0 none 0 0);have E:(w.alloc (ndG ⟨#[]⟩ ⟨#[]⟩ 0 none 0 0)).heap.size=w.heap.size+1:=Tc _ _;have U:=h.below B1;generalize hW:w.alloc (ndG ⟨#[]⟩ ⟨#[]⟩ 0 none 0 0)=W at *;have B2:=bA0 W (ndG ⟨#[]⟩ ⟨#[]⟩ 0 none 0 0);have NC:=heap_alloc_new W (ndG ⟨#[]⟩ ⟨#[]⟩ 0 none 0 0);have ND:=(B2.block w.heap.size (by omega)).trans NB;have D:(W.alloc (ndG ⟨#[]⟩ ⟨#[]⟩ 0 none 0 0)).heap.size=W.heap.size+1:=Tc _ _;have T:=U.below B2;have BB:Below w.heap.size w (W.alloc (ndG ⟨#[]⟩ ⟨#[]⟩ 0 none 0 0)):=B1.trans (B2.mono (by omega))
 have CO:∀ V,fQ V a ts->Calls prog 244 #[.slice a ts.length c,.int .i64 p] V fun e w'=>Below V.heap.size V w'/\∃ ad cc,e=.returned (.tuple #[bN t.op t.nm t.n ad t.ks.len cc,.int .i64 (q:Nat),.int .i64 er])/\bD V.heap.size w' ad t.ks:=fun V hV =>
  (O0 ts hL a c p h.n h.p V hV).mono fun e w' hh=>by
   have:=LP hh.1;rw [ho] at this;exact this
 have C1:=aA (CO W.drew (U.below (⟨rfl,rfl,rfl,Td _,fun _ _=>rfl⟩:Below W.heap.size W W.drew)).reads);have C2:=aA (CO (W.alloc (ndG ⟨#[]⟩ ⟨#[]⟩ 0 none 0 0)).drew (T.below (⟨rfl,rfl,rfl,Td _,fun _ _=>rfl⟩:Below _ (W.alloc (ndG ⟨#[]⟩ ⟨#[]⟩ 0 none 0 0)) (W.alloc (ndG ⟨#[]⟩ ⟨#[]⟩ 0 none 0 0)).drew)).reads);have H:=aA U;have G:=aA T;have N0:=aA NB;have N1:=aA NC;have N2:=aA ND;have BV:=aA B1;have BW:=aA BB;have jb:=h.p;have jc:=h.n;have HW:=aA hW;have d:=aA E;have o:=aA D;obtain ⟨⟨c0,c1,c2⟩,f0,f1,Z⟩:=d9 U.r;have d0:=(d9 T.r).1.1;have d1:=(d9 T.r).1.2.1;clear h U T NB NC ND B1 B2 BB ho hW E D CO hL;go_enter func221,ntmps221
 go_upto_region 1 with fail
 rw [HW.out];go_wp2_with fail
 go_region_law (first
  | (go_simp
     go_at_call 244
     refine C1.out.mono ?_;rintro e j ⟨f,ad,cc,rfl,hr⟩;have g:Below W.heap.size W j:=⟨f.os,f.tape,f.output,f.size,f.block⟩;have H3:=aA (H.out.below g);have m:=g.size;have s:=d.out;have M0:=aA ((g.block w.heap.size (by omega)).trans N0.out);have B3:=aA (BV.out.trans (g.mono (by omega)));have x:=aA m;have R3:=aA (show bD W.heap.size j ad t.ks from hr);clear f g hr m s)
  | (go_simp
     go_at_call 244
     refine C2.out.mono ?_;rintro e j ⟨f,ad,cc,rfl,hr⟩;have g:Below (W.alloc (ndG ⟨#[]⟩ ⟨#[]⟩ 0 none 0 0)).heap.size (W.alloc (ndG ⟨#[]⟩ ⟨#[]⟩ 0 none 0 0)) j:=⟨f.os,f.tape,f.output,f.size,f.block⟩;have H3:=aA (G.out.below g);have m:=g.size;have s:=d.out;have ja:=o.out;have M1:=aA ((g.block W.heap.size (by omega)).trans N1.out);have M0:=aA ((g.block w.heap.size (by omega)).trans N2.out);have B3:=aA (BW.out.trans (g.mono (by omega)));have x:=aA m;obtain ⟨⟨n0,n1,n2,n3⟩,z0,z1,z2,z3⟩:=aL M1.out;have R3:=aA (show bD (W.alloc (ndG ⟨#[]⟩ ⟨#[]⟩ 0 none 0 0)).heap.size j ad t.ks from hr);clear f g hr m s ja)
  | fail)
 all_goals first
  | (skip
     have BA:=bA0 j (ndG t.op t.nm t.n ad t.ks.len cc);have y:=aA (H3.out.below BA);have Y:=aA (show Below w.heap.size w (j.alloc (ndG t.op t.nm t.n ad t.ks.len cc)) from B3.out.alloc (by have:=x.out;have:=d.out;omega) _);have A:=aA (heap_alloc_new j (ndG t.op t.nm t.n ad t.ks.len cc));have S:=aA ((BA.block w.heap.size (by have:=x.out;have:=d.out;omega)).trans M0.out);have O:=aA ((R3.out.kept BA).mono (show w.heap.size+1<=W.heap.size by have:=d.out;omega));have l:w.heap.size+1<=(j.alloc (ndG t.op t.nm t.n ad t.ks.len cc)).heap.size:=by rw [Tc];have:=x.out;have:=d.out;omega
     have N:=aA l;clear BA l;generalize z:j.alloc (ndG t.op t.nm t.n ad t.ks.len cc)=X at y Y A S N O;generalize M:j.heap.size=BX at A;have HX:=aA z;have jd:=aA M;have LX:=aA (show w.heap.size<BX by have:=x.out;have:=d.out;omega);clear z M C1 C2 c0 c1 c2 f0 f1 Z d0 d1;go_upto_region 4 with fail
     obtain ⟨⟨c0,c1,c2⟩,f0,f1,Z⟩:=d9 y.out.r;have K5:=aA ((y.out.setP q hq).setE er);have KS:=aA (((aC.refl (· = rb) X).setCell (p:=⟨rb,1,none⟩) (.inl rfl) (.int .i64 (q:Nat))).setCell (p:=⟨rb,2,none⟩) (.inl rfl) (.int .i64 er));have N5:=aA (KS.out.heap A.out (by have:=LX.out;omega));have R:=aA (KS.out.heap S.out (by omega));have R5:=aA (O.out.keptS KS.out (fun k hk=>by omega));go_upto_region 5 with fail
     obtain ⟨⟨n0,n1,n2,n3⟩, -⟩:=aL N5.out;obtain ⟨⟨r0,r1,r2,r3⟩,z0,z1,z2,z3⟩:=aL R.out;go_wp2_with fail
     have u:=kO Y.out KS.out N.out;have P:=yK (cc:=cc) I K5.out u R5.out;obtain ⟨⟨y0,y1,y2,y3⟩, -⟩:=aL (aY R.out (.string t.op) (.string t.nm) (.int .i64 t.n) (.slice ad t.ks.len cc));exact bodyPost_ret (v:=bN t.op t.nm t.n ad t.ks.len cc) (by simp [results,results221,go_sem,y0,y1,y2,y3]) rfl ⟨ad,cc,rfl,P⟩)
  | (skip
     have C:=eI j W.heap.size t.op t.nm t.n ad t.ks.len cc;have y:=aA (H3.out.kept C (fun k hk=>by have:=d.out;omega));have Y:=aA (B3.out.trans (C.below (B:=w.heap.size) (fun b hb=>by have:=d.out;omega) (by have:=x.out;have:=o.out;have:=d.out;omega)));have A:=aA (zG M1.out t.op t.nm t.n ad t.ks.len cc);have S:=aA (C.heap M0.out (by have:=d.out;omega));have O:=aA ((R3.out.keptS C (fun k hk=>by have:=o.out;omega)).mono (show w.heap.size+1<=_ by have:=d.out;have:=o.out;omega));have l:w.heap.size+1<=(kY j W.heap.size t.op t.nm t.n ad t.ks.len cc).heap.size:=by have:=C.size;have:=x.out;have:=o.out;have:=d.out;omega
     have N:=aA l;clear C l;obtain ⟨X,z⟩:∃ X,kY j W.heap.size t.op t.nm t.n ad t.ks.len cc=X:=⟨_,rfl⟩;rw [z] at y Y A S N O;have L:(((j.setCell ⟨W.heap.size,0,none⟩ (.string t.op)).setCell ⟨W.heap.size,1,none⟩ (.string t.nm)).setCell ⟨W.heap.size,2,none⟩ (.int .i64 t.n)).setCell ⟨W.heap.size,3,none⟩ (.slice ad t.ks.len cc)=X:=z;have LX:=aA (show w.heap.size<W.heap.size by have:=d.out;omega);rw [L];clear z L C1 C2 c0 c1 c2 f0 f1 Z d0 d1 n0 n1 n2 n3 z0 z1 z2 z3;go_upto_region 4 with fail
     obtain ⟨⟨c0,c1,c2⟩,f0,f1,Z⟩:=d9 y.out.r;have K5:=aA ((y.out.setP q hq).setE er);have KS:=aA (((aC.refl (· = rb) X).setCell (p:=⟨rb,1,none⟩) (.inl rfl) (.int .i64 (q:Nat))).setCell (p:=⟨rb,2,none⟩) (.inl rfl) (.int .i64 er));have N5:=aA (KS.out.heap A.out (by have:=LX.out;omega));have R:=aA (KS.out.heap S.out (by omega));have R5:=aA (O.out.keptS KS.out (fun k hk=>by omega));go_upto_region 5 with fail
     obtain ⟨⟨n0,n1,n2,n3⟩, -⟩:=aL N5.out;obtain ⟨⟨r0,r1,r2,r3⟩,z0,z1,z2,z3⟩:=aL R.out;go_wp2_with fail
     have u:=kO Y.out KS.out N.out;have P:=yK (cc:=cc) I K5.out u R5.out;obtain ⟨⟨y0,y1,y2,y3⟩, -⟩:=aL (aY R.out (.string t.op) (.string t.nm) (.int .i64 t.n) (.slice ad t.ks.len cc));exact bodyPost_ret (v:=bN t.op t.nm t.n ad t.ks.len cc) (by simp [results,results221,go_sem,y0,y1,y2,y3]) rfl ⟨ad,cc,rfl,P⟩)
theorem qM (ts:List Tk) (j:∀ t∈ts,cS t) (rb:Nat) (a:Tp) (c:Nat) (s:RS) (w:World) (h:PS ts rb a c s w) :
 Calls prog 221 #[.pointer (some ⟨rb,0,none⟩)] w fun e w'=>∃ ad cc,e=.returned (bN (bC ts s).1.op (bC ts s).1.nm (bC ts s).1.n ad (bC ts s).1.ks.len cc)/\PS ts rb a c (bC ts s).2 w'/\aC (· = rb) w w'/\bD w.heap.size w' ad (bC ts s).1.ks:=by
 by_cases b:s.bad=0
 · have hp:s.pos<=ts.length:=by have:=h.p;rw [lK b] at this;exact this
   obtain ⟨m,d,l⟩:=Nf b hp
   have f:(ofN (ofL ts s.pos)).2.1<=ts.length:=by
    cases ho:ofL ts s.pos with
    | ok t q=>exact (sE hp).1 t q ho
    | bad q er=>exact ((sE hp).2 q er ho).1
   have k:PR ts rb a c s.pos 0 w:=by
    have:=h;unfold PS at this;rw [lK b,b] at this;exact this
   refine (LV ts j rb a c s.pos w k (t:=(bC ts s).1) (q:=atR (bC ts s).2) (er:=(bC ts s).2.bad) (by rw [m,d,l]) (by rw [d];exact f)).mono fun e w' g=>g
 · rw [f8 b]
   exact Ga ts rb a c (atR s) s.bad w h b
theorem wC {c:UInt8} {r:Tq} (h:bH c=true\/aZ c=true):bE ⟨(c::r).toArray⟩ 0 0=none:=by
 have a:¬ c=61/\¬ c=33/\¬ c=60/\¬ c=62:=by
  rcases h with h | h
  · unfold bH at h
    simp only [Bool.and_eq_true,decide_eq_true_eq] at h;refine ⟨?_,?_,?_,?_⟩ <;> (rintro rfl;revert h;decide)
  · unfold aZ at h
    simp only [Bool.and_eq_true,decide_eq_true_eq] at h;refine ⟨?_,?_,?_,?_⟩ <;> (rintro rfl;revert h;decide)
 have hx:∀ (y:UInt8) (m:Tq),c ≠ y->¬ (⟨(c::r).toArray⟩:Tr)=⟨(y::m).toArray⟩:=fun y m hn e=>by
  have:=congrArg (fun z=>z.data.toList) e;simp at this;exact hn this.1
 unfold bE;rw [if_neg (hx 61 [] a.1),if_neg (hx 33 [61] a.2.1),if_neg (hx 60 [] a.2.2.1),if_neg (hx 60 [61] a.2.2.1),if_neg (hx 62 [] a.2.2.2),if_neg (hx 62 [61] a.2.2.2)]
def Fn (t:Tk):Prop:=(bE ⟨t.text.toArray⟩ 0 0).isSome=true->t.kind=3
theorem MY {l:Tq} {n:Nat} {k v:Int} (p:Nat) (hn:1<=n) (h:bV l=.tok k n v):Fn ⟨k,l.take n,v,p⟩:=by
 intro ho;cases l with
 | nil=>cases h
 | cons c r =>
   obtain ⟨m,rfl⟩:∃ m,n=m+1:=⟨n-1,by omega⟩;simp only at ho |-
   rw [List.take_succ_cons] at ho;simp only [bV] at h;split at h
   · rename_i a
     rw [wC (.inl a)] at ho;cases ho
   · split at h
     · rename_i hd
       rw [wC (.inr hd)] at ho;cases ho
     · unfold iF at h
       split at h
       · cases h
       · injection h with h1
         exact h1.symm
theorem Ro (l:Tq) (p:Nat):∀ ts,cR l p=.ok ts->∀ t∈ts,Fn t:=by
 refine nY (C:=fun l p=>∀ ts,cR l p=.ok ts->∀ t∈ts,Fn t) ?_ ?_ ?_ ?_ l.length l p (Td _)
 · intro p ts h
   rw [j0] at h;cases h;intro t ht;cases ht
 · intro r p c ts h
   rw [e8] at h;exact c ts h
 · intro l p e d f a ts h
   rw [nZ f d a] at h;cases h
 · intro l p k n v d f a hn hl c ts h
   rw [gX d hn a] at h;obtain ⟨b,g,rfl⟩:=Ah h;intro t ht;rcases List.mem_cons.1 ht with rfl | ht
   · exact MY p hn a
   · exact c b g t ht
theorem Pm {l:Tq} {ts:List Tk} (h:gY l=.ok ts):∀ t∈ts,Fn t:=by
 unfold gY at h;split at h
 · cases h
 · exact Ro _ _ _ h
def opS (L:List Tk) (s:RS):RS:=goR (bY ((bQ L (atR s)).kind == 3 && (bE ⟨(bQ L (atR s)).text.toArray⟩ 0 0).isSome) 2 s)
theorem Qf {L:List Tk} (g:∀ t∈L,Fn t) (s:RS):(bC L (opS L (bC L s).2)).2=(cB L s).2 /\
 ((cB L s).2.bad=0->(cB L s).1=⟨⟨(bQ L (atR (bC L s).2)).text.toArray⟩,(bC L s).1,(bC L (opS L (bC L s).2)).1⟩):=by
 unfold cB;obtain ⟨t,u,d⟩:∃ t u,bC L s=(t,u):=⟨_,_,rfl⟩;rw [d];simp only;by_cases a:u.bad=0
 · rw [if_pos a]
   have b:opS L u=if opB L u.pos=true then aM u else aQ 2 u:=by
    unfold opS opB bQ;rw [lK a];cases hp:L[u.pos]? with
    | none =>
      rw [if_neg (by decide)];show goR (bY false 2 u)=_;rw [iL,gZ (dN (by decide) a)]
    | some t =>
      simp only [Option.getD_some];by_cases ho:(bE ⟨t.text.toArray⟩ 0 0).isSome=true
      · have f:(t.kind == 3)=true:=by rw [g t (List.mem_of_getElem? hp) ho];rfl
        rw [if_pos ho,f,Bool.true_and,ho,lE,EO a]
      · have c:(bE ⟨t.text.toArray⟩ 0 0).isSome=false:=by simpa using ho
        rw [if_neg ho,c,Bool.and_false,iL,gZ (dN (by decide) a)]
   rw [b];cases ho:opB L u.pos with
   | true =>
     rw [if_pos rfl,if_pos rfl];refine ⟨rfl,fun _=>?_⟩;rw [lK a]
     have:eA L u.pos=(bQ L u.pos).text:=by
      unfold eA bQ;cases L[u.pos]? <;> rfl
     rw [this]
   | false =>
     rw [if_neg (by decide),if_neg (by decide),f8 (dN (by decide) a)];exact ⟨rfl,fun h=>absurd h (dN (by decide) a)⟩
 · have e:opS L u=u:=by
    unfold opS;rw [iM a,gZ a]
   rw [if_neg a,e,f8 a];exact ⟨rfl,fun h=>absurd h a⟩
abbrev cdP (d:CD) (a1:Tp) (c1:Nat) (a2:Tp) (c2:Nat):Obj:=.cells #[.string d.op,.string d.a.op,.string d.a.nm,.int .i64 d.a.n,.slice a1 d.a.ks.len c1,.string d.b.op,.string d.b.nm,.int .i64 d.b.n,.slice a2 d.b.ks.len c2] 144
abbrev Se (W:World) (B:Nat) (d:CD) (a1:Tp) (c1:Nat) (a2:Tp) (c2:Nat):World:=((((((((W.setCell ⟨B,0,none⟩ (.string d.op)).setCell ⟨B,1,none⟩ (.string d.a.op)).setCell ⟨B,2,none⟩ (.string d.a.nm)).setCell ⟨B,3,none⟩ (.int .i64 d.a.n)).setCell ⟨B,4,none⟩ (.slice a1 d.a.ks.len c1)).setCell ⟨B,5,none⟩ (.string d.b.op)).setCell ⟨B,6,none⟩ (.string d.b.nm)).setCell ⟨B,7,none⟩ (.int .i64 d.b.n)).setCell ⟨B,8,none⟩ (.slice a2 d.b.ks.len c2)
theorem Jv (W:World) (B:Nat) (d:CD) (a1:Tp) (c1:Nat) (a2:Tp) (c2:Nat):aC (· = B) W (Se W B d a1 c1 a2 c2) :=
 ((((((((((aC.refl (· = B) W).setCell (p:=⟨B,0,none⟩) (.inl rfl) _).setCell (p:=⟨B,1,none⟩) (.inl rfl) _).setCell (p:=⟨B,2,none⟩) (.inl rfl) _).setCell (p:=⟨B,3,none⟩) (.inl rfl) _).setCell (p:=⟨B,4,none⟩) (.inl rfl) _).setCell (p:=⟨B,5,none⟩) (.inl rfl) _).setCell (p:=⟨B,6,none⟩) (.inl rfl) _).setCell (p:=⟨B,7,none⟩) (.inl rfl) _).setCell (p:=⟨B,8,none⟩) (.inl rfl) _)
theorem nH {W:World} {B:Nat} {l:List Value} {t:TypeId} (h:W.heap[B]? = some (.cells l.toArray t (0,0))) (i:Nat) (v:Value):(W.setCell ⟨B,i,none⟩ v).heap[B]? = some (.cells (l.set i v).toArray t (0,0)):=by
 have:=heap_setCell_same W B i _ t v h;simpa using this
theorem L4 {W:World} {B:Nat} {q p o m k j g f c:Value} {t:TypeId} (h:W.heap[B]? = some (.cells #[q,p,o,m,k,j,g,f,c] t (0,0))) (d:CD) (a1:Tp) (c1:Nat) (a2:Tp) (c2:Nat) :
 (Se W B d a1 c1 a2 c2).heap[B]? = some (.cells #[.string d.op,.string d.a.op,.string d.a.nm,.int .i64 d.a.n,.slice a1 d.a.ks.len c1,.string d.b.op,.string d.b.nm,.int .i64 d.b.n,.slice a2 d.b.ks.len c2] t (0,0)) :=
 nH (nH (nH (nH (nH (nH (nH (nH (nH (l:=[q,p,o,m,k,j,g,f,c]) h 0 _) 1 _) 2 _) 3 _) 4 _) 5 _) 6 _) 7 _) 8 _
theorem Nn (ts:List Tk) (hL:∀ t∈ts,cS t) (rb:Nat) (a:Tp) (c:Nat) (s:RS) (w:World) (h:PS ts rb a c s w) {t1 t2:TN} {s1 s4:RS} {X:Tr}
 (h1:bC ts s=(t1,s1)) (r:bC ts (opS ts s1)=(t2,s4)) (L:X=⟨(bQ ts (atR s1)).text.toArray⟩) :
 Calls prog 222 #[.pointer (some ⟨rb,0,none⟩)] w fun e w'=>∃ b f j cc2,e=.returned (.agg #[.string X,.string t1.op,.string t1.nm,.int .i64 t1.n,.slice b t1.ks.len f,.string t2.op,.string t2.nm,.int .i64 t2.n,.slice j t2.ks.len cc2]) /\
  PS ts rb a c s4 w'/\aC (· = rb) w w'/\bD w.heap.size w' b t1.ks/\bD w.heap.size w' j t2.ks:=by
 have jx:=h.lt;have B1:=bA0 w (cdP ⟨⟨#[]⟩,aD,aD⟩ none 0 none 0);have NB:=heap_alloc_new w (cdP ⟨⟨#[]⟩,aD,aD⟩ none 0 none 0);have jq:(w.alloc (cdP ⟨⟨#[]⟩,aD,aD⟩ none 0 none 0)).heap.size=w.heap.size+1:=Tc _ _;have H1:=aA (h.below B1);have K1:=aA (aF B1 (· = rb));generalize hW:w.alloc (cdP ⟨⟨#[]⟩,aD,aD⟩ none 0 none 0)=W at *;have HW:=aA hW;have jk:=aA NB;have P:=aA (qM ts hL rb a c s W H1.out);rw [h1] at P;have jm:=aA r;have HX:=aA L;clear h B1 NB hW h1 r L;go_enter func222,ntmps222
 go_upto_region 1 with fail
 rw [show w.alloc (.cells #[.string ⟨#[]⟩,.string ⟨#[]⟩,.string ⟨#[]⟩,.int .i64 0,.slice none 0 0,.string ⟨#[]⟩,.string ⟨#[]⟩,.int .i64 0,.slice none 0 0] 144)=W from HW.out];go_wp2_with fail
 refine P.out.mono ?_;rintro e A ⟨b,f,rfl,P2,k2,r2⟩;have u:=bA0 A (ndG t1.op t1.nm t1.n b t1.ks.len f);have NA:=heap_alloc_new A (ndG t1.op t1.nm t1.n b t1.ks.len f);have jw:(A.alloc (ndG t1.op t1.nm t1.n b t1.ks.len f)).heap.size=A.heap.size+1:=Tc _ _;have jp:=k2.size;have P3:=aA (P2.below u);have K3:=aA ((K1.out.trans k2 (fun i l _=>l)).trans (aF u (· = rb)) (fun i l _=>l));have jf:=aA ((u.block w.heap.size (by omega)).trans (k2.heap jk.out (by omega)));have R3:=aA ((show bD (w.heap.size+1) A b t1.ks by rw [<- jq];exact r2).kept u);clear P2 k2 r2 u P jk K1 H1;go_upto_region 2 with fail
 rw [show A.alloc (.cells #[.string t1.op,.string t1.nm,.int .i64 t1.n,.slice b t1.ks.len f] 67)=A.alloc (ndG t1.op t1.nm t1.n b t1.ks.len f) from rfl];generalize A.alloc (ndG t1.op t1.nm t1.n b t1.ks.len f)=W1 at *;generalize A.heap.size=B at *;have jz:w.heap.size<B:=by omega
 have jl:=aA NA;have CN:=mT ts rb a c (atR s1) s1.bad W1 P3.out;have TL:(bQ ts (atR s1)).kind=3->atR s1<ts.length:=fun H=>Cc (by rw [H];decide)
 have L:=HX.out;have r:=jm.out;unfold opS at r;obtain ⟨t,ht⟩:∃ t,bQ ts (atR s1)=t:=⟨_,rfl⟩;rw [ht] at CN TL L r;rw [sU, <- L] at CN;rw [<- L] at r;obtain ⟨k,s',nn,pp⟩:=t;simp only at CN TL r;have HN:=aA CN;have HT:=aA TL;have HC:=aA r;clear CN TL r L ht HX jm NA jp;go_wp2_with fail
 refine HN.out.mono ?_;rintro e w2 ⟨rfl,I⟩;have u:=bA0 w2 (tkO k X nn pp);have NA:=heap_alloc_new w2 (tkO k X nn pp);have jv:(w2.alloc (tkO k X nn pp)).heap.size=w2.heap.size+1:=Tc _ _;have jo:=I.size;have P4:=aA ((P3.out.below I).below u);have K4:=aA ((K3.out.trans (aF I (· = rb)) (fun i l _=>l)).trans (aF u (· = rb)) (fun i l _=>l));have je:=aA ((u.block w.heap.size (by omega)).trans ((I.block w.heap.size (by omega)).trans jf.out));have jh:=aA ((u.block B (by omega)).trans ((I.block B (by omega)).trans jl.out));have R4:=aA ((R3.out.kept I).kept u);clear I u P3 K3 jf jl R3 HN;go_upto_region 3 with fail
 generalize w2.alloc (tkO k X nn pp)=W2 at *;generalize w2.heap.size=T at *;have jy:B<T:=by omega
 obtain ⟨⟨x0,E,x2,x3⟩, -⟩:=aL NA;have jj:=aA NA;clear NA jo;have CM:=aA (fun so=>iC ts rb a c s1 so 2 (by decide) W2 P4.out);obtain ⟨z,hz⟩:∃ z,((k == 3) && (bE X 0 0).isSome)=z:=⟨_,rfl⟩;rw [hz] at HC;have HZ:=aA hz
 have CS:=aA (fun V (hV:PS ts rb a c (bY z 2 s1) V)=>kM ts rb a c (bY z 2 s1) (fun hh=>by
  rw [jN];have r:=lQ (by decide) hh;have h3:=HZ.out;rw [r.1,Bool.and_eq_true] at h3;have:=HT.out (by simpa using h3.1);rw [lK r.2] at this;exact this) V hV)
 clear hz;go_cut [] (fun wc=>Hid (PS ts rb a c (bY z 2 s1) wc)/\Hid (aC (· = rb) W2 wc))
 case first =>
  cases p:(k == 3) with
  | true =>
    have q:(k == 3)=true:=p;have MO:=aA (Bk X W2);have hz:(bE X 0 0).isSome=z:=by rw [<- HZ.out,p,Bool.true_and]
    rw [hz] at MO;clear p hz;go_wp2_with fail
    refine MO.out.mono ?_;rintro e w3 ⟨rfl,rfl⟩;go_wp2_with fail
    refine (CM.out z).mono ?_;rintro e x ⟨rfl,G,k5⟩;have C:=aA G;have K6:=aA k5;clear G k5;go_wp2_with fail
    go_meet;case rel=>exact ⟨C,K6⟩
  | false =>
    have q:(k == 3)=false:=p;have hz:false=z:=by rw [<- HZ.out,p,Bool.false_and]
    subst hz;clear p;go_wp2_with fail
    refine (CM.out false).mono ?_;rintro e x ⟨rfl,G,k5⟩;have C:=aA G;have K6:=aA k5;clear G k5;go_wp2_with fail
    go_meet;case rel=>exact ⟨C,K6⟩
 case rest =>
  obtain ⟨G,O⟩:=hcut;clear x0 E x2 x3 CM;go_wp2_with fail
  refine (CS.out _ G.out).mono ?_;rintro e x ⟨rfl,C,m⟩;have jn:=Nat.le_trans O.out.size m.size;have PD:=aA (show PS ts rb a c (goR (bY z 2 s1)) x.drew from C.drewN 1);have KD:=aA (show aC (· = rb) w x.drew from ((K4.out.trans O.out (fun i l _=>l)).trans m (fun i l _=>l)).drewN 1);have M:=m.heap (O.out.heap jj.out (by omega)) (by omega);have N:=m.heap (O.out.heap jh.out (by omega)) (by omega);have jd:=m.heap (O.out.heap je.out (by omega)) (by omega);have jr:=aA (show x.drew.heap[T]? = _ from M);have jt:=aA (show x.drew.heap[B]? = _ from N);have js:=aA (show x.drew.heap[w.heap.size]? = _ from jd);have RD:=aA (show bD (w.heap.size+1) x.drew b t1.ks from (R4.out.keptS O.out (fun k H=>by omega)).keptS (m.drewN 1) (fun k H=>by omega));have ji:=aA (show w.heap.size+1<=x.drew.heap.size by show _<=x.heap.size;omega)
  have CE:=aA (fun V (hV:PS ts rb a c (goR (bY z 2 s1)) V)=>by
   have:=qM ts hL rb a c _ V hV;rw [HC.out] at this;exact this)
  obtain ⟨⟨-,E, -, -⟩, -⟩:=aL M;obtain ⟨⟨Z,Y,U,R⟩, -⟩:=aL N;clear C m M N jd G O CS P4 K4 je jh R4 jj jn;go_upto_region 5 with fail
  refine wp_region_held_drew (S:=fun V=>V.cell? ⟨T,1,none⟩=some (.string X)/\V.cell? ⟨B,0,none⟩=some (.string t1.op)/\V.cell? ⟨B,1,none⟩=some (.string t1.nm)/\V.cell? ⟨B,2,none⟩=some (.int .i64 t1.n)/\V.cell? ⟨B,3,none⟩=some (.slice b t1.ks.len f)) (by kernel_rfl) ⟨E,Z,Y,U,R⟩ (fun hHeld=>?_);refine aB (i:=0) (d:=some 21) (v:=.pointer (some ⟨T,1,none⟩)) rfl rfl (by kernel_rfl) (by kernel_rfl) (by kernel_rfl) (fun _ _ _ h=>h) (Or.inl ⟨by rfl,by rintro w ⟨E,Z,Y,U,R⟩;go_simp⟩) hHeld ?_;simp only [Act.put,S7,S9,Ta];refine aB (i:=1) (d:=some 22) (v:=.string X) rfl rfl (by kernel_rfl) (by kernel_rfl) (by kernel_rfl) (fun _ _ _ h=>h) (Or.inl ⟨by rfl,by rintro w ⟨E,Z,Y,U,R⟩;go_simp⟩) hHeld ?_;simp only [Act.put,S7,S9,Ta];refine aB (i:=2) (d:=some 23) (v:=bN t1.op t1.nm t1.n b t1.ks.len f) rfl rfl (by kernel_rfl) (by kernel_rfl) (by kernel_rfl) (fun _ _ _ h=>h) (Or.inl ⟨by rfl,by rintro w ⟨E,Z,Y,U,R⟩;go_simp⟩) hHeld ?_;simp only [Act.put,S7,S9,Ta];refine aB (i:=3) (d:=some 24) (v:=.pointer (some ⟨rb,0,none⟩)) rfl rfl (by kernel_rfl) (by kernel_rfl) (by kernel_rfl) (fun _ _ _ h=>h) (Or.inl ⟨by rfl,by rintro w ⟨E,Z,Y,U,R⟩;go_simp⟩) hHeld ?_;simp only [Act.put,S7,S9,Ta];refine wpAnyH_ready (rs:=[4]) (by kernel_rfl) (by simp) ?_;refine AllReadyH.cons (o:=_) rfl (fun K hK=>?_) AllReadyH.nil;go_simp
  refine (CE.out _ PD.out).mono ?_;rintro e w5 ⟨j,cc2,rfl,C,m,r6⟩;have jb:=m.heap jr.out (by omega);have jg:=m.heap jt.out (by omega);have D:=m.heap js.out (by omega);have K6:=KD.out.trans m (fun i l _=>l);have ja:=RD.out.keptS m (fun k H=>by omega)
  have cc:w5.cell? ⟨T,1,none⟩=some (.string X)/\w5.cell? ⟨B,0,none⟩=some (.string t1.op)/\w5.cell? ⟨B,1,none⟩=some (.string t1.nm)/\w5.cell? ⟨B,2,none⟩=some (.int .i64 t1.n)/\w5.cell? ⟨B,3,none⟩=some (.slice b t1.ks.len f):=by
   obtain ⟨⟨-,u1, -, -⟩, -⟩:=aL jb;obtain ⟨⟨v0,v1,v2,v3⟩, -⟩:=aL jg;exact ⟨u1,v0,v1,v2,v3⟩
  refine hK.out _ _ cc (fun hHeld2=>?_);try simp only [Act.put,S7,S9,Ta]
  clear hK K;refine aB (i:=5) (d:=some 26) (v:=.agg #[.string X,.string t1.op,.string t1.nm,.int .i64 t1.n,.slice b t1.ks.len f,.string t2.op,.string t2.nm,.int .i64 t2.n,.slice j t2.ks.len cc2]) rfl rfl (by kernel_rfl) (by kernel_rfl) (by kernel_rfl) (fun _ _ _ h=>h) (Or.inl ⟨by rfl,by rintro w ⟨E,Z,Y,U,R⟩;go_simp⟩) hHeld2 ?_;simp only [Act.put,S7,S9,Ta];have y:=Jv w5 w.heap.size ⟨X,t1,t2⟩ b f j cc2;have jc:=L4 D ⟨X,t1,t2⟩ b f j cc2;obtain ⟨z0,z1,z2,z3,z4,z5,z6,z7,z8⟩:=vV D;obtain ⟨o0,o1,o2,o3,o4,o5,o6,o7,o8⟩:=iD D;have CC:=And.intro (y.cell hHeld2.1 (by show ¬ T=_;omega)) (And.intro (y.cell hHeld2.2.1 (by show ¬ B=_;omega)) (And.intro (y.cell hHeld2.2.2.1 (by show ¬ B=_;omega)) (And.intro (y.cell hHeld2.2.2.2.1 (by show ¬ B=_;omega)) (y.cell hHeld2.2.2.2.2 (by show ¬ B=_;omega)))));refine wpAnyH_ready (rs:=[6]) (by kernel_rfl) (by simp) ?_;refine AllReadyH.cons (o:=_) rfl (fun K hK=>?_) AllReadyH.nil;go_simp
  refine hK.out _ _ CC (fun hHeld3=>?_);try simp only [Act.put,S7,S9,Ta]
  clear hK K;refine wpAnyH_done (by kernel_rfl) ?_ _;have ju:=aA (And.intro (C.kept y (fun k H=>by omega)) (And.intro (K6.trans (y.mono (T:=fun i=>w.heap.size<=i) (fun i l _=>by omega)) (fun i l hl=>by omega)) (And.intro ((ja.keptS y (fun k H=>by omega)).mono (show w.heap.size<=w.heap.size+1 by omega)) ((r6.keptS y (fun k H=>by have:=ji.out;omega)).mono (show w.heap.size<=_ by have:=ji.out;omega)))));obtain ⟨d0,d1,d2,d3,d4,d5,d6,d7,d8⟩:=iD jc;clear hHeld hHeld2 hHeld3 CC cc y jb jg D jc K6 ja C m r6 z0 z1 z2 z3 z4 z5 z6 z7 z8 o0 o1 o2 o3 o4 o5 o6 o7 o8;go_wp2
  exact bodyPost_ret (v:=.agg #[.string X,.string t1.op,.string t1.nm,.int .i64 t1.n,.slice b t1.ks.len f,.string t2.op,.string t2.nm,.int .i64 t2.n,.slice j t2.ks.len cc2]) (by simp [results,results222,go_sem,d0,d1,d2,d3,d4,d5,d6,d7,d8]) rfl ⟨b,f,j,⟨cc2,rfl⟩,ju.out⟩
theorem Kd (ts:List Tk) (o:∀ t∈ts,cS t) (m:∀ t∈ts,Fn t) (rb:Nat) (a:Tp) (c:Nat) (s:RS) (w:World) (h:PS ts rb a c s w) :
 Calls prog 222 #[.pointer (some ⟨rb,0,none⟩)] w fun e w'=>∃ (d:CD) (g:Tp) (j:Nat) (f:Tp) (cc2:Nat),e=.returned (.agg #[.string d.op,.string d.a.op,.string d.a.nm,.int .i64 d.a.n,.slice g d.a.ks.len j,.string d.b.op,.string d.b.nm,.int .i64 d.b.n,.slice f d.b.ks.len cc2]) /\
  PS ts rb a c (cB ts s).2 w'/\aC (· = rb) w w'/\bD w.heap.size w' g d.a.ks/\bD w.heap.size w' f d.b.ks/\((cB ts s).2.bad=0->(cB ts s).1=d):=by
 obtain ⟨q,p⟩:=Qf m s;refine (Nn ts o rb a c s w h (t1:=(bC ts s).1) (s1:=(bC ts s).2) (t2:=(bC ts (opS ts (bC ts s).2)).1) (s4:=(bC ts (opS ts (bC ts s).2)).2) rfl rfl rfl).mono ?_;rintro e w' ⟨g,j,f,cc2,l,hp,k,r1,r2⟩;rw [q] at hp;exact ⟨⟨_,_,_⟩,g,j,f,cc2,l,hp,k,r1,r2,p⟩
end Go.Proofs.YtgfkjkokmcejbaaGreatDoor
