/-
 No statement: what ProgTextsLift needs, of the texts OE6.
-/
import Derived.Test.YtgfkjkokmcejbaaGreatDoorVX4
set_option maxHeartbeats 40000000
set_option maxRecDepth 100000
open List renaming length_append -> Tb, length_cons -> Te, length_eq_zero_iff -> Tg
open Go.World renaming size_alloc -> Tc
open Nat renaming le_refl -> Td
open Go.Lib renaming toList_data -> Tm
namespace Go.Proofs.YtgfkjkokmcejbaaGreatDoor
open Go.RowKit Tryz
theorem Lj:(prog.info? 128).map (fun i=>(i.zero,i.size,i.bytes))=some (some (.agg #[.int .i64 0,.string ⟨#[]⟩,.int .i64 0,.int .i64 0]),4,40):=by kernel_rfl
theorem jZ {q:UInt8->Bool} {s:Tr} {k m:Nat} (a:k<s.size) (h:q s[k]=true) (hr:bR q (s.data.toList.drop k)=m-k):k<m:=by
 rw [drop_at s a] at hr;have:=tA (q:=q) (r:=s.data.toList.drop (k+1)) h;omega
abbrev rtO (k:Int) (s:Tr) (n p:Int):Obj:=.cells #[.int .i64 k,.string s,.int .i64 n,.int .i64 p] 128
theorem FL (w:World) {t:Tk} {k:Int} {s:Tr} {n p:Int} (h:tkL t=[.int .i64 k,.string s,.int .i64 n,.int .i64 p]):∀ j u,(tkL t)[j]? = some u->(w.alloc (rtO k s n p)).cell? ((⟨w.heap.size,0,none⟩:Addr).add j)=some u:=fun j u a=>by
 rw [h] at a;rw [Addr.add_lit,Nat.zero_add,cell_of_row _ _ _ _ _ (0,0) (heap_alloc_new w _)];simpa using a
theorem kU (s:Tr) (k m:Nat) (kd a:Int):tkL ⟨kd,(s.data.toList.drop k).take (m-k),a,k⟩=[.int .i64 kd,.string (s.extract k m),.int .i64 a,.int .i64 k]:=by
 rw [<- gI];unfold tkL;rfl
theorem Fb (s:Tr):s.data.toList.length=s.size:=by simp
theorem wI {c:UInt8} (h:bH c=true):a8 c=true:=by unfold a8;rw [h];rfl
theorem Fk {c:UInt8} (h:aZ c=true):a8 c=true:=by unfold a8;rw [h,Bool.or_true]
theorem Ks {c:UInt8} (h:bH c=false) (a:aZ c=false):a8 c=false:=by unfold a8;rw [h,a];rfl
theorem vP (s:Tr) (w:World):Calls prog 59 #[.string s] w (xB 128 (gY s.data.toList) w):=by
 have hl:s.data.toList.length=s.size:=by simp
 by_cases jj:1024<s.size
 · have P:=aA (show xB 128 (gY s.data.toList) w (.returned (.tuple #[.slice none 0 0,.int .i64 0,.int .i64 4])) w from by
    unfold gY;rw [if_pos (by omega)];exact ⟨Below.refl _ _,rfl⟩)
   clear hl;go_enter func59,ntmps59
   go_wp2_with fail
   go_ret3
   exact P.out
 have hm:s.size<=281474976710656:=by omega
 obtain ⟨i0,hi,jc,jb,ja⟩:=info_parts Lj;have Z:prog.underlying 121=some (.slice 128):=underlying121
 have O:gY s.data.toList=cR s.data.toList 0:=by
  unfold gY;rw [if_neg (by omega)]
 rw [O];obtain ⟨E,jh⟩:∃ E,cR s.data.toList 0=E:=⟨_,rfl⟩;rw [jh];have K0:=aA (show (cR (s.data.toList.drop 0) 0).after []=E by rw [rI,List.drop_zero];exact jh);clear O jh hl;go_enter func59,ntmps59
 go_wp2_with fail
 go_loopw [5,6] (fun v i wr=>∃ (k:Nat) (M:Tp) (vc:Nat) (T:List Tk),v=.slice M T.length vc/\i=.int .i64 k/\k<=s.size/\T.length<=k/\Hid ((cR (s.data.toList.drop k) k).after T=E)/\Hid (wr.ownsRow w.heap.size 128 4 (.slice M T.length vc) T.length (fV T))/\Hid (Below w.heap.size w wr)) (fun _ i _=>s.size-(intOf i).toNat)
 case atStart=>exact ⟨0,none,0,[],rfl,rfl,by omega,by simp,K0,aA (World.ownsRow_nil _ _ _ _),aA (Below.refl _ _)⟩
 case round =>
  obtain ⟨k,M,vc,T,rfl,rfl,hk,jm,O,hO,g⟩:=hrel;by_cases b:k<s.size
  · by_cases jd:s[k]=32
    · have ji:((s[k].toNat:Int) == 32)=true:=oE (k:=32) (by decide) jd
      have z:=aA (Qc b jd O.out);clear jd;go_wp2_with fail
      go_roundw
      case rel=>exact ⟨k+1,M,vc,T,rfl,by go_num,by omega,by omega,z,hO,g⟩
      case measure=>simp [intOf];omega
    have ji:((s[k].toNat:Int) == 32)=false:=gK (k:=32) (by decide) jd;have u:=aA jd;clear jd;cases hs:bH s[k] with
    | true =>
      have LK:=aA (p:=∀ w,Calls prog 119 #[.int .u8 s[k].toNat] w fun e w'=>e=.returned (.bool true)/\w=w') (fun w=>by have:=fC s[k] w;rwa [hs] at this);have FF:=aA (EP b hs);have HA:=aA (wI hs);clear hs;go_wp2_with (first | (go_at_call 119;refine (LK.out _).mono ?_;rintro e w' ⟨rfl,rfl⟩))
      go_loop [7] (fun v=>∃ m:Nat,k<=m/\m<=s.size/\v=.int .i64 m/\Hid (∀ j (h:j<s.size),k<=j->j<m->a8 s[j]=true)) (fun v=>s.size-(intOf v).toNat)
      case atStart=>exact ⟨k,by omega,by omega,rfl,aA (fun j _ h1 h2=>by omega)⟩
      case round =>
       obtain ⟨m,jf,N,rfl,X⟩:=hrel;by_cases je:m<s.size
       · cases ha:bH s[m] with
         | true =>
           have AL:=wI ha
           have V:=aA (show ∀ j (h:j<s.size),k<=j->j<m+1->a8 s[j]=true from fun j hj h1 h2=>by
            by_cases e:j=m
            · subst e;exact AL
            · exact X.out j hj h1 (by omega))
           have LM:=aA (p:=∀ w,Calls prog 119 #[.int .u8 s[m].toNat] w fun e w'=>e=.returned (.bool true)/\w=w') (fun w=>by have:=fC s[m] w;rwa [ha] at this);clear ha AL;go_wp2_with (first | (go_at_call 119;refine (LM.out _).mono ?_;rintro e w' ⟨rfl,rfl⟩))
           go_round
           case rel=>exact ⟨m+1,by omega,by omega,by go_num,V⟩
           case measure=>simp [intOf];omega
         | false =>
           cases l:aZ s[m] with
           | true =>
             have AL:=Fk l
             have V:=aA (show ∀ j (h:j<s.size),k<=j->j<m+1->a8 s[j]=true from fun j hj h1 h2=>by
              by_cases e:j=m
              · subst e;exact AL
              · exact X.out j hj h1 (by omega))
             have LM:=aA (p:=∀ w,Calls prog 119 #[.int .u8 s[m].toNat] w fun e w'=>e=.returned (.bool false)/\w=w') (fun w=>by have:=fC s[m] w;rwa [ha] at this);have DM:=aA (p:=∀ w,Calls prog 120 #[.int .u8 s[m].toNat] w fun e w'=>e=.returned (.bool true)/\w=w') (fun w=>by have:=iY s[m] w;rwa [l] at this);clear ha l AL;go_wp2_with (first | (go_at_call 119;refine (LM.out _).mono ?_;rintro e w' ⟨rfl,rfl⟩) | (go_at_call 120;refine (DM.out _).mono ?_;rintro e w' ⟨rfl,rfl⟩))
             go_round
             case rel=>exact ⟨m+1,by omega,by omega,by go_num,V⟩
             case measure=>simp [intOf];omega
           | false =>
             have LM:=aA (p:=∀ w,Calls prog 119 #[.int .u8 s[m].toNat] w fun e w'=>e=.returned (.bool false)/\w=w') (fun w=>by have:=fC s[m] w;rwa [ha] at this);have DM:=aA (p:=∀ w,Calls prog 120 #[.int .u8 s[m].toNat] w fun e w'=>e=.returned (.bool false)/\w=w') (fun w=>by have:=iY s[m] w;rwa [l] at this);have hr:=tB jf N X.out (fun _=>Ks ha l);have y:=jZ b HA.out hr;by_cases h8:8<m-k
             · have R:=aA (wG b u.out O.out (FF.out.trans (Bj hr h8)))
               have g1:(8:Int)<(m:Int)-(k:Int):=by omega
               clear hr ha l;go_wp2_with (first | (go_at_call 119;refine (LM.out _).mono ?_;rintro e w' ⟨rfl,rfl⟩) | (go_at_call 120;refine (DM.out _).mono ?_;rintro e w' ⟨rfl,rfl⟩))
               go_ret3
               rw [R.out];exact ⟨g.out,rfl⟩
             · have S:=E7 b u.out y O.out (FF.out.trans (yL hr h8))
               have g1:¬ (8:Int)<(m:Int)-(k:Int):=by omega
               obtain ⟨t,o⟩:∃ t:Tk,t=⟨1,(s.data.toList.drop k).take (m-k),0,k⟩:=⟨_,rfl⟩;have z:=aA (show (cR (s.data.toList.drop m) m).after (T++[t])=E by rw [o];exact S);have a:tkL t=[.int .i64 1,.string (s.extract k m),.int .i64 0,.int .i64 k]:=by rw [o];exact kU s k m _ _
               have L:=aA (FL wr a);have H:=aA (show (wr.alloc (rtO 1 (s.extract k m) 0 k)).ownsRow w.heap.size 128 4 (.slice M T.length vc) T.length (fV T) from hO.out.alloc _);have hz:=g.out.size;have x:=aA (show w.heap.size<=(wr.alloc (rtO 1 (s.extract k m) 0 k)).heap.size by rw [Tc];omega);have f:=aA (fun q r=>hO.out.lt q r);clear S o a hr ha l;go_wp2_with (first | (go_at_call 119;refine (LM.out _).mono ?_;rintro e w' ⟨rfl,rfl⟩) | (go_at_call 120;refine (DM.out _).mono ?_;rintro e w' ⟨rfl,rfl⟩) | (at_builtin;refine aS rfl _ _ 121 rfl (base:=w.heap.size) Z hi jc jb ja rfl (by decide) (.slice M T.length vc) T.length 1 1 ⟨wr.heap.size,0,none⟩ (fV T) (tkL t) rfl rfl H.out rfl L.out (lN _) (by unfold maxLen;omega) (by omega) x.out ?_))
               intro v6 C ho D _;obtain ⟨c,G,rfl⟩:=eL ho;have B6:=aA (show Below w.heap.size w C from (g.out.alloc g.out.size _).grown D x.out (fun q r=>(f.out q r).1));have I:=aA (show C.ownsRow w.heap.size 128 4 (.slice c (T++[t]).length G) (T++[t]).length (fV (T++[t])) by rw [iA,Tb];exact ho);rw [show T.length+1=(T++[t]).length by rw [Tb];rfl];have d:(T++[t]).length<=m:=by rw [Tb];show T.length+1<=m;omega
               generalize T++[t]=T2 at z I d;clear ho D H L x f;go_wp2_with fail
               go_roundw
               case rel=>exact ⟨m,c,G,T2,rfl,by go_num,by omega,d,z,I,B6⟩
               case measure=>simp [intOf];omega
       · have hr:=tB jf N X.out (fun h=>absurd h je)
         have y:=jZ b HA.out hr;by_cases h8:8<m-k
         · have R:=aA (wG b u.out O.out (FF.out.trans (Bj hr h8)))
           have g1:(8:Int)<(m:Int)-(k:Int):=by omega
           clear hr;go_wp2_with (first | fail)
           go_ret3
           rw [R.out];exact ⟨g.out,rfl⟩
         · have S:=E7 b u.out y O.out (FF.out.trans (yL hr h8))
           have g1:¬ (8:Int)<(m:Int)-(k:Int):=by omega
           obtain ⟨t,o⟩:∃ t:Tk,t=⟨1,(s.data.toList.drop k).take (m-k),0,k⟩:=⟨_,rfl⟩;have z:=aA (show (cR (s.data.toList.drop m) m).after (T++[t])=E by rw [o];exact S);have a:tkL t=[.int .i64 1,.string (s.extract k m),.int .i64 0,.int .i64 k]:=by rw [o];exact kU s k m _ _
           have L:=aA (FL wr a);have H:=aA (show (wr.alloc (rtO 1 (s.extract k m) 0 k)).ownsRow w.heap.size 128 4 (.slice M T.length vc) T.length (fV T) from hO.out.alloc _);have hz:=g.out.size;have x:=aA (show w.heap.size<=(wr.alloc (rtO 1 (s.extract k m) 0 k)).heap.size by rw [Tc];omega);have f:=aA (fun q r=>hO.out.lt q r);clear S o a hr;go_wp2_with (first | fail | (at_builtin;refine aS rfl _ _ 121 rfl (base:=w.heap.size) Z hi jc jb ja rfl (by decide) (.slice M T.length vc) T.length 1 1 ⟨wr.heap.size,0,none⟩ (fV T) (tkL t) rfl rfl H.out rfl L.out (lN _) (by unfold maxLen;omega) (by omega) x.out ?_))
           intro v6 C ho D _;obtain ⟨c,G,rfl⟩:=eL ho;have B6:=aA (show Below w.heap.size w C from (g.out.alloc g.out.size _).grown D x.out (fun q r=>(f.out q r).1));have I:=aA (show C.ownsRow w.heap.size 128 4 (.slice c (T++[t]).length G) (T++[t]).length (fV (T++[t])) by rw [iA,Tb];exact ho);rw [show T.length+1=(T++[t]).length by rw [Tb];rfl];have d:(T++[t]).length<=m:=by rw [Tb];show T.length+1<=m;omega
           generalize T++[t]=T2 at z I d;clear ho D H L x f;go_wp2_with fail
           go_roundw
           case rel=>exact ⟨m,c,G,T2,rfl,by go_num,by omega,d,z,I,B6⟩
           case measure=>simp [intOf];omega
    | false =>
      cases hd:aZ s[k] with
      | true =>
        have LK:=aA (p:=∀ w,Calls prog 119 #[.int .u8 s[k].toNat] w fun e w'=>e=.returned (.bool false)/\w=w') (fun w=>by have:=fC s[k] w;rwa [hs] at this);have DK:=aA (p:=∀ w,Calls prog 120 #[.int .u8 s[k].toNat] w fun e w'=>e=.returned (.bool true)/\w=w') (fun w=>by have:=iY s[k] w;rwa [hd] at this);have FF:=aA (ER b hs hd);have HA:=aA hd;clear hs hd;go_wp2_with (first | (go_at_call 119;refine (LK.out _).mono ?_;rintro e w' ⟨rfl,rfl⟩) | (go_at_call 120;refine (DK.out _).mono ?_;rintro e w' ⟨rfl,rfl⟩))
        go_loop [7] (fun v=>∃ m:Nat,k<=m/\m<=s.size/\v=.int .i64 m/\Hid (∀ j (h:j<s.size),k<=j->j<m->aZ s[j]=true)) (fun v=>s.size-(intOf v).toNat)
        case atStart=>exact ⟨k,by omega,by omega,rfl,aA (fun j _ h1 h2=>by omega)⟩
        case round =>
         obtain ⟨m,jf,N,rfl,X⟩:=hrel;by_cases je:m<s.size
         · cases ha:aZ s[m] with
           | true =>
             have AL:=ha
             have V:=aA (show ∀ j (h:j<s.size),k<=j->j<m+1->aZ s[j]=true from fun j hj h1 h2=>by
              by_cases e:j=m
              · subst e;exact AL
              · exact X.out j hj h1 (by omega))
             have DM:=aA (p:=∀ w,Calls prog 120 #[.int .u8 s[m].toNat] w fun e w'=>e=.returned (.bool true)/\w=w') (fun w=>by have:=iY s[m] w;rwa [ha] at this);clear ha AL;go_wp2_with (first | (go_at_call 120;refine (DM.out _).mono ?_;rintro e w' ⟨rfl,rfl⟩))
             go_round
             case rel=>exact ⟨m+1,by omega,by omega,by go_num,V⟩
             case measure=>simp [intOf];omega
           | false =>
             have DM:=aA (p:=∀ w,Calls prog 120 #[.int .u8 s[m].toNat] w fun e w'=>e=.returned (.bool false)/\w=w') (fun w=>by have:=iY s[m] w;rwa [ha] at this);have hr:=tB jf N X.out (fun _=>ha);have y:=jZ b HA.out hr;by_cases A:1<m-k/\s[k]=48
             · have R:=aA (wG b u.out O.out (FF.out.trans (Qu b hr A.1 A.2)))
               have g1:(1:Int)<(m:Int)-(k:Int):=by omega
               have g2:((s[k].toNat:Int) == 48)=true:=oE (k:=48) (by decide) A.2;clear hr A ha;go_wp2_with (first | (go_at_call 120;refine (DM.out _).mono ?_;rintro e w' ⟨rfl,rfl⟩))
               go_ret3
               rw [R.out];exact ⟨g.out,rfl⟩
             cases B:bH s[m] with
             | true =>
               have LM:=aA (p:=∀ w,Calls prog 119 #[.int .u8 s[m].toNat] w fun e w'=>e=.returned (.bool true)/\w=w') (fun w=>by have:=fC s[m] w;rwa [B] at this);have R:=aA (wG b u.out O.out (FF.out.trans (Sl (by omega) hr je B)));by_cases g0:1<m-k
               · have g1:(1:Int)<(m:Int)-(k:Int):=by omega
                 have g2:((s[k].toNat:Int) == 48)=false:=gK (k:=48) (by decide) (fun e=>A ⟨g0,e⟩);clear hr A B ha;go_wp2_with (first | (go_at_call 120;refine (DM.out _).mono ?_;rintro e w' ⟨rfl,rfl⟩) | (go_at_call 119;refine (LM.out _).mono ?_;rintro e w' ⟨rfl,rfl⟩))
                 go_ret3
                 rw [R.out];exact ⟨g.out,rfl⟩
               · have g1:¬ (1:Int)<(m:Int)-(k:Int):=by omega
                 clear hr A B ha;go_wp2_with (first | (go_at_call 120;refine (DM.out _).mono ?_;rintro e w' ⟨rfl,rfl⟩) | (go_at_call 119;refine (LM.out _).mono ?_;rintro e w' ⟨rfl,rfl⟩))
                 go_ret3
                 rw [R.out];exact ⟨g.out,rfl⟩
             | false =>
               have LM:=aA (p:=∀ w,Calls prog 119 #[.int .u8 s[m].toNat] w fun e w'=>e=.returned (.bool false)/\w=w') (fun w=>by have:=fC s[m] w;rwa [B] at this);have l:∀ h:m<s.size,bH s[m]=false:=fun _=>B
               have Y:=aA (fun w=>vQ (s.extract k m) (by rw [ByteArray.size_extract];omega) w);cases U:fZ (s.extract k m).data.toList with
               | none =>
                 have R:=aA (wG b u.out O.out (FF.out.trans (Qs b y N hr A l U)));rw [U] at Y;unfold Aw at Y;by_cases g0:1<m-k
                 · have g1:(1:Int)<(m:Int)-(k:Int):=by omega
                   have g2:((s[k].toNat:Int) == 48)=false:=gK (k:=48) (by decide) (fun e=>A ⟨g0,e⟩);clear hr A U l ha B;go_wp2_with (first | (go_at_call 120;refine (DM.out _).mono ?_;rintro e w' ⟨rfl,rfl⟩) | (go_at_call 119;refine (LM.out _).mono ?_;rintro e w' ⟨rfl,rfl⟩) | (go_at_call 121;refine (Y.out _).mono ?_;rintro e w' ⟨rfl,rfl⟩))
                   go_ret3
                   rw [R.out];exact ⟨g.out,rfl⟩
                 · have g1:¬ (1:Int)<(m:Int)-(k:Int):=by omega
                   clear hr A U l ha B;go_wp2_with (first | (go_at_call 120;refine (DM.out _).mono ?_;rintro e w' ⟨rfl,rfl⟩) | (go_at_call 119;refine (LM.out _).mono ?_;rintro e w' ⟨rfl,rfl⟩) | (go_at_call 121;refine (Y.out _).mono ?_;rintro e w' ⟨rfl,rfl⟩))
                   go_ret3
                   rw [R.out];exact ⟨g.out,rfl⟩
               | some nv =>
                 obtain ⟨hf,jg⟩:=Qt b y N hr A l U;have S:=E7 b u.out y O.out (FF.out.trans hf);rw [U] at Y;unfold Aw at Y;by_cases g0:1<m-k
                 · have g1:(1:Int)<(m:Int)-(k:Int):=by omega
                   have g2:((s[k].toNat:Int) == 48)=false:=gK (k:=48) (by decide) (fun e=>A ⟨g0,e⟩);obtain ⟨t,o⟩:∃ t:Tk,t=⟨2,(s.data.toList.drop k).take (m-k),nv,k⟩:=⟨_,rfl⟩;have z:=aA (show (cR (s.data.toList.drop m) m).after (T++[t])=E by rw [o];exact S);have a:tkL t=[.int .i64 2,.string (s.extract k m),.int .i64 nv,.int .i64 k]:=by rw [o];exact kU s k m _ _
                   have L:=aA (FL wr a);have H:=aA (show (wr.alloc (rtO 2 (s.extract k m) nv k)).ownsRow w.heap.size 128 4 (.slice M T.length vc) T.length (fV T) from hO.out.alloc _);have hz:=g.out.size;have x:=aA (show w.heap.size<=(wr.alloc (rtO 2 (s.extract k m) nv k)).heap.size by rw [Tc];omega);have f:=aA (fun q r=>hO.out.lt q r);clear S o a hr A U l hf jg ha B;go_wp2_with (first | (go_at_call 120;refine (DM.out _).mono ?_;rintro e w' ⟨rfl,rfl⟩) | (go_at_call 119;refine (LM.out _).mono ?_;rintro e w' ⟨rfl,rfl⟩) | (go_at_call 121;refine (Y.out _).mono ?_;rintro e w' ⟨rfl,rfl⟩) | (at_builtin;refine aS rfl _ _ 121 rfl (base:=w.heap.size) Z hi jc jb ja rfl (by decide) (.slice M T.length vc) T.length 1 1 ⟨wr.heap.size,0,none⟩ (fV T) (tkL t) rfl rfl H.out rfl L.out (lN _) (by unfold maxLen;omega) (by omega) x.out ?_))
                   intro v6 C ho D _;obtain ⟨c,G,rfl⟩:=eL ho;have B6:=aA (show Below w.heap.size w C from (g.out.alloc g.out.size _).grown D x.out (fun q r=>(f.out q r).1));have I:=aA (show C.ownsRow w.heap.size 128 4 (.slice c (T++[t]).length G) (T++[t]).length (fV (T++[t])) by rw [iA,Tb];exact ho);rw [show T.length+1=(T++[t]).length by rw [Tb];rfl];have d:(T++[t]).length<=m:=by rw [Tb];show T.length+1<=m;omega
                   generalize T++[t]=T2 at z I d;clear ho D H L x f;go_wp2_with fail
                   go_roundw
                   case rel=>exact ⟨m,c,G,T2,rfl,by go_num,by omega,d,z,I,B6⟩
                   case measure=>simp [intOf];omega
                 · have g1:¬ (1:Int)<(m:Int)-(k:Int):=by omega
                   obtain ⟨t,o⟩:∃ t:Tk,t=⟨2,(s.data.toList.drop k).take (m-k),nv,k⟩:=⟨_,rfl⟩;have z:=aA (show (cR (s.data.toList.drop m) m).after (T++[t])=E by rw [o];exact S);have a:tkL t=[.int .i64 2,.string (s.extract k m),.int .i64 nv,.int .i64 k]:=by rw [o];exact kU s k m _ _
                   have L:=aA (FL wr a);have H:=aA (show (wr.alloc (rtO 2 (s.extract k m) nv k)).ownsRow w.heap.size 128 4 (.slice M T.length vc) T.length (fV T) from hO.out.alloc _);have hz:=g.out.size;have x:=aA (show w.heap.size<=(wr.alloc (rtO 2 (s.extract k m) nv k)).heap.size by rw [Tc];omega);have f:=aA (fun q r=>hO.out.lt q r);clear S o a hr A U l hf jg ha B;go_wp2_with (first | (go_at_call 120;refine (DM.out _).mono ?_;rintro e w' ⟨rfl,rfl⟩) | (go_at_call 119;refine (LM.out _).mono ?_;rintro e w' ⟨rfl,rfl⟩) | (go_at_call 121;refine (Y.out _).mono ?_;rintro e w' ⟨rfl,rfl⟩) | (at_builtin;refine aS rfl _ _ 121 rfl (base:=w.heap.size) Z hi jc jb ja rfl (by decide) (.slice M T.length vc) T.length 1 1 ⟨wr.heap.size,0,none⟩ (fV T) (tkL t) rfl rfl H.out rfl L.out (lN _) (by unfold maxLen;omega) (by omega) x.out ?_))
                   intro v6 C ho D _;obtain ⟨c,G,rfl⟩:=eL ho;have B6:=aA (show Below w.heap.size w C from (g.out.alloc g.out.size _).grown D x.out (fun q r=>(f.out q r).1));have I:=aA (show C.ownsRow w.heap.size 128 4 (.slice c (T++[t]).length G) (T++[t]).length (fV (T++[t])) by rw [iA,Tb];exact ho);rw [show T.length+1=(T++[t]).length by rw [Tb];rfl];have d:(T++[t]).length<=m:=by rw [Tb];show T.length+1<=m;omega
                   generalize T++[t]=T2 at z I d;clear ho D H L x f;go_wp2_with fail
                   go_roundw
                   case rel=>exact ⟨m,c,G,T2,rfl,by go_num,by omega,d,z,I,B6⟩
                   case measure=>simp [intOf];omega
         · have hr:=tB jf N X.out (fun h=>absurd h je)
           have y:=jZ b HA.out hr;by_cases A:1<m-k/\s[k]=48
           · have R:=aA (wG b u.out O.out (FF.out.trans (Qu b hr A.1 A.2)))
             have g1:(1:Int)<(m:Int)-(k:Int):=by omega
             have g2:((s[k].toNat:Int) == 48)=true:=oE (k:=48) (by decide) A.2;clear hr A;go_wp2_with (first | fail)
             go_ret3
             rw [R.out];exact ⟨g.out,rfl⟩
           have l:∀ h:m<s.size,bH s[m]=false:=fun h=>absurd h je
           have Y:=aA (fun w=>vQ (s.extract k m) (by rw [ByteArray.size_extract];omega) w);cases U:fZ (s.extract k m).data.toList with
           | none =>
             have R:=aA (wG b u.out O.out (FF.out.trans (Qs b y N hr A l U)));rw [U] at Y;unfold Aw at Y;by_cases g0:1<m-k
             · have g1:(1:Int)<(m:Int)-(k:Int):=by omega
               have g2:((s[k].toNat:Int) == 48)=false:=gK (k:=48) (by decide) (fun e=>A ⟨g0,e⟩);clear hr A U l;go_wp2_with (first | fail | (go_at_call 121;refine (Y.out _).mono ?_;rintro e w' ⟨rfl,rfl⟩))
               go_ret3
               rw [R.out];exact ⟨g.out,rfl⟩
             · have g1:¬ (1:Int)<(m:Int)-(k:Int):=by omega
               clear hr A U l;go_wp2_with (first | fail | (go_at_call 121;refine (Y.out _).mono ?_;rintro e w' ⟨rfl,rfl⟩))
               go_ret3
               rw [R.out];exact ⟨g.out,rfl⟩
           | some nv =>
             obtain ⟨hf,jg⟩:=Qt b y N hr A l U;have S:=E7 b u.out y O.out (FF.out.trans hf);rw [U] at Y;unfold Aw at Y;by_cases g0:1<m-k
             · have g1:(1:Int)<(m:Int)-(k:Int):=by omega
               have g2:((s[k].toNat:Int) == 48)=false:=gK (k:=48) (by decide) (fun e=>A ⟨g0,e⟩);obtain ⟨t,o⟩:∃ t:Tk,t=⟨2,(s.data.toList.drop k).take (m-k),nv,k⟩:=⟨_,rfl⟩;have z:=aA (show (cR (s.data.toList.drop m) m).after (T++[t])=E by rw [o];exact S);have a:tkL t=[.int .i64 2,.string (s.extract k m),.int .i64 nv,.int .i64 k]:=by rw [o];exact kU s k m _ _
               have L:=aA (FL wr a);have H:=aA (show (wr.alloc (rtO 2 (s.extract k m) nv k)).ownsRow w.heap.size 128 4 (.slice M T.length vc) T.length (fV T) from hO.out.alloc _);have hz:=g.out.size;have x:=aA (show w.heap.size<=(wr.alloc (rtO 2 (s.extract k m) nv k)).heap.size by rw [Tc];omega);have f:=aA (fun q r=>hO.out.lt q r);clear S o a hr A U l hf jg;go_wp2_with (first | fail | (go_at_call 121;refine (Y.out _).mono ?_;rintro e w' ⟨rfl,rfl⟩) | (at_builtin;refine aS rfl _ _ 121 rfl (base:=w.heap.size) Z hi jc jb ja rfl (by decide) (.slice M T.length vc) T.length 1 1 ⟨wr.heap.size,0,none⟩ (fV T) (tkL t) rfl rfl H.out rfl L.out (lN _) (by unfold maxLen;omega) (by omega) x.out ?_))
               intro v6 C ho D _;obtain ⟨c,G,rfl⟩:=eL ho;have B6:=aA (show Below w.heap.size w C from (g.out.alloc g.out.size _).grown D x.out (fun q r=>(f.out q r).1));have I:=aA (show C.ownsRow w.heap.size 128 4 (.slice c (T++[t]).length G) (T++[t]).length (fV (T++[t])) by rw [iA,Tb];exact ho);rw [show T.length+1=(T++[t]).length by rw [Tb];rfl];have d:(T++[t]).length<=m:=by rw [Tb];show T.length+1<=m;omega
               generalize T++[t]=T2 at z I d;clear ho D H L x f;go_wp2_with fail
               go_roundw
               case rel=>exact ⟨m,c,G,T2,rfl,by go_num,by omega,d,z,I,B6⟩
               case measure=>simp [intOf];omega
             · have g1:¬ (1:Int)<(m:Int)-(k:Int):=by omega
               obtain ⟨t,o⟩:∃ t:Tk,t=⟨2,(s.data.toList.drop k).take (m-k),nv,k⟩:=⟨_,rfl⟩;have z:=aA (show (cR (s.data.toList.drop m) m).after (T++[t])=E by rw [o];exact S);have a:tkL t=[.int .i64 2,.string (s.extract k m),.int .i64 nv,.int .i64 k]:=by rw [o];exact kU s k m _ _
               have L:=aA (FL wr a);have H:=aA (show (wr.alloc (rtO 2 (s.extract k m) nv k)).ownsRow w.heap.size 128 4 (.slice M T.length vc) T.length (fV T) from hO.out.alloc _);have hz:=g.out.size;have x:=aA (show w.heap.size<=(wr.alloc (rtO 2 (s.extract k m) nv k)).heap.size by rw [Tc];omega);have f:=aA (fun q r=>hO.out.lt q r);clear S o a hr A U l hf jg;go_wp2_with (first | fail | (go_at_call 121;refine (Y.out _).mono ?_;rintro e w' ⟨rfl,rfl⟩) | (at_builtin;refine aS rfl _ _ 121 rfl (base:=w.heap.size) Z hi jc jb ja rfl (by decide) (.slice M T.length vc) T.length 1 1 ⟨wr.heap.size,0,none⟩ (fV T) (tkL t) rfl rfl H.out rfl L.out (lN _) (by unfold maxLen;omega) (by omega) x.out ?_))
               intro v6 C ho D _;obtain ⟨c,G,rfl⟩:=eL ho;have B6:=aA (show Below w.heap.size w C from (g.out.alloc g.out.size _).grown D x.out (fun q r=>(f.out q r).1));have I:=aA (show C.ownsRow w.heap.size 128 4 (.slice c (T++[t]).length G) (T++[t]).length (fV (T++[t])) by rw [iA,Tb];exact ho);rw [show T.length+1=(T++[t]).length by rw [Tb];rfl];have d:(T++[t]).length<=m:=by rw [Tb];show T.length+1<=m;omega
               generalize T++[t]=T2 at z I d;clear ho D H L x f;go_wp2_with fail
               go_roundw
               case rel=>exact ⟨m,c,G,T2,rfl,by go_num,by omega,d,z,I,B6⟩
               case measure=>simp [intOf];omega
      | false =>
        have LK:=aA (p:=∀ w,Calls prog 119 #[.int .u8 s[k].toNat] w fun e w'=>e=.returned (.bool false)/\w=w') (fun w=>by have:=fC s[k] w;rwa [hs] at this);have DK:=aA (p:=∀ w,Calls prog 120 #[.int .u8 s[k].toNat] w fun e w'=>e=.returned (.bool false)/\w=w') (fun w=>by have:=iY s[k] w;rwa [hd] at this);obtain ⟨n,hn⟩:∃ n,iB (s.data.toList.drop k)=n:=⟨_,rfl⟩;have jl:n<=s.size-k:=by rw [<- hn];have:=Cf (s.data.toList.drop k);rw [List.length_drop] at this;simpa using this
        have hx:(s.extract k s.size).extract 0 n=s.extract k (k+n):=by
         apply dO
         rw [fI,qN,gI,show k+n-k=n by omega]
        have SG:=aA (p:=∀ w,Calls prog 122 #[.string (s.extract k s.size)] w fun e w'=>e=.returned (.string (s.extract k (k+n)))/\Below w.heap.size w w') (fun w=>by
         have:=IZ (s.extract k s.size) (by rw [ByteArray.size_extract];omega) (by rw [ByteArray.size_extract];omega) w;rw [qN,hn,hx] at this;exact this)
        have FF:=aA (GB b hs hd);have jk:(s.extract k (k+n)).size=n:=by rw [ByteArray.size_extract];omega
        clear hs hd hx;by_cases h0:n=0
        · have R:=aA (wG b u.out O.out (FF.out.trans (IL (hn.trans h0))))
          have q0:((s.extract k (k+n)).toList == [])=true:=by
           rw [Tm,beq_iff_eq];exact Tg.1 (by rw [Fb];omega)
          clear hn h0;go_wp2_with (first | (go_at_call 119;refine (LK.out _).mono ?_;rintro e w' ⟨rfl,rfl⟩) | (go_at_call 120;refine (DK.out _).mono ?_;rintro e w' ⟨rfl,rfl⟩))
          refine (SG.out _).mono ?_;rintro e w2 ⟨rfl,l⟩;have B2:=aA (g.out.trans (l.mono g.out.size));clear l;go_wp2_with fail
          go_ret3
          rw [R.out];exact ⟨B2.out,rfl⟩
        · have S:=E7 (m:=k+n) b u.out (by omega) O.out (FF.out.trans (by rw [show k+n-k=n by omega];exact IK hn h0))
          have q0:((s.extract k (k+n)).toList == [])=false:=by
           rw [Tm,beq_eq_false_iff_ne];intro e;have:=Fb (s.extract k (k+n));rw [e,List.length_nil] at this;omega
          clear hn;go_wp2_with (first | (go_at_call 119;refine (LK.out _).mono ?_;rintro e w' ⟨rfl,rfl⟩) | (go_at_call 120;refine (DK.out _).mono ?_;rintro e w' ⟨rfl,rfl⟩))
          refine (SG.out _).mono ?_;rintro e w2 ⟨rfl,l⟩;have B2:=aA (g.out.trans (l.mono g.out.size));have O2:=aA (cK hO.out l);clear l;obtain ⟨t,o⟩:∃ t:Tk,t=⟨3,(s.data.toList.drop k).take ((k+n)-k),0,k⟩:=⟨_,rfl⟩;have z:=aA (show (cR (s.data.toList.drop (k+n)) (k+n)).after (T++[t])=E by rw [o];exact S);have a:tkL t=[.int .i64 3,.string (s.extract k (k+n)),.int .i64 0,.int .i64 k]:=by rw [o];exact kU s k (k+n) _ _
          have L:=aA (FL w2 a);have H:=aA (show (w2.alloc (rtO 3 (s.extract k (k+n)) 0 k)).ownsRow w.heap.size 128 4 (.slice M T.length vc) T.length (fV T) from O2.out.alloc _);have hz:=B2.out.size;have x:=aA (show w.heap.size<=(w2.alloc (rtO 3 (s.extract k (k+n)) 0 k)).heap.size by rw [Tc];omega);have f:=aA (fun q r=>O2.out.lt q r);clear S o a;go_wp2_with (first | fail | (at_builtin;refine aS rfl _ _ 121 rfl (base:=w.heap.size) Z hi jc jb ja rfl (by decide) (.slice M T.length vc) T.length 1 1 ⟨w2.heap.size,0,none⟩ (fV T) (tkL t) rfl rfl H.out rfl L.out (lN _) (by unfold maxLen;omega) (by omega) x.out ?_))
          intro v6 C ho D _;obtain ⟨c,G,rfl⟩:=eL ho;have B6:=aA (show Below w.heap.size w C from (B2.out.alloc B2.out.size _).grown D x.out (fun q r=>(f.out q r).1));have I:=aA (show C.ownsRow w.heap.size 128 4 (.slice c (T++[t]).length G) (T++[t]).length (fV (T++[t])) by rw [iA,Tb];exact ho);rw [show T.length+1=(T++[t]).length by rw [Tb];rfl];have d:(T++[t]).length<=(k+n):=by rw [Tb];show T.length+1<=(k+n);omega
          generalize T++[t]=T2 at z I d;clear ho D H L x f;go_wp2_with fail
          go_roundw
          case rel=>exact ⟨(k+n),c,G,T2,rfl,by go_num,by omega,d,z,I,B6⟩
          case measure=>simp [intOf];omega
  · obtain rfl:k=s.size:=by omega
    have R:=aA (Sx O.out);go_wp2_with fail
    go_ret3
    rw [R.out];exact ⟨g.out,M,vc,rfl,hO.out⟩
theorem Cm {q:UInt8->Bool}:∀ (x r:Tq),(∀ c∈x,q c=true)->(∀ c t,r=c::t->q c=false)->bR q (x++r)=x.length
 | [], r, _, h => by
   cases r with
   | nil=>rfl
   | cons c t =>
     unfold bR;rw [List.nil_append,List.takeWhile_cons_of_neg (by rw [h c t rfl];decide)]
 | c :: x, r, h, h2 => by
   have a:=Cm x r (fun d hd=>h d (by simp [hd])) h2;unfold bR at a |-
   rw [List.cons_append,List.takeWhile_cons_of_pos (h c (by simp)),Te,a,Te]
def dM (t:Tk):Int×Tq×Int:=(t.kind,t.text,t.num)
theorem Gf (l:Tq) (p:Nat):∀ q e,cR l p=.bad q e->e=1\/e=2\/e=5:=by
 refine nY (C:=fun l p=>∀ q e,cR l p=.bad q e->e=1\/e=2\/e=5) ?_ ?_ ?_ ?_ l.length l p (Td _)
 · intro p q e h
   rw [j0] at h;cases h
 · intro r p b q e h
   rw [e8] at h;exact b q e h
 · intro l p e c d a q f h
   rw [nZ d c a] at h;cases h;exact BG a
 · intro l p k n v c d a hn hl b q e h
   rw [gX c hn a] at h;cases hx:cR (l.drop n) (p+n) with
   | ok ts=>rw [hx] at h;cases h
   | bad q' e'=>rw [hx] at h;cases h;exact b _ _ hx
theorem pI {l:Tq} {p:Nat} {e:Int} (h:gY l=.bad p e):(e == 0)=false/\(e != 0)=true:=by
 have:e=4\/e=1\/e=2\/e=5:=by
  unfold gY at h;split at h
  · cases h;exact .inl rfl
  · exact .inr (Gf _ _ _ _ h)
 rcases this with h | h | h | h <;> rw [h] <;> exact ⟨by decide,by decide⟩
theorem OG (ts:List Tk) (rb:Nat) (a:Tp) (c:Nat):∀ m:Nat,
 (∀ s w,ts.length-s.pos<=m->(s.bad=0->s.cnt<=32)->PW ts rb a c s w->Calls prog 263 #[.pointer (some ⟨rb,0,none⟩)] w (PE ts rb a c (pE ts .fac s) w)) /\
 (∀ s w,ts.length-s.pos<=m->(s.bad=0->s.cnt<=32)->PW ts rb a c s w->Calls prog 245 #[.pointer (some ⟨rb,0,none⟩)] w (PE ts rb a c (pE ts .prod s) w)) /\
 (∀ s w,ts.length-s.pos<=m->(s.bad=0->s.cnt<=32)->PW ts rb a c s w->Calls prog 223 #[.pointer (some ⟨rb,0,none⟩)] w (PE ts rb a c (pE ts .sum s) w)):=by
 intro m;induction m with
 | zero =>
   have q:∀ s w,ts.length-s.pos<=0->(s.bad=0->s.cnt<=32)->PW ts rb a c s w->Calls prog 263 #[.pointer (some ⟨rb,0,none⟩)] w (PE ts rb a c (pE ts .fac s) w):=fun s w p _ h=>by
    by_cases b:s.bad=0
    · exact If ts rb a c s w h b (by omega)
    · exact EW ts rb a c s w h b
   have hp:∀ s w,ts.length-s.pos<=0->(s.bad=0->s.cnt<=32)->PW ts rb a c s w->Calls prog 245 #[.pointer (some ⟨rb,0,none⟩)] w (PE ts rb a c (pE ts .prod s) w):=fun s w p d h =>
    Ef ts rb a c s w h d (fun s' w' hp f g=>q s' w' (by omega) f g)
   exact ⟨q,hp,fun s w p d h=>Hj ts rb a c s w h d (fun s' w' x f g=>hp s' w' (by omega) f g)⟩
 | succ m ih =>
   obtain ⟨u,A,t⟩:=ih
   have q:∀ s w,ts.length-s.pos<=m+1->(s.bad=0->s.cnt<=32)->PW ts rb a c s w->Calls prog 263 #[.pointer (some ⟨rb,0,none⟩)] w (PE ts rb a c (pE ts .fac s) w):=fun s w p d h=>by
    by_cases b:s.bad=0
    · by_cases hp:s.pos<ts.length
      · by_cases k:ts[s.pos].kind=2
        · exact PU ts rb a c s w h b hp (d b) k
        by_cases l:ts[s.pos].kind=1
        · exact Nc ts rb a c s w h b hp (d b) l
        by_cases r:ts[s.pos].text=[45]
        · exact PX ts rb a c s w h b hp (d b) k l r (fun w' g=>u _ w' (by rw [cI];omega) (fun o=>by obtain ⟨_,z,y,_⟩:=dW o;omega) g)
        by_cases j:ts[s.pos].text=[40]
        · have hs:∀ w',PW ts rb a c (aM s) w'->Calls prog 223 #[.pointer (some ⟨rb,0,none⟩)] w' (PE ts rb a c (pE ts .sum (aM s)) w') :=
           fun w' g=>t _ w' (by show ts.length-(s.pos+1)<=m;omega) (fun _=>d b) g
          by_cases o:(pE ts .sum (aM s)).2.bad=0
          · cases n:isS ts [41] (pE ts .sum (aM s)).2.pos with
            | true=>exact M9 ts rb a c s w h b hp (d b) k l j hs o n
            | false=>exact MZ ts rb a c s w h b hp (d b) k l j hs o n
          · exact Na ts rb a c s w h b hp (d b) k l j hs o
        exact Nb ts rb a c s w h b hp (d b) k l r j
      · exact If ts rb a c s w h b hp
    · exact EW ts rb a c s w h b
   have hp:∀ s w,ts.length-s.pos<=m+1->(s.bad=0->s.cnt<=32)->PW ts rb a c s w->Calls prog 245 #[.pointer (some ⟨rb,0,none⟩)] w (PE ts rb a c (pE ts .prod s) w):=fun s w p d h =>
    Ef ts rb a c s w h d (fun s' w' hp f g=>q s' w' (by omega) f g)
   exact ⟨q,hp,fun s w p d h=>Hj ts rb a c s w h d (fun s' w' x f g=>hp s' w' (by omega) f g)⟩
def Hb (q:Iq) (w:World) (e:Ending) (w':World):Prop:=Below w.heap.size w w' /\
 match q with
 | .bad p er=>e=.returned (.tuple #[bN ⟨#[]⟩ ⟨#[]⟩ 0 none 0 0,.int .i64 (p:Nat),.int .i64 er])
 | .ok t p=>∃ a c,e=.returned (.tuple #[bN t.op t.nm t.n a t.ks.len c,.int .i64 (p:Nat),.int .i64 0])/\bD w.heap.size w' a t.ks
theorem Hl (ts:List Tk) (a:Tp) (c:Nat) (p:Nat) (hn:ts.length<=100000) (hp:p<=ts.length) (w:World) (hr:fQ w a ts) :
 Calls prog 181 #[.slice a ts.length c,.int .i64 p] w (Hb (ofL ts p) w):=by
 have jb:w.heap.size<(w.alloc (ndO ⟨#[]⟩ ⟨#[]⟩ 0 none 0 0)).heap.size:=by rw [Tc];omega
 have B1:=bA0 w (ndO ⟨#[]⟩ ⟨#[]⟩ 0 none 0 0);have Y:=heap_alloc_new w (ndO ⟨#[]⟩ ⟨#[]⟩ 0 none 0 0);have G:(w.alloc (ndO ⟨#[]⟩ ⟨#[]⟩ 0 none 0 0)).heap.size=w.heap.size+1:=Tc _ _;generalize hW:w.alloc (ndO ⟨#[]⟩ ⟨#[]⟩ 0 none 0 0)=W at *;have s:=bA0 W (.cells #[.slice a ts.length c,.int .i64 p,.int .i64 0,.int .i64 0,.int .i64 0] 126)
 have P:PW ts W.heap.size a c ⟨p,0,0,0⟩ (W.alloc (.cells #[.slice a ts.length c,.int .i64 p,.int .i64 0,.int .i64 0,.int .i64 0] 126)) :=
  ⟨heap_alloc_new W _,(wR (hr.kept B1)).kept (aF s (fun _=>False)) (fun _ h=>h.elim),⟨fun _=>hp,by show p<=_;omega,by show 0<=33;omega,hn⟩⟩
 have X:(W.alloc (.cells #[.slice a ts.length c,.int .i64 p,.int .i64 0,.int .i64 0,.int .i64 0] 126)).heap[w.heap.size]? = some (ndO ⟨#[]⟩ ⟨#[]⟩ 0 none 0 0):=(s.block _ (by omega)).trans Y;have ja:(W.alloc (.cells #[.slice a ts.length c,.int .i64 p,.int .i64 0,.int .i64 0,.int .i64 0] 126)).heap.size=w.heap.size+2:=by rw [Tc];omega
 have Z:Below w.heap.size w (W.alloc (.cells #[.slice a ts.length c,.int .i64 p,.int .i64 0,.int .i64 0,.int .i64 0] 126)):=B1.trans (s.mono (by omega));rw [G] at P;have C:=aA (((OG ts (w.heap.size+1) a c ts.length).2.2 ⟨p,0,0,0⟩ _ (by show ts.length-p<=ts.length;omega) (fun _=>Nat.zero_le _) P));have T:=show ofL ts p=if (pE ts .sum ⟨p,0,0,0⟩).2.bad=0 then .ok (pE ts .sum ⟨p,0,0,0⟩).1 (pE ts .sum ⟨p,0,0,0⟩).2.pos else .bad (pE ts .sum ⟨p,0,0,0⟩).2.whr (pE ts .sum ⟨p,0,0,0⟩).2.bad from rfl
 rw [T];obtain ⟨q,y⟩:∃ q,pE ts .sum ⟨p,0,0,0⟩=q:=⟨_,rfl⟩;rw [y] at C |-
 clear T y s Y hr P;by_cases x:q.2.bad=0
 · rw [if_pos x]
   have qb:((q.2.bad:Int) != 0)=false:=by rw [x];rfl
   clear x;go_enter func181,ntmps181
   go_wp2_with fail
   refine C.out.mono ?_;rintro e f ⟨ad,cc,rfl,A,b,l⟩;have j:=bA0 f (ndO q.1.op q.1.nm q.1.n ad q.1.ks.len cc);have z:=A.below j;have hz:=b.size;have t:w.heap.size<f.heap.size:=by omega
   have H:w.heap.size<(f.alloc (ndO q.1.op q.1.nm q.1.n ad q.1.ks.len cc)).heap.size:=by rw [Tc];omega
   have u:=(j.block w.heap.size t).trans (b.heap X (by show ¬ w.heap.size=w.heap.size+1;omega));have s:=aA (show Below w.heap.size w (f.alloc (ndO q.1.op q.1.nm q.1.n ad q.1.ks.len cc)) from (Z.trans (b.below (fun k D=>by omega) (by omega))).trans (j.mono (by omega)));have R2:=aA (l.kept j);have m:=heap_alloc_new f (ndO q.1.op q.1.nm q.1.n ad q.1.ks.len cc);generalize I:f.alloc (ndO q.1.op q.1.nm q.1.n ad q.1.ks.len cc)=V at *;obtain ⟨⟨c0,c1,c2,c3,c4⟩, -⟩:=z.r.cells;obtain ⟨⟨n0,n1,n2,n3⟩,g0,g1,g2,g3⟩:=aL u;obtain ⟨⟨m0,m1,m2,m3⟩, -⟩:=aL m;have R:=aA u;clear A b l j z u m C;go_wp2_with fail
   clear I;go_region
   go_wp2_with fail
   have E:=eI V w.heap.size q.1.op q.1.nm q.1.n ad q.1.ks.len cc;have g:=aY R.out (.string q.1.op) (.string q.1.nm) (.int .i64 q.1.n) (.slice ad q.1.ks.len cc);obtain ⟨U,o⟩:∃ U,(kY V w.heap.size q.1.op q.1.nm q.1.n ad q.1.ks.len cc).drew=U:=⟨_,rfl⟩;have d:U.heap[w.heap.size]? = some (ndO q.1.op q.1.nm q.1.n ad q.1.ks.len cc):=by rw [<- o];exact g
   have S:=aA (show Below w.heap.size w U by
    rw [<- o];have:=s.out.trans (E.below (B:=w.heap.size) (fun k D=>by omega) (by omega));exact ⟨this.os,this.tape,this.output,this.size,this.block⟩)
   have RU:=aA (show bD w.heap.size U ad q.1.ks by
    rw [<- o];exact ((R2.out.keptS E (fun k D=>by omega)).keptS ((aC.refl (fun _=>False) _).drew) (fun _ h=>h.elim)).mono (by omega))
   rw [o];obtain ⟨⟨O,N,M,L⟩, -⟩:=aL d;exact bodyPost_ret (v:=.tuple #[bN q.1.op q.1.nm q.1.n ad q.1.ks.len cc,.int .i64 q.2.pos,.int .i64 0]) (by simp [results,results181,go_sem,O,N,M,L]) rfl ⟨S.out,ad,cc,rfl,RU.out⟩
 · rw [if_neg x]
   have qb:((q.2.bad:Int) != 0)=true:=by simpa using x
   clear x;go_enter func181,ntmps181
   go_wp2_with fail
   refine C.out.mono ?_;rintro e f ⟨ad,cc,rfl,A,b,l⟩;have j:=bA0 f (ndO q.1.op q.1.nm q.1.n ad q.1.ks.len cc);have z:=A.below j;have hz:=b.size;have t:w.heap.size<f.heap.size:=by omega
   have H:w.heap.size<(f.alloc (ndO q.1.op q.1.nm q.1.n ad q.1.ks.len cc)).heap.size:=by rw [Tc];omega
   have u:=(j.block w.heap.size t).trans (b.heap X (by show ¬ w.heap.size=w.heap.size+1;omega));have s:=aA (show Below w.heap.size w (f.alloc (ndO q.1.op q.1.nm q.1.n ad q.1.ks.len cc)) from (Z.trans (b.below (fun k D=>by omega) (by omega))).trans (j.mono (by omega)));generalize I:f.alloc (ndO q.1.op q.1.nm q.1.n ad q.1.ks.len cc)=V at *;obtain ⟨⟨c0,c1,c2,c3,c4⟩, -⟩:=z.r.cells;obtain ⟨⟨n0,n1,n2,n3⟩,g0,g1,g2,g3⟩:=aL u;have R:=aA u;clear A b l j z u C;go_wp2_with fail
   clear I;go_region
   go_wp2_with fail
   have E:=eI V w.heap.size ⟨#[]⟩ ⟨#[]⟩ 0 none 0 0;have g:=aY R.out (.string ⟨#[]⟩) (.string ⟨#[]⟩) (.int .i64 0) (.slice none 0 0);obtain ⟨U,o⟩:∃ U,(kY V w.heap.size ⟨#[]⟩ ⟨#[]⟩ 0 none 0 0).drew=U:=⟨_,rfl⟩;have d:U.heap[w.heap.size]? = some (ndO ⟨#[]⟩ ⟨#[]⟩ 0 none 0 0):=by rw [<- o];exact g
   have S:=aA (show Below w.heap.size w U by
    rw [<- o];have:=s.out.trans (E.below (B:=w.heap.size) (fun k D=>by omega) (by omega));exact ⟨this.os,this.tape,this.output,this.size,this.block⟩)
   rw [o];obtain ⟨⟨O,N,M,L⟩, -⟩:=aL d;exact bodyPost_ret (v:=.tuple #[bN ⟨#[]⟩ ⟨#[]⟩ 0 none 0 0,.int .i64 q.2.whr,.int .i64 q.2.bad]) (by simp [results,results181,go_sem,O,N,M,L]) rfl ⟨S.out,rfl⟩
theorem Ex {l:Tq} {ts:List Tk} (h:gY l=.ok ts):ts.length<=1024:=by
 unfold gY at h;split at h
 · cases h
 · have:=(Jn _ _ _ h).2.1
   omega
theorem FS (s:Tr) (ts:List Tk) (a:Tp) (c p:Nat) (_hn:ts.length<=100000) (w:World) (hr:fQ w a ts) :
 Calls prog 66 #[.string s,.slice a ts.length c,.int .i64 p] w fun e w'=>e=.returned (.int .i64 ((eY s.size ts p:Nat):Int))/\w=w':=by
 by_cases d:p<ts.length
 · obtain ⟨b,off,ha, -,f⟩:=hr.resolve_left (by intro e;rw [e] at d;simp at d)
   obtain ⟨-, -, -,g⟩:=f p d;subst ha;have e:eY s.size ts p=ts[p].place:=by unfold eY;rw [List.getElem?_eq_getElem d]
   rw [e];clear f;go_enter func66,ntmps66
   go_wp2_with fail
   go_ret;exact ⟨rfl,rfl⟩
 · have e:eY s.size ts p=s.size:=by unfold eY;rw [List.getElem?_eq_none (by omega)]
   rw [e];clear hr;go_enter func66,ntmps66
   go_wp2_with fail
   go_ret;exact ⟨rfl,rfl⟩
end Go.Proofs.YtgfkjkokmcejbaaGreatDoor
