/-
 No statement: what ProgTwoLift needs, of the texts OE6.
-/
import Derived.Test.YtgfkjkokmcejbaaGreatDoorVT4
set_option maxHeartbeats 40000000
set_option maxRecDepth 100000
namespace Go.Proofs.YtgfkjkokmcejbaaGreatDoor
open Go.RowKit
section
section
open Go.RowKit
theorem KG:(Tryz.prog.info? 128).map (fun i=>(i.zero,i.size,i.bytes))=some (some (.agg #[.int .i64 0,.string ⟨#[]⟩,.int .i64 0,.int .i64 0]),4,40):=by kernel_rfl
theorem jS {q:UInt8->Bool} {s:ByteArray} {k m:Nat} (hk:k<s.size) (h:q s[k]=true) (hr:bL q (s.data.toList.drop k)=m-k):k<m:=by
 rw [drop_at s hk] at hr;have:=sO (q:=q) (r:=s.data.toList.drop (k+1)) h;omega
abbrev rtO (k:Int) (s:ByteArray) (n p:Int):Obj:=.cells #[.int .i64 k,.string s,.int .i64 n,.int .i64 p] 128
theorem Fm (w:World) {t:Tk} {k:Int} {s:ByteArray} {n p:Int} (h:tkL t=[.int .i64 k,.string s,.int .i64 n,.int .i64 p]):∀ j u,(tkL t)[j]? = some u->(w.alloc (rtO k s n p)).cell? ((⟨w.heap.size,0,none⟩:Addr).add j)=some u:=fun j u hj=>by
 rw [h] at hj;rw [Addr.add_lit,Nat.zero_add,cell_of_row _ _ _ _ _ (0,0) (heap_alloc_new w _)];simpa using hj
theorem kI (s:ByteArray) (k m:Nat) (kd nv:Int):tkL ⟨kd,(s.data.toList.drop k).take (m-k),nv,k⟩=[.int .i64 kd,.string (s.extract k m),.int .i64 nv,.int .i64 k]:=by
 rw [<- f7];unfold tkL;rfl
theorem ED (s:ByteArray):s.data.toList.length=s.size:=by simp
theorem vR {c:UInt8} (h:bE c=true):aX c=true:=by unfold aX;rw [h];rfl
theorem EP {c:UInt8} (h:aV c=true):aX c=true:=by unfold aX;rw [h,Bool.or_true]
theorem Kc {c:UInt8} (h:bE c=false) (h2:aV c=false):aX c=false:=by unfold aX;rw [h,h2];rfl
theorem uX (s:ByteArray) (w:World):Calls Tryz.prog 59 #[.string s] w (wJ 128 (gU s.data.toList) w):=by
 have hl:s.data.toList.length=s.size:=by simp
 by_cases hlong:1024<s.size
 · have P:=aA (show wJ 128 (gU s.data.toList) w (.returned (.tuple #[.slice none 0 0,.int .i64 0,.int .i64 4])) w from by
    unfold gU;rw [if_pos (by omega)];exact ⟨Below.refl _ _,rfl⟩)
   clear hl;go_enter Tryz.func59,Tryz.ntmps59
   go_wp2_with fail
   go_ret3
   exact P.out
 have hm:s.size<=281474976710656:=by omega
 obtain ⟨i0,hi,hz0,hz1,hz2⟩:=info_parts KG;have und:Tryz.prog.underlying 121=some (.slice 128):=Tryz.underlying121
 have hE:gU s.data.toList=cL s.data.toList 0:=by
  unfold gU;rw [if_neg (by omega)]
 rw [hE];obtain ⟨E,hEE⟩:∃ E,cL s.data.toList 0=E:=⟨_,rfl⟩;rw [hEE];have K0:=aA (show (cL (s.data.toList.drop 0) 0).after []=E by rw [qU,List.drop_zero];exact hEE);clear hE hEE hl;go_enter Tryz.func59,Tryz.ntmps59
 go_wp2_with fail
 go_loopw [5,6] (fun v i wr=>∃ (k:Nat) (va:Option Addr) (vc:Nat) (T:List Tk),v=.slice va T.length vc/\i=.int .i64 k/\k<=s.size/\T.length<=k/\Hid ((cL (s.data.toList.drop k) k).after T=E)/\Hid (wr.ownsRow w.heap.size 128 4 (.slice va T.length vc) T.length (fN T))/\Hid (Below w.heap.size w wr)) (fun _ i _=>s.size-(intOf i).toNat)
 case atStart=>exact ⟨0,none,0,[],rfl,rfl,by omega,by simp,K0,aA (World.ownsRow_nil _ _ _ _),aA (Below.refl _ _)⟩
 case round =>
  obtain ⟨k,va,vc,T,rfl,rfl,hk,hTk,hE,hO,hB⟩:=hrel;by_cases hlt:k<s.size
  · by_cases h32:s[k]=32
    · have q32:((s[k].toNat:Int) == 32)=true:=nW (k:=32) (by decide) h32
      have E3:=aA (Pi hlt h32 hE.out);clear h32;go_wp2_with fail
      go_roundw
      case rel=>exact ⟨k+1,va,vc,T,rfl,by go_num,by omega,by omega,E3,hO,hB⟩
      case measure=>simp [intOf];omega
    have q32:((s[k].toNat:Int) == 32)=false:=f9 (k:=32) (by decide) h32;have H32:=aA h32;clear h32;cases hs:bE s[k] with
    | true =>
      have LK:=aA (p:=∀ w,Calls Tryz.prog 119 #[.int .u8 s[k].toNat] w fun e w'=>e=.returned (.bool true)/\w=w') (fun w=>by have:=e8 s[k] w;rwa [hs] at this);have FF:=aA (Eu hlt hs);have HA:=aA (vR hs);clear hs;go_wp2_with (first | (go_at_call 119;refine (LK.out _).mono ?_;rintro e w' ⟨rfl,rfl⟩))
      go_loop [7] (fun v=>∃ m:Nat,k<=m/\m<=s.size/\v=.int .i64 m/\Hid (∀ j (h:j<s.size),k<=j->j<m->aX s[j]=true)) (fun v=>s.size-(intOf v).toNat)
      case atStart=>exact ⟨k,by omega,by omega,rfl,aA (fun j _ h1 h2=>by omega)⟩
      case round =>
       obtain ⟨m,hm1,hm2,rfl,hok⟩:=hrel;by_cases hml:m<s.size
       · cases ha:bE s[m] with
         | true =>
           have AL:=vR ha
           have hok1:=aA (show ∀ j (h:j<s.size),k<=j->j<m+1->aX s[j]=true from fun j hj h1 h2=>by
            by_cases e:j=m
            · subst e;exact AL
            · exact hok.out j hj h1 (by omega))
           have LM:=aA (p:=∀ w,Calls Tryz.prog 119 #[.int .u8 s[m].toNat] w fun e w'=>e=.returned (.bool true)/\w=w') (fun w=>by have:=e8 s[m] w;rwa [ha] at this);clear ha AL;go_wp2_with (first | (go_at_call 119;refine (LM.out _).mono ?_;rintro e w' ⟨rfl,rfl⟩))
           go_round
           case rel=>exact ⟨m+1,by omega,by omega,by go_num,hok1⟩
           case measure=>simp [intOf];omega
         | false =>
           cases hb:aV s[m] with
           | true =>
             have AL:=EP hb
             have hok1:=aA (show ∀ j (h:j<s.size),k<=j->j<m+1->aX s[j]=true from fun j hj h1 h2=>by
              by_cases e:j=m
              · subst e;exact AL
              · exact hok.out j hj h1 (by omega))
             have LM:=aA (p:=∀ w,Calls Tryz.prog 119 #[.int .u8 s[m].toNat] w fun e w'=>e=.returned (.bool false)/\w=w') (fun w=>by have:=e8 s[m] w;rwa [ha] at this);have DM:=aA (p:=∀ w,Calls Tryz.prog 120 #[.int .u8 s[m].toNat] w fun e w'=>e=.returned (.bool true)/\w=w') (fun w=>by have:=iQ s[m] w;rwa [hb] at this);clear ha hb AL;go_wp2_with (first | (go_at_call 119;refine (LM.out _).mono ?_;rintro e w' ⟨rfl,rfl⟩) | (go_at_call 120;refine (DM.out _).mono ?_;rintro e w' ⟨rfl,rfl⟩))
             go_round
             case rel=>exact ⟨m+1,by omega,by omega,by go_num,hok1⟩
             case measure=>simp [intOf];omega
           | false =>
             have LM:=aA (p:=∀ w,Calls Tryz.prog 119 #[.int .u8 s[m].toNat] w fun e w'=>e=.returned (.bool false)/\w=w') (fun w=>by have:=e8 s[m] w;rwa [ha] at this);have DM:=aA (p:=∀ w,Calls Tryz.prog 120 #[.int .u8 s[m].toNat] w fun e w'=>e=.returned (.bool false)/\w=w') (fun w=>by have:=iQ s[m] w;rwa [hb] at this);have hr:=sP hm1 hm2 hok.out (fun _=>Kc ha hb);have hkm:=jS hlt HA.out hr;by_cases h8:8<m-k
             · have R:=aA (vO hlt H32.out hE.out (FF.out.trans (AI hr h8)))
               have g1:(8:Int)<(m:Int)-(k:Int):=by omega
               clear hr ha hb;go_wp2_with (first | (go_at_call 119;refine (LM.out _).mono ?_;rintro e w' ⟨rfl,rfl⟩) | (go_at_call 120;refine (DM.out _).mono ?_;rintro e w' ⟨rfl,rfl⟩))
               go_ret3
               rw [R.out];exact ⟨hB.out,rfl⟩
             · have ET:=EA hlt H32.out hkm hE.out (FF.out.trans (xW hr h8))
               have g1:¬ (8:Int)<(m:Int)-(k:Int):=by omega
               obtain ⟨t,ht⟩:∃ t:Tk,t=⟨1,(s.data.toList.drop k).take (m-k),0,k⟩:=⟨_,rfl⟩;have E3:=aA (show (cL (s.data.toList.drop m) m).after (T++[t])=E by rw [ht];exact ET);have hcells:tkL t=[.int .i64 1,.string (s.extract k m),.int .i64 0,.int .i64 k]:=by rw [ht];exact kI s k m _ _
               have NA:=aA (Fm wr hcells);have OA:=aA (show (wr.alloc (rtO 1 (s.extract k m) 0 k)).ownsRow w.heap.size 128 4 (.slice va T.length vc) T.length (fN T) from hO.out.alloc _);have hz:=hB.out.size;have BA:=aA (show w.heap.size<=(wr.alloc (rtO 1 (s.extract k m) 0 k)).heap.size by rw [World.size_alloc];omega);have OLt:=aA (fun q hq=>hO.out.lt q hq);clear ET ht hcells hr ha hb;go_wp2_with (first | (go_at_call 119;refine (LM.out _).mono ?_;rintro e w' ⟨rfl,rfl⟩) | (go_at_call 120;refine (DM.out _).mono ?_;rintro e w' ⟨rfl,rfl⟩) | (at_builtin;refine aQ rfl _ _ 121 rfl (base:=w.heap.size) und hi hz0 hz1 hz2 rfl (by decide) (.slice va T.length vc) T.length 1 1 ⟨wr.heap.size,0,none⟩ (fN T) (tkL t) rfl rfl OA.out rfl NA.out (lE _) (by unfold maxLen;omega) (by omega) BA.out ?_))
               intro v6 w6 ho hg _;obtain ⟨va6,c6,rfl⟩:=eV ho;have B6:=aA (show Below w.heap.size w w6 from (hB.out.alloc hB.out.size _).grown hg BA.out (fun q hq=>(OLt.out q hq).1));have O6:=aA (show w6.ownsRow w.heap.size 128 4 (.slice va6 (T++[t]).length c6) (T++[t]).length (fN (T++[t])) by rw [gO,List.length_append];exact ho);rw [show T.length+1=(T++[t]).length by rw [List.length_append];rfl];have hTl:(T++[t]).length<=m:=by rw [List.length_append];show T.length+1<=m;omega
               generalize T++[t]=T2 at E3 O6 hTl;clear ho hg OA NA BA OLt;go_wp2_with fail
               go_roundw
               case rel=>exact ⟨m,va6,c6,T2,rfl,by go_num,by omega,hTl,E3,O6,B6⟩
               case measure=>simp [intOf];omega
       · have hr:=sP hm1 hm2 hok.out (fun h=>absurd h hml)
         have hkm:=jS hlt HA.out hr;by_cases h8:8<m-k
         · have R:=aA (vO hlt H32.out hE.out (FF.out.trans (AI hr h8)))
           have g1:(8:Int)<(m:Int)-(k:Int):=by omega
           clear hr;go_wp2_with (first | fail)
           go_ret3
           rw [R.out];exact ⟨hB.out,rfl⟩
         · have ET:=EA hlt H32.out hkm hE.out (FF.out.trans (xW hr h8))
           have g1:¬ (8:Int)<(m:Int)-(k:Int):=by omega
           obtain ⟨t,ht⟩:∃ t:Tk,t=⟨1,(s.data.toList.drop k).take (m-k),0,k⟩:=⟨_,rfl⟩;have E3:=aA (show (cL (s.data.toList.drop m) m).after (T++[t])=E by rw [ht];exact ET);have hcells:tkL t=[.int .i64 1,.string (s.extract k m),.int .i64 0,.int .i64 k]:=by rw [ht];exact kI s k m _ _
           have NA:=aA (Fm wr hcells);have OA:=aA (show (wr.alloc (rtO 1 (s.extract k m) 0 k)).ownsRow w.heap.size 128 4 (.slice va T.length vc) T.length (fN T) from hO.out.alloc _);have hz:=hB.out.size;have BA:=aA (show w.heap.size<=(wr.alloc (rtO 1 (s.extract k m) 0 k)).heap.size by rw [World.size_alloc];omega);have OLt:=aA (fun q hq=>hO.out.lt q hq);clear ET ht hcells hr;go_wp2_with (first | fail | (at_builtin;refine aQ rfl _ _ 121 rfl (base:=w.heap.size) und hi hz0 hz1 hz2 rfl (by decide) (.slice va T.length vc) T.length 1 1 ⟨wr.heap.size,0,none⟩ (fN T) (tkL t) rfl rfl OA.out rfl NA.out (lE _) (by unfold maxLen;omega) (by omega) BA.out ?_))
           intro v6 w6 ho hg _;obtain ⟨va6,c6,rfl⟩:=eV ho;have B6:=aA (show Below w.heap.size w w6 from (hB.out.alloc hB.out.size _).grown hg BA.out (fun q hq=>(OLt.out q hq).1));have O6:=aA (show w6.ownsRow w.heap.size 128 4 (.slice va6 (T++[t]).length c6) (T++[t]).length (fN (T++[t])) by rw [gO,List.length_append];exact ho);rw [show T.length+1=(T++[t]).length by rw [List.length_append];rfl];have hTl:(T++[t]).length<=m:=by rw [List.length_append];show T.length+1<=m;omega
           generalize T++[t]=T2 at E3 O6 hTl;clear ho hg OA NA BA OLt;go_wp2_with fail
           go_roundw
           case rel=>exact ⟨m,va6,c6,T2,rfl,by go_num,by omega,hTl,E3,O6,B6⟩
           case measure=>simp [intOf];omega
    | false =>
      cases hd:aV s[k] with
      | true =>
        have LK:=aA (p:=∀ w,Calls Tryz.prog 119 #[.int .u8 s[k].toNat] w fun e w'=>e=.returned (.bool false)/\w=w') (fun w=>by have:=e8 s[k] w;rwa [hs] at this);have DK:=aA (p:=∀ w,Calls Tryz.prog 120 #[.int .u8 s[k].toNat] w fun e w'=>e=.returned (.bool true)/\w=w') (fun w=>by have:=iQ s[k] w;rwa [hd] at this);have FF:=aA (Ev hlt hs hd);have HA:=aA hd;clear hs hd;go_wp2_with (first | (go_at_call 119;refine (LK.out _).mono ?_;rintro e w' ⟨rfl,rfl⟩) | (go_at_call 120;refine (DK.out _).mono ?_;rintro e w' ⟨rfl,rfl⟩))
        go_loop [7] (fun v=>∃ m:Nat,k<=m/\m<=s.size/\v=.int .i64 m/\Hid (∀ j (h:j<s.size),k<=j->j<m->aV s[j]=true)) (fun v=>s.size-(intOf v).toNat)
        case atStart=>exact ⟨k,by omega,by omega,rfl,aA (fun j _ h1 h2=>by omega)⟩
        case round =>
         obtain ⟨m,hm1,hm2,rfl,hok⟩:=hrel;by_cases hml:m<s.size
         · cases ha:aV s[m] with
           | true =>
             have AL:=ha
             have hok1:=aA (show ∀ j (h:j<s.size),k<=j->j<m+1->aV s[j]=true from fun j hj h1 h2=>by
              by_cases e:j=m
              · subst e;exact AL
              · exact hok.out j hj h1 (by omega))
             have DM:=aA (p:=∀ w,Calls Tryz.prog 120 #[.int .u8 s[m].toNat] w fun e w'=>e=.returned (.bool true)/\w=w') (fun w=>by have:=iQ s[m] w;rwa [ha] at this);clear ha AL;go_wp2_with (first | (go_at_call 120;refine (DM.out _).mono ?_;rintro e w' ⟨rfl,rfl⟩))
             go_round
             case rel=>exact ⟨m+1,by omega,by omega,by go_num,hok1⟩
             case measure=>simp [intOf];omega
           | false =>
             have DM:=aA (p:=∀ w,Calls Tryz.prog 120 #[.int .u8 s[m].toNat] w fun e w'=>e=.returned (.bool false)/\w=w') (fun w=>by have:=iQ s[m] w;rwa [ha] at this);have hr:=sP hm1 hm2 hok.out (fun _=>ha);have hkm:=jS hlt HA.out hr;by_cases A:1<m-k/\s[k]=48
             · have R:=aA (vO hlt H32.out hE.out (FF.out.trans (PI hlt hr A.1 A.2)))
               have g1:(1:Int)<(m:Int)-(k:Int):=by omega
               have g2:((s[k].toNat:Int) == 48)=true:=nW (k:=48) (by decide) A.2;clear hr A ha;go_wp2_with (first | (go_at_call 120;refine (DM.out _).mono ?_;rintro e w' ⟨rfl,rfl⟩))
               go_ret3
               rw [R.out];exact ⟨hB.out,rfl⟩
             cases hsm:bE s[m] with
             | true =>
               have LM:=aA (p:=∀ w,Calls Tryz.prog 119 #[.int .u8 s[m].toNat] w fun e w'=>e=.returned (.bool true)/\w=w') (fun w=>by have:=e8 s[m] w;rwa [hsm] at this);have R:=aA (vO hlt H32.out hE.out (FF.out.trans (Rl (by omega) hr hml hsm)));by_cases g0:1<m-k
               · have g1:(1:Int)<(m:Int)-(k:Int):=by omega
                 have g2:((s[k].toNat:Int) == 48)=false:=f9 (k:=48) (by decide) (fun e=>A ⟨g0,e⟩);clear hr A hsm ha;go_wp2_with (first | (go_at_call 120;refine (DM.out _).mono ?_;rintro e w' ⟨rfl,rfl⟩) | (go_at_call 119;refine (LM.out _).mono ?_;rintro e w' ⟨rfl,rfl⟩))
                 go_ret3
                 rw [R.out];exact ⟨hB.out,rfl⟩
               · have g1:¬ (1:Int)<(m:Int)-(k:Int):=by omega
                 clear hr A hsm ha;go_wp2_with (first | (go_at_call 120;refine (DM.out _).mono ?_;rintro e w' ⟨rfl,rfl⟩) | (go_at_call 119;refine (LM.out _).mono ?_;rintro e w' ⟨rfl,rfl⟩))
                 go_ret3
                 rw [R.out];exact ⟨hB.out,rfl⟩
             | false =>
               have LM:=aA (p:=∀ w,Calls Tryz.prog 119 #[.int .u8 s[m].toNat] w fun e w'=>e=.returned (.bool false)/\w=w') (fun w=>by have:=e8 s[m] w;rwa [hsm] at this);have hb:∀ h:m<s.size,bE s[m]=false:=fun _=>hsm
               have NU:=aA (fun w=>uY (s.extract k m) (by rw [ByteArray.size_extract];omega) w);cases hv:fR (s.extract k m).data.toList with
               | none =>
                 have R:=aA (vO hlt H32.out hE.out (FF.out.trans (PC hlt hkm hm2 hr A hb hv)));rw [hv] at NU;unfold Ac at NU;by_cases g0:1<m-k
                 · have g1:(1:Int)<(m:Int)-(k:Int):=by omega
                   have g2:((s[k].toNat:Int) == 48)=false:=f9 (k:=48) (by decide) (fun e=>A ⟨g0,e⟩);clear hr A hv hb ha hsm;go_wp2_with (first | (go_at_call 120;refine (DM.out _).mono ?_;rintro e w' ⟨rfl,rfl⟩) | (go_at_call 119;refine (LM.out _).mono ?_;rintro e w' ⟨rfl,rfl⟩) | (go_at_call 121;refine (NU.out _).mono ?_;rintro e w' ⟨rfl,rfl⟩))
                   go_ret3
                   rw [R.out];exact ⟨hB.out,rfl⟩
                 · have g1:¬ (1:Int)<(m:Int)-(k:Int):=by omega
                   clear hr A hv hb ha hsm;go_wp2_with (first | (go_at_call 120;refine (DM.out _).mono ?_;rintro e w' ⟨rfl,rfl⟩) | (go_at_call 119;refine (LM.out _).mono ?_;rintro e w' ⟨rfl,rfl⟩) | (go_at_call 121;refine (NU.out _).mono ?_;rintro e w' ⟨rfl,rfl⟩))
                   go_ret3
                   rw [R.out];exact ⟨hB.out,rfl⟩
               | some nv =>
                 obtain ⟨hf,hin⟩:=PH hlt hkm hm2 hr A hb hv;have ET:=EA hlt H32.out hkm hE.out (FF.out.trans hf);rw [hv] at NU;unfold Ac at NU;by_cases g0:1<m-k
                 · have g1:(1:Int)<(m:Int)-(k:Int):=by omega
                   have g2:((s[k].toNat:Int) == 48)=false:=f9 (k:=48) (by decide) (fun e=>A ⟨g0,e⟩);obtain ⟨t,ht⟩:∃ t:Tk,t=⟨2,(s.data.toList.drop k).take (m-k),nv,k⟩:=⟨_,rfl⟩;have E3:=aA (show (cL (s.data.toList.drop m) m).after (T++[t])=E by rw [ht];exact ET);have hcells:tkL t=[.int .i64 2,.string (s.extract k m),.int .i64 nv,.int .i64 k]:=by rw [ht];exact kI s k m _ _
                   have NA:=aA (Fm wr hcells);have OA:=aA (show (wr.alloc (rtO 2 (s.extract k m) nv k)).ownsRow w.heap.size 128 4 (.slice va T.length vc) T.length (fN T) from hO.out.alloc _);have hz:=hB.out.size;have BA:=aA (show w.heap.size<=(wr.alloc (rtO 2 (s.extract k m) nv k)).heap.size by rw [World.size_alloc];omega);have OLt:=aA (fun q hq=>hO.out.lt q hq);clear ET ht hcells hr A hv hb hf hin ha hsm;go_wp2_with (first | (go_at_call 120;refine (DM.out _).mono ?_;rintro e w' ⟨rfl,rfl⟩) | (go_at_call 119;refine (LM.out _).mono ?_;rintro e w' ⟨rfl,rfl⟩) | (go_at_call 121;refine (NU.out _).mono ?_;rintro e w' ⟨rfl,rfl⟩) | (at_builtin;refine aQ rfl _ _ 121 rfl (base:=w.heap.size) und hi hz0 hz1 hz2 rfl (by decide) (.slice va T.length vc) T.length 1 1 ⟨wr.heap.size,0,none⟩ (fN T) (tkL t) rfl rfl OA.out rfl NA.out (lE _) (by unfold maxLen;omega) (by omega) BA.out ?_))
                   intro v6 w6 ho hg _;obtain ⟨va6,c6,rfl⟩:=eV ho;have B6:=aA (show Below w.heap.size w w6 from (hB.out.alloc hB.out.size _).grown hg BA.out (fun q hq=>(OLt.out q hq).1));have O6:=aA (show w6.ownsRow w.heap.size 128 4 (.slice va6 (T++[t]).length c6) (T++[t]).length (fN (T++[t])) by rw [gO,List.length_append];exact ho);rw [show T.length+1=(T++[t]).length by rw [List.length_append];rfl];have hTl:(T++[t]).length<=m:=by rw [List.length_append];show T.length+1<=m;omega
                   generalize T++[t]=T2 at E3 O6 hTl;clear ho hg OA NA BA OLt;go_wp2_with fail
                   go_roundw
                   case rel=>exact ⟨m,va6,c6,T2,rfl,by go_num,by omega,hTl,E3,O6,B6⟩
                   case measure=>simp [intOf];omega
                 · have g1:¬ (1:Int)<(m:Int)-(k:Int):=by omega
                   obtain ⟨t,ht⟩:∃ t:Tk,t=⟨2,(s.data.toList.drop k).take (m-k),nv,k⟩:=⟨_,rfl⟩;have E3:=aA (show (cL (s.data.toList.drop m) m).after (T++[t])=E by rw [ht];exact ET);have hcells:tkL t=[.int .i64 2,.string (s.extract k m),.int .i64 nv,.int .i64 k]:=by rw [ht];exact kI s k m _ _
                   have NA:=aA (Fm wr hcells);have OA:=aA (show (wr.alloc (rtO 2 (s.extract k m) nv k)).ownsRow w.heap.size 128 4 (.slice va T.length vc) T.length (fN T) from hO.out.alloc _);have hz:=hB.out.size;have BA:=aA (show w.heap.size<=(wr.alloc (rtO 2 (s.extract k m) nv k)).heap.size by rw [World.size_alloc];omega);have OLt:=aA (fun q hq=>hO.out.lt q hq);clear ET ht hcells hr A hv hb hf hin ha hsm;go_wp2_with (first | (go_at_call 120;refine (DM.out _).mono ?_;rintro e w' ⟨rfl,rfl⟩) | (go_at_call 119;refine (LM.out _).mono ?_;rintro e w' ⟨rfl,rfl⟩) | (go_at_call 121;refine (NU.out _).mono ?_;rintro e w' ⟨rfl,rfl⟩) | (at_builtin;refine aQ rfl _ _ 121 rfl (base:=w.heap.size) und hi hz0 hz1 hz2 rfl (by decide) (.slice va T.length vc) T.length 1 1 ⟨wr.heap.size,0,none⟩ (fN T) (tkL t) rfl rfl OA.out rfl NA.out (lE _) (by unfold maxLen;omega) (by omega) BA.out ?_))
                   intro v6 w6 ho hg _;obtain ⟨va6,c6,rfl⟩:=eV ho;have B6:=aA (show Below w.heap.size w w6 from (hB.out.alloc hB.out.size _).grown hg BA.out (fun q hq=>(OLt.out q hq).1));have O6:=aA (show w6.ownsRow w.heap.size 128 4 (.slice va6 (T++[t]).length c6) (T++[t]).length (fN (T++[t])) by rw [gO,List.length_append];exact ho);rw [show T.length+1=(T++[t]).length by rw [List.length_append];rfl];have hTl:(T++[t]).length<=m:=by rw [List.length_append];show T.length+1<=m;omega
                   generalize T++[t]=T2 at E3 O6 hTl;clear ho hg OA NA BA OLt;go_wp2_with fail
                   go_roundw
                   case rel=>exact ⟨m,va6,c6,T2,rfl,by go_num,by omega,hTl,E3,O6,B6⟩
                   case measure=>simp [intOf];omega
         · have hr:=sP hm1 hm2 hok.out (fun h=>absurd h hml)
           have hkm:=jS hlt HA.out hr;by_cases A:1<m-k/\s[k]=48
           · have R:=aA (vO hlt H32.out hE.out (FF.out.trans (PI hlt hr A.1 A.2)))
             have g1:(1:Int)<(m:Int)-(k:Int):=by omega
             have g2:((s[k].toNat:Int) == 48)=true:=nW (k:=48) (by decide) A.2;clear hr A;go_wp2_with (first | fail)
             go_ret3
             rw [R.out];exact ⟨hB.out,rfl⟩
           have hb:∀ h:m<s.size,bE s[m]=false:=fun h=>absurd h hml
           have NU:=aA (fun w=>uY (s.extract k m) (by rw [ByteArray.size_extract];omega) w);cases hv:fR (s.extract k m).data.toList with
           | none =>
             have R:=aA (vO hlt H32.out hE.out (FF.out.trans (PC hlt hkm hm2 hr A hb hv)));rw [hv] at NU;unfold Ac at NU;by_cases g0:1<m-k
             · have g1:(1:Int)<(m:Int)-(k:Int):=by omega
               have g2:((s[k].toNat:Int) == 48)=false:=f9 (k:=48) (by decide) (fun e=>A ⟨g0,e⟩);clear hr A hv hb;go_wp2_with (first | fail | (go_at_call 121;refine (NU.out _).mono ?_;rintro e w' ⟨rfl,rfl⟩))
               go_ret3
               rw [R.out];exact ⟨hB.out,rfl⟩
             · have g1:¬ (1:Int)<(m:Int)-(k:Int):=by omega
               clear hr A hv hb;go_wp2_with (first | fail | (go_at_call 121;refine (NU.out _).mono ?_;rintro e w' ⟨rfl,rfl⟩))
               go_ret3
               rw [R.out];exact ⟨hB.out,rfl⟩
           | some nv =>
             obtain ⟨hf,hin⟩:=PH hlt hkm hm2 hr A hb hv;have ET:=EA hlt H32.out hkm hE.out (FF.out.trans hf);rw [hv] at NU;unfold Ac at NU;by_cases g0:1<m-k
             · have g1:(1:Int)<(m:Int)-(k:Int):=by omega
               have g2:((s[k].toNat:Int) == 48)=false:=f9 (k:=48) (by decide) (fun e=>A ⟨g0,e⟩);obtain ⟨t,ht⟩:∃ t:Tk,t=⟨2,(s.data.toList.drop k).take (m-k),nv,k⟩:=⟨_,rfl⟩;have E3:=aA (show (cL (s.data.toList.drop m) m).after (T++[t])=E by rw [ht];exact ET);have hcells:tkL t=[.int .i64 2,.string (s.extract k m),.int .i64 nv,.int .i64 k]:=by rw [ht];exact kI s k m _ _
               have NA:=aA (Fm wr hcells);have OA:=aA (show (wr.alloc (rtO 2 (s.extract k m) nv k)).ownsRow w.heap.size 128 4 (.slice va T.length vc) T.length (fN T) from hO.out.alloc _);have hz:=hB.out.size;have BA:=aA (show w.heap.size<=(wr.alloc (rtO 2 (s.extract k m) nv k)).heap.size by rw [World.size_alloc];omega);have OLt:=aA (fun q hq=>hO.out.lt q hq);clear ET ht hcells hr A hv hb hf hin;go_wp2_with (first | fail | (go_at_call 121;refine (NU.out _).mono ?_;rintro e w' ⟨rfl,rfl⟩) | (at_builtin;refine aQ rfl _ _ 121 rfl (base:=w.heap.size) und hi hz0 hz1 hz2 rfl (by decide) (.slice va T.length vc) T.length 1 1 ⟨wr.heap.size,0,none⟩ (fN T) (tkL t) rfl rfl OA.out rfl NA.out (lE _) (by unfold maxLen;omega) (by omega) BA.out ?_))
               intro v6 w6 ho hg _;obtain ⟨va6,c6,rfl⟩:=eV ho;have B6:=aA (show Below w.heap.size w w6 from (hB.out.alloc hB.out.size _).grown hg BA.out (fun q hq=>(OLt.out q hq).1));have O6:=aA (show w6.ownsRow w.heap.size 128 4 (.slice va6 (T++[t]).length c6) (T++[t]).length (fN (T++[t])) by rw [gO,List.length_append];exact ho);rw [show T.length+1=(T++[t]).length by rw [List.length_append];rfl];have hTl:(T++[t]).length<=m:=by rw [List.length_append];show T.length+1<=m;omega
               generalize T++[t]=T2 at E3 O6 hTl;clear ho hg OA NA BA OLt;go_wp2_with fail
               go_roundw
               case rel=>exact ⟨m,va6,c6,T2,rfl,by go_num,by omega,hTl,E3,O6,B6⟩
               case measure=>simp [intOf];omega
             · have g1:¬ (1:Int)<(m:Int)-(k:Int):=by omega
               obtain ⟨t,ht⟩:∃ t:Tk,t=⟨2,(s.data.toList.drop k).take (m-k),nv,k⟩:=⟨_,rfl⟩;have E3:=aA (show (cL (s.data.toList.drop m) m).after (T++[t])=E by rw [ht];exact ET);have hcells:tkL t=[.int .i64 2,.string (s.extract k m),.int .i64 nv,.int .i64 k]:=by rw [ht];exact kI s k m _ _
               have NA:=aA (Fm wr hcells);have OA:=aA (show (wr.alloc (rtO 2 (s.extract k m) nv k)).ownsRow w.heap.size 128 4 (.slice va T.length vc) T.length (fN T) from hO.out.alloc _);have hz:=hB.out.size;have BA:=aA (show w.heap.size<=(wr.alloc (rtO 2 (s.extract k m) nv k)).heap.size by rw [World.size_alloc];omega);have OLt:=aA (fun q hq=>hO.out.lt q hq);clear ET ht hcells hr A hv hb hf hin;go_wp2_with (first | fail | (go_at_call 121;refine (NU.out _).mono ?_;rintro e w' ⟨rfl,rfl⟩) | (at_builtin;refine aQ rfl _ _ 121 rfl (base:=w.heap.size) und hi hz0 hz1 hz2 rfl (by decide) (.slice va T.length vc) T.length 1 1 ⟨wr.heap.size,0,none⟩ (fN T) (tkL t) rfl rfl OA.out rfl NA.out (lE _) (by unfold maxLen;omega) (by omega) BA.out ?_))
               intro v6 w6 ho hg _;obtain ⟨va6,c6,rfl⟩:=eV ho;have B6:=aA (show Below w.heap.size w w6 from (hB.out.alloc hB.out.size _).grown hg BA.out (fun q hq=>(OLt.out q hq).1));have O6:=aA (show w6.ownsRow w.heap.size 128 4 (.slice va6 (T++[t]).length c6) (T++[t]).length (fN (T++[t])) by rw [gO,List.length_append];exact ho);rw [show T.length+1=(T++[t]).length by rw [List.length_append];rfl];have hTl:(T++[t]).length<=m:=by rw [List.length_append];show T.length+1<=m;omega
               generalize T++[t]=T2 at E3 O6 hTl;clear ho hg OA NA BA OLt;go_wp2_with fail
               go_roundw
               case rel=>exact ⟨m,va6,c6,T2,rfl,by go_num,by omega,hTl,E3,O6,B6⟩
               case measure=>simp [intOf];omega
      | false =>
        have LK:=aA (p:=∀ w,Calls Tryz.prog 119 #[.int .u8 s[k].toNat] w fun e w'=>e=.returned (.bool false)/\w=w') (fun w=>by have:=e8 s[k] w;rwa [hs] at this);have DK:=aA (p:=∀ w,Calls Tryz.prog 120 #[.int .u8 s[k].toNat] w fun e w'=>e=.returned (.bool false)/\w=w') (fun w=>by have:=iQ s[k] w;rwa [hd] at this);obtain ⟨n,hn⟩:∃ n,kK (s.data.toList.drop k)=n:=⟨_,rfl⟩;have hnl:n<=s.size-k:=by rw [<- hn];have:=BE (s.data.toList.drop k);rw [List.length_drop] at this;simpa using this
        have hx:(s.extract k s.size).extract 0 n=s.extract k (k+n):=by
         apply dI
         rw [fD,qG,f7,show k+n-k=n by omega]
        have SG:=aA (p:=∀ w,Calls Tryz.prog 122 #[.string (s.extract k s.size)] w fun e w'=>e=.returned (.string (s.extract k (k+n)))/\Below w.heap.size w w') (fun w=>by
         have:=Iz (s.extract k s.size) (by rw [ByteArray.size_extract];omega) (by rw [ByteArray.size_extract];omega) w;rw [qG,hn,hx] at this;exact this)
        have FF:=aA (Gl hlt hs hd);have hxs:(s.extract k (k+n)).size=n:=by rw [ByteArray.size_extract];omega
        clear hs hd hx;by_cases h0:n=0
        · have R:=aA (vO hlt H32.out hE.out (FF.out.trans (Iq (hn.trans h0))))
          have q0:((s.extract k (k+n)).toList == [])=true:=by
           rw [Lib.toList_data,beq_iff_eq];exact List.length_eq_zero_iff.1 (by rw [ED];omega)
          clear hn h0;go_wp2_with (first | (go_at_call 119;refine (LK.out _).mono ?_;rintro e w' ⟨rfl,rfl⟩) | (go_at_call 120;refine (DK.out _).mono ?_;rintro e w' ⟨rfl,rfl⟩))
          refine (SG.out _).mono ?_;rintro e w2 ⟨rfl,hb⟩;have B2:=aA (hB.out.trans (hb.mono hB.out.size));clear hb;go_wp2_with fail
          go_ret3
          rw [R.out];exact ⟨B2.out,rfl⟩
        · have ET:=EA (m:=k+n) hlt H32.out (by omega) hE.out (FF.out.trans (by rw [show k+n-k=n by omega];exact Ip hn h0))
          have q0:((s.extract k (k+n)).toList == [])=false:=by
           rw [Lib.toList_data,beq_eq_false_iff_ne];intro e;have:=ED (s.extract k (k+n));rw [e,List.length_nil] at this;omega
          clear hn;go_wp2_with (first | (go_at_call 119;refine (LK.out _).mono ?_;rintro e w' ⟨rfl,rfl⟩) | (go_at_call 120;refine (DK.out _).mono ?_;rintro e w' ⟨rfl,rfl⟩))
          refine (SG.out _).mono ?_;rintro e w2 ⟨rfl,hb⟩;have B2:=aA (hB.out.trans (hb.mono hB.out.size));have O2:=aA (cQ hO.out hb);clear hb;obtain ⟨t,ht⟩:∃ t:Tk,t=⟨3,(s.data.toList.drop k).take ((k+n)-k),0,k⟩:=⟨_,rfl⟩;have E3:=aA (show (cL (s.data.toList.drop (k+n)) (k+n)).after (T++[t])=E by rw [ht];exact ET);have hcells:tkL t=[.int .i64 3,.string (s.extract k (k+n)),.int .i64 0,.int .i64 k]:=by rw [ht];exact kI s k (k+n) _ _
          have NA:=aA (Fm w2 hcells);have OA:=aA (show (w2.alloc (rtO 3 (s.extract k (k+n)) 0 k)).ownsRow w.heap.size 128 4 (.slice va T.length vc) T.length (fN T) from O2.out.alloc _);have hz:=B2.out.size;have BA:=aA (show w.heap.size<=(w2.alloc (rtO 3 (s.extract k (k+n)) 0 k)).heap.size by rw [World.size_alloc];omega);have OLt:=aA (fun q hq=>O2.out.lt q hq);clear ET ht hcells;go_wp2_with (first | fail | (at_builtin;refine aQ rfl _ _ 121 rfl (base:=w.heap.size) und hi hz0 hz1 hz2 rfl (by decide) (.slice va T.length vc) T.length 1 1 ⟨w2.heap.size,0,none⟩ (fN T) (tkL t) rfl rfl OA.out rfl NA.out (lE _) (by unfold maxLen;omega) (by omega) BA.out ?_))
          intro v6 w6 ho hg _;obtain ⟨va6,c6,rfl⟩:=eV ho;have B6:=aA (show Below w.heap.size w w6 from (B2.out.alloc B2.out.size _).grown hg BA.out (fun q hq=>(OLt.out q hq).1));have O6:=aA (show w6.ownsRow w.heap.size 128 4 (.slice va6 (T++[t]).length c6) (T++[t]).length (fN (T++[t])) by rw [gO,List.length_append];exact ho);rw [show T.length+1=(T++[t]).length by rw [List.length_append];rfl];have hTl:(T++[t]).length<=(k+n):=by rw [List.length_append];show T.length+1<=(k+n);omega
          generalize T++[t]=T2 at E3 O6 hTl;clear ho hg OA NA BA OLt;go_wp2_with fail
          go_roundw
          case rel=>exact ⟨(k+n),va6,c6,T2,rfl,by go_num,by omega,hTl,E3,O6,B6⟩
          case measure=>simp [intOf];omega
  · obtain rfl:k=s.size:=by omega
    have R:=aA (Rx hE.out);go_wp2_with fail
    go_ret3
    rw [R.out];exact ⟨hB.out,va,vc,rfl,hO.out⟩
end
section
open Go.RowKit
theorem BM {q:UInt8->Bool}:∀ (x r:List UInt8),(∀ c∈x,q c=true)->(∀ c t,r=c::t->q c=false)->bL q (x++r)=x.length
 | [], r, _, h => by
   cases r with
   | nil=>rfl
   | cons c t =>
     unfold bL;rw [List.nil_append,List.takeWhile_cons_of_neg (by rw [h c t rfl];decide)]
 | c :: x, r, h, h2 => by
   have ih:=BM x r (fun d hd=>h d (by simp [hd])) h2;unfold bL at ih |-
   rw [List.cons_append,List.takeWhile_cons_of_pos (h c (by simp)),List.length_cons,ih,List.length_cons]
def dL (t:Tk):Int×List UInt8×Int:=(t.kind,t.text,t.num)
theorem FV (l:List UInt8) (p:Nat):∀ q e,cL l p=.bad q e->e=1\/e=2\/e=5:=by
 refine nP (C:=fun l p=>∀ q e,cL l p=.bad q e->e=1\/e=2\/e=5) ?_ ?_ ?_ ?_ l.length l p (Nat.le_refl _)
 · intro p q e h
   rw [lJ] at h;cases h
 · intro r p ih q e h
   rw [fH] at h;exact ih q e h
 · intro l p e h1 h0 hf q e2 h
   rw [qH h0 h1 hf] at h;cases h;exact Bi hf
 · intro l p k n v h1 h0 hf hn hl ih q e h
   rw [iC h1 hn hf] at h;cases hx:cL (l.drop n) (p+n) with
   | ok ts=>rw [hx] at h;cases h
   | bad q' e'=>rw [hx] at h;cases h;exact ih _ _ hx
theorem o9 {l:List UInt8} {p:Nat} {e:Int} (h:gU l=.bad p e):(e == 0)=false/\(e != 0)=true:=by
 have:e=4\/e=1\/e=2\/e=5:=by
  unfold gU at h;split at h
  · cases h;exact .inl rfl
  · exact .inr (FV _ _ _ _ h)
 rcases this with h | h | h | h <;> rw [h] <;> exact ⟨by decide,by decide⟩
end
section
open Go.RowKit
theorem NJ (ts:List Tk) (rb:Nat) (a:Option Addr) (c:Nat):∀ m:Nat,
 (∀ s w,ts.length-s.pos<=m->(s.bad=0->s.cnt<=32)->PW ts rb a c s w->Calls Tryz.prog 263 #[.pointer (some ⟨rb,0,none⟩)] w (PE ts rb a c (pE ts .fac s) w)) /\
 (∀ s w,ts.length-s.pos<=m->(s.bad=0->s.cnt<=32)->PW ts rb a c s w->Calls Tryz.prog 245 #[.pointer (some ⟨rb,0,none⟩)] w (PE ts rb a c (pE ts .prod s) w)) /\
 (∀ s w,ts.length-s.pos<=m->(s.bad=0->s.cnt<=32)->PW ts rb a c s w->Calls Tryz.prog 223 #[.pointer (some ⟨rb,0,none⟩)] w (PE ts rb a c (pE ts .sum s) w)):=by
 intro m;induction m with
 | zero =>
   have hf:∀ s w,ts.length-s.pos<=0->(s.bad=0->s.cnt<=32)->PW ts rb a c s w->Calls Tryz.prog 263 #[.pointer (some ⟨rb,0,none⟩)] w (PE ts rb a c (pE ts .fac s) w):=fun s w hm _ h=>by
    by_cases hb:s.bad=0
    · exact Ho ts rb a c s w h hb (by omega)
    · exact Ex ts rb a c s w h hb
   have hp:∀ s w,ts.length-s.pos<=0->(s.bad=0->s.cnt<=32)->PW ts rb a c s w->Calls Tryz.prog 245 #[.pointer (some ⟨rb,0,none⟩)] w (PE ts rb a c (pE ts .prod s) w):=fun s w hm hc h =>
    DL ts rb a c s w h hc (fun s' w' hp hc' h'=>hf s' w' (by omega) hc' h')
   exact ⟨hf,hp,fun s w hm hc h=>GU ts rb a c s w h hc (fun s' w' hp' hc' h'=>hp s' w' (by omega) hc' h')⟩
 | succ m ih =>
   obtain ⟨if_,ip,is_⟩:=ih
   have hf:∀ s w,ts.length-s.pos<=m+1->(s.bad=0->s.cnt<=32)->PW ts rb a c s w->Calls Tryz.prog 263 #[.pointer (some ⟨rb,0,none⟩)] w (PE ts rb a c (pE ts .fac s) w):=fun s w hm hc h=>by
    by_cases hb:s.bad=0
    · by_cases hp:s.pos<ts.length
      · by_cases h2:ts[s.pos].kind=2
        · exact Pa ts rb a c s w h hb hp (hc hb) h2
        by_cases h1:ts[s.pos].kind=1
        · exact Mx ts rb a c s w h hb hp (hc hb) h1
        by_cases h45:ts[s.pos].text=[45]
        · exact Pb ts rb a c s w h hb hp (hc hb) h2 h1 h45 (fun w' h'=>if_ _ w' (by rw [bZ];omega) (fun hq=>by obtain ⟨_,z1,z2,_⟩:=dQ hq;omega) h')
        by_cases h40:ts[s.pos].text=[40]
        · have hs:∀ w',PW ts rb a c (aJ s) w'->Calls Tryz.prog 223 #[.pointer (some ⟨rb,0,none⟩)] w' (PE ts rb a c (pE ts .sum (aJ s)) w') :=
           fun w' h'=>is_ _ w' (by show ts.length-(s.pos+1)<=m;omega) (fun _=>hc hb) h'
          by_cases hq:(pE ts .sum (aJ s)).2.bad=0
          · cases hsh:isS ts [41] (pE ts .sum (aJ s)).2.pos with
            | true=>exact Mu ts rb a c s w h hb hp (hc hb) h2 h1 h40 hs hq hsh
            | false=>exact Mt ts rb a c s w h hb hp (hc hb) h2 h1 h40 hs hq hsh
          · exact Mv ts rb a c s w h hb hp (hc hb) h2 h1 h40 hs hq
        exact Mw ts rb a c s w h hb hp (hc hb) h2 h1 h45 h40
      · exact Ho ts rb a c s w h hb hp
    · exact Ex ts rb a c s w h hb
   have hp:∀ s w,ts.length-s.pos<=m+1->(s.bad=0->s.cnt<=32)->PW ts rb a c s w->Calls Tryz.prog 245 #[.pointer (some ⟨rb,0,none⟩)] w (PE ts rb a c (pE ts .prod s) w):=fun s w hm hc h =>
    DL ts rb a c s w h hc (fun s' w' hp hc' h'=>hf s' w' (by omega) hc' h')
   exact ⟨hf,hp,fun s w hm hc h=>GU ts rb a c s w h hc (fun s' w' hp' hc' h'=>hp s' w' (by omega) hc' h')⟩
def GH (q:Hy) (w:World) (e:Ending) (w':World):Prop:=Below w.heap.size w w' /\
 match q with
 | .bad p er=>e=.returned (.tuple #[cF ⟨#[]⟩ ⟨#[]⟩ 0 none 0 0,.int .i64 (p:Nat),.int .i64 er])
 | .ok t p=>∃ a c,e=.returned (.tuple #[cF t.op t.nm t.n a t.ks.len c,.int .i64 (p:Nat),.int .i64 0])/\a8 w.heap.size w' a t.ks
theorem GZ (ts:List Tk) (a:Option Addr) (c:Nat) (p:Nat) (hn:ts.length<=100000) (hp:p<=ts.length) (w:World) (hr:fI w a ts) :
 Calls Tryz.prog 181 #[.slice a ts.length c,.int .i64 p] w (GH (ofL ts p) w):=by
 have hrb:w.heap.size<(w.alloc (ndO ⟨#[]⟩ ⟨#[]⟩ 0 none 0 0)).heap.size:=by rw [World.size_alloc];omega
 have B1:=bA0 w (ndO ⟨#[]⟩ ⟨#[]⟩ 0 none 0 0);have NB:=heap_alloc_new w (ndO ⟨#[]⟩ ⟨#[]⟩ 0 none 0 0);have hs0:(w.alloc (ndO ⟨#[]⟩ ⟨#[]⟩ 0 none 0 0)).heap.size=w.heap.size+1:=World.size_alloc _ _;generalize hW:w.alloc (ndO ⟨#[]⟩ ⟨#[]⟩ 0 none 0 0)=W at *;have B2:=bA0 W (.cells #[.slice a ts.length c,.int .i64 p,.int .i64 0,.int .i64 0,.int .i64 0] 126)
 have PV:PW ts W.heap.size a c ⟨p,0,0,0⟩ (W.alloc (.cells #[.slice a ts.length c,.int .i64 p,.int .i64 0,.int .i64 0,.int .i64 0] 126)) :=
  ⟨heap_alloc_new W _,(vZ (hr.kept B1)).kept (aE B2 (fun _=>False)) (fun _ h=>h.elim),⟨fun _=>hp,by show p<=_;omega,by show 0<=33;omega,hn⟩⟩
 have NV:(W.alloc (.cells #[.slice a ts.length c,.int .i64 p,.int .i64 0,.int .i64 0,.int .i64 0] 126)).heap[w.heap.size]? = some (ndO ⟨#[]⟩ ⟨#[]⟩ 0 none 0 0):=(B2.block _ (by omega)).trans NB;have hs1:(W.alloc (.cells #[.slice a ts.length c,.int .i64 p,.int .i64 0,.int .i64 0,.int .i64 0] 126)).heap.size=w.heap.size+2:=by rw [World.size_alloc];omega
 have BV:Below w.heap.size w (W.alloc (.cells #[.slice a ts.length c,.int .i64 p,.int .i64 0,.int .i64 0,.int .i64 0] 126)):=B1.trans (B2.mono (by omega));rw [hs0] at PV;have C:=aA (((NJ ts (w.heap.size+1) a c ts.length).2.2 ⟨p,0,0,0⟩ _ (by show ts.length-p<=ts.length;omega) (fun _=>Nat.zero_le _) PV));have hq:=show ofL ts p=if (pE ts .sum ⟨p,0,0,0⟩).2.bad=0 then .ok (pE ts .sum ⟨p,0,0,0⟩).1 (pE ts .sum ⟨p,0,0,0⟩).2.pos else .bad (pE ts .sum ⟨p,0,0,0⟩).2.whr (pE ts .sum ⟨p,0,0,0⟩).2.bad from rfl
 rw [hq];obtain ⟨q,hqq⟩:∃ q,pE ts .sum ⟨p,0,0,0⟩=q:=⟨_,rfl⟩;rw [hqq] at C |-
 clear hq hqq B2 NB hr PV;by_cases hb:q.2.bad=0
 · rw [if_pos hb]
   have qb:((q.2.bad:Int) != 0)=false:=by rw [hb];rfl
   clear hb;go_enter Tryz.func181,Tryz.ntmps181
   go_wp2_with fail
   refine C.out.mono ?_;rintro e w1 ⟨ad,cc,rfl,h1,hk1,hr1⟩;have BN:=bA0 w1 (ndO q.1.op q.1.nm q.1.n ad q.1.ks.len cc);have h2:=h1.below BN;have hz:=hk1.size;have hw1:w.heap.size<w1.heap.size:=by omega
   have hlt:w.heap.size<(w1.alloc (ndO q.1.op q.1.nm q.1.n ad q.1.ks.len cc)).heap.size:=by rw [World.size_alloc];omega
   have N2:=(BN.block w.heap.size hw1).trans (hk1.heap NV (by show ¬ w.heap.size=w.heap.size+1;omega));have B2:=aA (show Below w.heap.size w (w1.alloc (ndO q.1.op q.1.nm q.1.n ad q.1.ks.len cc)) from (BV.trans (hk1.below (fun k hk=>by omega) (by omega))).trans (BN.mono (by omega)));have R2:=aA (hr1.kept BN);have hnew:=heap_alloc_new w1 (ndO q.1.op q.1.nm q.1.n ad q.1.ks.len cc);generalize hV:w1.alloc (ndO q.1.op q.1.nm q.1.n ad q.1.ks.len cc)=V at *;obtain ⟨⟨c0,c1,c2,c3,c4⟩, -⟩:=h2.r.cells;obtain ⟨⟨n0,n1,n2,n3⟩,g0,g1,g2,g3⟩:=aL N2;obtain ⟨⟨m0,m1,m2,m3⟩, -⟩:=aL hnew;have N3:=aA N2;clear h1 hk1 hr1 BN h2 N2 hnew C;go_wp2_with fail
   clear hV;go_region
   go_wp2_with fail
   have KP:=eX V w.heap.size q.1.op q.1.nm q.1.n ad q.1.ks.len cc;have hres:=aU N3.out (.string q.1.op) (.string q.1.nm) (.int .i64 q.1.n) (.slice ad q.1.ks.len cc);obtain ⟨U,hU⟩:∃ U,(kL V w.heap.size q.1.op q.1.nm q.1.n ad q.1.ks.len cc).drew=U:=⟨_,rfl⟩;have hres':U.heap[w.heap.size]? = some (ndO q.1.op q.1.nm q.1.n ad q.1.ks.len cc):=by rw [<- hU];exact hres
   have BU:=aA (show Below w.heap.size w U by
    rw [<- hU];have:=B2.out.trans (KP.below (B:=w.heap.size) (fun k hk=>by omega) (by omega));exact ⟨this.os,this.tape,this.output,this.size,this.block⟩)
   have RU:=aA (show a8 w.heap.size U ad q.1.ks by
    rw [<- hU];exact ((R2.out.keptS KP (fun k hk=>by omega)).keptS ((aD.refl (fun _=>False) _).drew) (fun _ h=>h.elim)).mono (by omega))
   rw [hU];obtain ⟨⟨d0,d1,d2,d3⟩, -⟩:=aL hres';exact bodyPost_ret (v:=.tuple #[cF q.1.op q.1.nm q.1.n ad q.1.ks.len cc,.int .i64 q.2.pos,.int .i64 0]) (by simp [results,Tryz.results181,go_sem,d0,d1,d2,d3]) rfl ⟨BU.out,ad,cc,rfl,RU.out⟩
 · rw [if_neg hb]
   have qb:((q.2.bad:Int) != 0)=true:=by simpa using hb
   clear hb;go_enter Tryz.func181,Tryz.ntmps181
   go_wp2_with fail
   refine C.out.mono ?_;rintro e w1 ⟨ad,cc,rfl,h1,hk1,hr1⟩;have BN:=bA0 w1 (ndO q.1.op q.1.nm q.1.n ad q.1.ks.len cc);have h2:=h1.below BN;have hz:=hk1.size;have hw1:w.heap.size<w1.heap.size:=by omega
   have hlt:w.heap.size<(w1.alloc (ndO q.1.op q.1.nm q.1.n ad q.1.ks.len cc)).heap.size:=by rw [World.size_alloc];omega
   have N2:=(BN.block w.heap.size hw1).trans (hk1.heap NV (by show ¬ w.heap.size=w.heap.size+1;omega));have B2:=aA (show Below w.heap.size w (w1.alloc (ndO q.1.op q.1.nm q.1.n ad q.1.ks.len cc)) from (BV.trans (hk1.below (fun k hk=>by omega) (by omega))).trans (BN.mono (by omega)));generalize hV:w1.alloc (ndO q.1.op q.1.nm q.1.n ad q.1.ks.len cc)=V at *;obtain ⟨⟨c0,c1,c2,c3,c4⟩, -⟩:=h2.r.cells;obtain ⟨⟨n0,n1,n2,n3⟩,g0,g1,g2,g3⟩:=aL N2;have N3:=aA N2;clear h1 hk1 hr1 BN h2 N2 C;go_wp2_with fail
   clear hV;go_region
   go_wp2_with fail
   have KP:=eX V w.heap.size ⟨#[]⟩ ⟨#[]⟩ 0 none 0 0;have hres:=aU N3.out (.string ⟨#[]⟩) (.string ⟨#[]⟩) (.int .i64 0) (.slice none 0 0);obtain ⟨U,hU⟩:∃ U,(kL V w.heap.size ⟨#[]⟩ ⟨#[]⟩ 0 none 0 0).drew=U:=⟨_,rfl⟩;have hres':U.heap[w.heap.size]? = some (ndO ⟨#[]⟩ ⟨#[]⟩ 0 none 0 0):=by rw [<- hU];exact hres
   have BU:=aA (show Below w.heap.size w U by
    rw [<- hU];have:=B2.out.trans (KP.below (B:=w.heap.size) (fun k hk=>by omega) (by omega));exact ⟨this.os,this.tape,this.output,this.size,this.block⟩)
   rw [hU];obtain ⟨⟨d0,d1,d2,d3⟩, -⟩:=aL hres';exact bodyPost_ret (v:=.tuple #[cF ⟨#[]⟩ ⟨#[]⟩ 0 none 0 0,.int .i64 q.2.whr,.int .i64 q.2.bad]) (by simp [results,Tryz.results181,go_sem,d0,d1,d2,d3]) rfl ⟨BU.out,rfl⟩
end
section
open Go.RowKit
theorem Ec {l:List UInt8} {ts:List Tk} (h:gU l=.ok ts):ts.length<=1024:=by
 unfold gU at h;split at h
 · cases h
 · have:=(I7 _ _ _ h).2.1
   omega
theorem Ft (s:ByteArray) (ts:List Tk) (a:Option Addr) (c p:Nat) (_hn:ts.length<=100000) (w:World) (hr:fI w a ts) :
 Calls Tryz.prog 66 #[.string s,.slice a ts.length c,.int .i64 p] w fun e w'=>e=.returned (.int .i64 ((eU s.size ts p:Nat):Int))/\w=w':=by
 by_cases hlt:p<ts.length
 · obtain ⟨b,off,ha, -,hc⟩:=hr.resolve_left (by intro e;rw [e] at hlt;simp at hlt)
   obtain ⟨-, -, -,p3⟩:=hc p hlt;subst ha;have e:eU s.size ts p=ts[p].place:=by unfold eU;rw [List.getElem?_eq_getElem hlt]
   rw [e];clear hc;go_enter Tryz.func66,Tryz.ntmps66
   go_wp2_with fail
   go_ret;exact ⟨rfl,rfl⟩
 · have e:eU s.size ts p=s.size:=by unfold eU;rw [List.getElem?_eq_none (by omega)]
   rw [e];clear hr;go_enter Tryz.func66,Tryz.ntmps66
   go_wp2_with fail
   go_ret;exact ⟨rfl,rfl⟩
end
end
end Go.Proofs.YtgfkjkokmcejbaaGreatDoor
