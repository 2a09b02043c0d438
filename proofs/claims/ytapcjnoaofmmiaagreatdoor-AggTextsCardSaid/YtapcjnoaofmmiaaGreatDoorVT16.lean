/-
 No statement: what AggTextsCard needs, of the texts ONode, Take, OCond, QOwn, OConds, OArgs, QGw, OParse.
-/
import Derived.Test.YtapcjnoaofmmiaaGreatDoorVT15
import Derived.OrdersHeld
import Derived.NoCompiler
set_option maxHeartbeats 40000000
set_option maxRecDepth 100000
namespace Go.Proofs.YtapcjnoaofmmiaaGreatDoor
section
open Go.RowKit
def ofN (q:Do):TN×Nat×Int:=match q with | .ok t p=>(t,p,0) | .bad p e=>(aD,p,e)
theorem F6 {q:Do} {w w':World} {e:Ending} (h:yE q w e w'):Below w.heap.size w w'/\∃ ad cc,e=.returned (.tuple #[bB (ofN q).1.op (ofN q).1.nm (ofN q).1.n ad (ofN q).1.ks.len cc,.int .i64 ((ofN q).2.1:Nat),.int .i64 (ofN q).2.2])/\a7 w.heap.size w' ad (ofN q).1.ks:=by
 cases q with
 | ok t p=>obtain ⟨hb,ad,cc,he,hr⟩:=h;exact ⟨hb,ad,cc,he,hr⟩
 | bad p er=>obtain ⟨hb,he⟩:=h;exact ⟨hb,none,0,he,.inl rfl⟩
theorem G2 {L:List Tk} {s:RS} (hb:s.bad=0) (hp:s.pos<=L.length):(a8 L s).1=(ofN (ofL L s.pos)).1/\atR (a8 L s).2=(ofN (ofL L s.pos)).2.1/\(a8 L s).2.bad=(ofN (ofL L s.pos)).2.2:=by
 unfold a8;rw [if_pos hb];cases h:ofL L s.pos with
 | ok t p=>exact ⟨rfl,rfl,rfl⟩
 | bad p e =>
   have hne:¬ e=0:=((oX hp).2 p e h).2;exact ⟨rfl,pB hne,rfl⟩
theorem tM {ts:List Tk} {rb:Nat} {a:Option Addr} {c p:Nat} {er:Int} {w V:World} {t:TN} {ad:Option Addr} {cc:Nat} (hrb:rb<w.heap.size) (h:PR ts rb a c p er V) (hk:aE (· = rb) w V) (hr:a7 (w.heap.size+1) V ad t.ks) :
 PR ts rb a c p er (jK V w.heap.size t.op t.nm t.n ad t.ks.len cc)/\aE (· = rb) w (jK V w.heap.size t.op t.nm t.n ad t.ks.len cc)/\a7 w.heap.size (jK V w.heap.size t.op t.nm t.n ad t.ks.len cc) ad t.ks:=by
 have KP:=dV V w.heap.size t.op t.nm t.n ad t.ks.len cc;exact ⟨h.kept KP (fun k hk=>by omega),hk.trans (KP.mono (T:=fun i=>w.heap.size<=i) (fun i hi _=>by omega)) (fun i hi hl=>by omega),(hr.keptS KP (fun k hk=>by omega)).mono (by omega)⟩
theorem Bp (ts:List Tk) (rb:Nat) (a:Option Addr) (c p:Nat) (er:Int) (w:World) (h:PR ts rb a c p er w) (hb:¬ er=0) :
 Calls Tryz.prog 136 #[.pointer (some ⟨rb,0,none⟩)] w fun e w'=>∃ ad cc,e=.returned (bB aD.op aD.nm aD.n ad aD.ks.len cc)/\PR ts rb a c p er w'/\aE (· = rb) w w'/\a7 w.heap.size w' ad aD.ks:=by
 have q:((er:Int) != 0)=true:=by simpa using hb
 have BA:=(Below.refl w.heap.size w).alloc (Nat.le_refl _) (ndG ⟨#[]⟩ ⟨#[]⟩ 0 none 0 0);have NB:=heap_alloc_new w (ndG ⟨#[]⟩ ⟨#[]⟩ 0 none 0 0);have H1:=aA (h.below BA);have K1:=aA (aF BA (· = rb));have hrb:=h.lt;have HN:=aA NB;generalize hW:w.alloc (ndG ⟨#[]⟩ ⟨#[]⟩ 0 none 0 0)=W at *;have HW:=aA hW;obtain ⟨⟨c0,c1,c2⟩,f0,f1,f2⟩:=cV H1.out.r;obtain ⟨⟨r0,r1,r2,r3⟩,z0,z1,z2,z3⟩:=aK NB;clear h hb NB BA hW;go_enter Tryz.func136,Tryz.ntmps136
 go_upto_region 1 with fail
 rw [HW.out];go_wp2_with fail
 have P:=tM (t:=aD) (ad:=none) (cc:=0) hrb H1.out K1.out (.inl rfl);obtain ⟨⟨y0,y1,y2,y3⟩, -⟩:=aK (aV HN.out (.string ⟨#[]⟩) (.string ⟨#[]⟩) (.int .i64 0) (.slice none 0 0));exact bodyPost_ret (v:=bB ⟨#[]⟩ ⟨#[]⟩ 0 none 0 0) (by simp [results,Tryz.results136,go_sem,y0,y1,y2,y3]) rfl ⟨none,0,rfl,P⟩
theorem Gb (ts:List Tk) (hL:∀ t∈ts,cK t) (rb:Nat) (a:Option Addr) (c p:Nat) (w:World) (h:PR ts rb a c p 0 w) {t:TN} {q:Nat} {er:Int} (ho:ofN (ofL ts p)=(t,q,er)) (hq:q<=ts.length) :
 Calls Tryz.prog 136 #[.pointer (some ⟨rb,0,none⟩)] w fun e w'=>∃ ad cc,e=.returned (bB t.op t.nm t.n ad t.ks.len cc)/\PR ts rb a c q er w'/\aE (· = rb) w w'/\a7 w.heap.size w' ad t.ks:=by
 have hrb:=h.lt;have B1:=(Below.refl w.heap.size w).alloc (Nat.le_refl _) (ndG ⟨#[]⟩ ⟨#[]⟩ 0 none 0 0);have NB:=heap_alloc_new w (ndG ⟨#[]⟩ ⟨#[]⟩ 0 none 0 0);have hs0:(w.alloc (ndG ⟨#[]⟩ ⟨#[]⟩ 0 none 0 0)).heap.size=w.heap.size+1:=World.size_alloc _ _;have H1:=h.below B1;generalize hW:w.alloc (ndG ⟨#[]⟩ ⟨#[]⟩ 0 none 0 0)=W at *;have B2:=(Below.refl W.heap.size W).alloc (Nat.le_refl _) (ndG ⟨#[]⟩ ⟨#[]⟩ 0 none 0 0);have NC:=heap_alloc_new W (ndG ⟨#[]⟩ ⟨#[]⟩ 0 none 0 0);have ND:=(B2.block w.heap.size (by omega)).trans NB;have hs1:(W.alloc (ndG ⟨#[]⟩ ⟨#[]⟩ 0 none 0 0)).heap.size=W.heap.size+1:=World.size_alloc _ _;have H2:=H1.below B2;have BB:Below w.heap.size w (W.alloc (ndG ⟨#[]⟩ ⟨#[]⟩ 0 none 0 0)):=B1.trans (B2.mono (by omega))
 have CO:∀ V,eW V a ts->Calls Tryz.prog 165 #[.slice a ts.length c,.int .i64 p] V fun e w'=>Below V.heap.size V w'/\∃ ad cc,e=.returned (.tuple #[bB t.op t.nm t.n ad t.ks.len cc,.int .i64 (q:Nat),.int .i64 er])/\a7 V.heap.size w' ad t.ks:=fun V hV =>
  (IC ts hL a c p h.n h.p V hV).mono fun e w' hh=>by
   have:=F6 hh.1;rw [ho] at this;exact this
 have C1:=aA (CO W.drew (H1.below (⟨rfl,rfl,rfl,Nat.le_refl _,fun _ _=>rfl⟩:Below W.heap.size W W.drew)).reads);have C2:=aA (CO (W.alloc (ndG ⟨#[]⟩ ⟨#[]⟩ 0 none 0 0)).drew (H2.below (⟨rfl,rfl,rfl,Nat.le_refl _,fun _ _=>rfl⟩:Below _ (W.alloc (ndG ⟨#[]⟩ ⟨#[]⟩ 0 none 0 0)) (W.alloc (ndG ⟨#[]⟩ ⟨#[]⟩ 0 none 0 0)).drew)).reads);have H:=aA H1;have G:=aA H2;have N0:=aA NB;have N1:=aA NC;have N2:=aA ND;have BV:=aA B1;have BW:=aA BB;have hpos:=h.p;have hnn:=h.n;have HW:=aA hW;have HS0:=aA hs0;have HS1:=aA hs1;obtain ⟨⟨c0,c1,c2⟩,f0,f1,f2⟩:=cV H1.r;have d0:=(cV H2.r).1.1;have d1:=(cV H2.r).1.2.1;clear h H1 H2 NB NC ND B1 B2 BB ho hW hs0 hs1 CO hL;go_enter Tryz.func136,Tryz.ntmps136
 go_upto_region 1 with fail
 rw [HW.out];go_wp2_with fail
 go_region_law (first
  | (go_simp
     go_at_call 165
     refine C1.out.mono ?_;rintro e w2 ⟨hb2,ad,cc,rfl,hr⟩;have hb3:Below W.heap.size W w2:=⟨hb2.os,hb2.tape,hb2.output,hb2.size,hb2.block⟩;have H3:=aA (H.out.below hb3);have hz3:=hb3.size;have hzz:=HS0.out;have M0:=aA ((hb3.block w.heap.size (by omega)).trans N0.out);have B3:=aA (BV.out.trans (hb3.mono (by omega)));have ZZ:=aA hz3;have R3:=aA (show a7 W.heap.size w2 ad t.ks from hr);clear hb2 hb3 hr hz3 hzz)
  | (go_simp
     go_at_call 165
     refine C2.out.mono ?_;rintro e w2 ⟨hb2,ad,cc,rfl,hr⟩;have hb3:Below (W.alloc (ndG ⟨#[]⟩ ⟨#[]⟩ 0 none 0 0)).heap.size (W.alloc (ndG ⟨#[]⟩ ⟨#[]⟩ 0 none 0 0)) w2:=⟨hb2.os,hb2.tape,hb2.output,hb2.size,hb2.block⟩;have H3:=aA (G.out.below hb3);have hz3:=hb3.size;have hzz:=HS0.out;have hzy:=HS1.out;have M1:=aA ((hb3.block W.heap.size (by omega)).trans N1.out);have M0:=aA ((hb3.block w.heap.size (by omega)).trans N2.out);have B3:=aA (BW.out.trans (hb3.mono (by omega)));have ZZ:=aA hz3;obtain ⟨⟨n0,n1,n2,n3⟩,z0,z1,z2,z3⟩:=aK M1.out;have R3:=aA (show a7 (W.alloc (ndG ⟨#[]⟩ ⟨#[]⟩ 0 none 0 0)).heap.size w2 ad t.ks from hr);clear hb2 hb3 hr hz3 hzz hzy)
  | fail)
 all_goals first
  | (skip
     have BA:=(Below.refl w2.heap.size w2).alloc (Nat.le_refl _) (ndG t.op t.nm t.n ad t.ks.len cc);have K3:=aA (H3.out.below BA);have B4:=aA (show Below w.heap.size w (w2.alloc (ndG t.op t.nm t.n ad t.ks.len cc)) from B3.out.alloc (by have:=ZZ.out;have:=HS0.out;omega) _);have N4:=aA (heap_alloc_new w2 (ndG t.op t.nm t.n ad t.ks.len cc));have M4:=aA ((BA.block w.heap.size (by have:=ZZ.out;have:=HS0.out;omega)).trans M0.out);have R4:=aA ((R3.out.kept BA).mono (show w.heap.size+1<=W.heap.size by have:=HS0.out;omega));have hzw:w.heap.size+1<=(w2.alloc (ndG t.op t.nm t.n ad t.ks.len cc)).heap.size:=by rw [World.size_alloc];have:=ZZ.out;have:=HS0.out;omega
     have ZX:=aA hzw;clear BA hzw;generalize hX:w2.alloc (ndG t.op t.nm t.n ad t.ks.len cc)=X at K3 B4 N4 M4 ZX R4;generalize hBX:w2.heap.size=BX at N4;have HX:=aA hX;have HBX:=aA hBX;have LX:=aA (show w.heap.size<BX by have:=ZZ.out;have:=HS0.out;omega);clear hX hBX C1 C2 c0 c1 c2 f0 f1 f2 d0 d1;go_upto_region 4 with fail
     obtain ⟨⟨c0,c1,c2⟩,f0,f1,f2⟩:=cV K3.out.r;have K5:=aA ((K3.out.setP q hq).setE er);have KS:=aA (((aE.refl (· = rb) X).setCell (p:=⟨rb,1,none⟩) (.inl rfl) (.int .i64 (q:Nat))).setCell (p:=⟨rb,2,none⟩) (.inl rfl) (.int .i64 er));have N5:=aA (KS.out.heap N4.out (by have:=LX.out;omega));have M5:=aA (KS.out.heap M4.out (by omega));have R5:=aA (R4.out.keptS KS.out (fun k hk=>by omega));go_upto_region 5 with fail
     obtain ⟨⟨n0,n1,n2,n3⟩, -⟩:=aK N5.out;obtain ⟨⟨r0,r1,r2,r3⟩,z0,z1,z2,z3⟩:=aK M5.out;go_wp2_with fail
     have hk6:=i7 B4.out KS.out ZX.out;have P:=tM (cc:=cc) hrb K5.out hk6 R5.out;obtain ⟨⟨y0,y1,y2,y3⟩, -⟩:=aK (aV M5.out (.string t.op) (.string t.nm) (.int .i64 t.n) (.slice ad t.ks.len cc));exact bodyPost_ret (v:=bB t.op t.nm t.n ad t.ks.len cc) (by simp [results,Tryz.results136,go_sem,y0,y1,y2,y3]) rfl ⟨ad,cc,rfl,P⟩)
  | (skip
     have KP:=dV w2 W.heap.size t.op t.nm t.n ad t.ks.len cc;have K3:=aA (H3.out.kept KP (fun k hk=>by have:=HS0.out;omega));have B4:=aA (B3.out.trans (KP.below (B:=w.heap.size) (fun b hb=>by have:=HS0.out;omega) (by have:=ZZ.out;have:=HS1.out;have:=HS0.out;omega)));have N4:=aA (tV M1.out t.op t.nm t.n ad t.ks.len cc);have M4:=aA (KP.heap M0.out (by have:=HS0.out;omega));have R4:=aA ((R3.out.keptS KP (fun k hk=>by have:=HS1.out;omega)).mono (show w.heap.size+1<=_ by have:=HS0.out;have:=HS1.out;omega));have hzw:w.heap.size+1<=(jK w2 W.heap.size t.op t.nm t.n ad t.ks.len cc).heap.size:=by have:=KP.size;have:=ZZ.out;have:=HS1.out;have:=HS0.out;omega
     have ZX:=aA hzw;clear KP hzw;obtain ⟨X,hX⟩:∃ X,jK w2 W.heap.size t.op t.nm t.n ad t.ks.len cc=X:=⟨_,rfl⟩;rw [hX] at K3 B4 N4 M4 ZX R4;have hX2:(((w2.setCell ⟨W.heap.size,0,none⟩ (.string t.op)).setCell ⟨W.heap.size,1,none⟩ (.string t.nm)).setCell ⟨W.heap.size,2,none⟩ (.int .i64 t.n)).setCell ⟨W.heap.size,3,none⟩ (.slice ad t.ks.len cc)=X:=hX;have LX:=aA (show w.heap.size<W.heap.size by have:=HS0.out;omega);rw [hX2];clear hX hX2 C1 C2 c0 c1 c2 f0 f1 f2 d0 d1 n0 n1 n2 n3 z0 z1 z2 z3;go_upto_region 4 with fail
     obtain ⟨⟨c0,c1,c2⟩,f0,f1,f2⟩:=cV K3.out.r;have K5:=aA ((K3.out.setP q hq).setE er);have KS:=aA (((aE.refl (· = rb) X).setCell (p:=⟨rb,1,none⟩) (.inl rfl) (.int .i64 (q:Nat))).setCell (p:=⟨rb,2,none⟩) (.inl rfl) (.int .i64 er));have N5:=aA (KS.out.heap N4.out (by have:=LX.out;omega));have M5:=aA (KS.out.heap M4.out (by omega));have R5:=aA (R4.out.keptS KS.out (fun k hk=>by omega));go_upto_region 5 with fail
     obtain ⟨⟨n0,n1,n2,n3⟩, -⟩:=aK N5.out;obtain ⟨⟨r0,r1,r2,r3⟩,z0,z1,z2,z3⟩:=aK M5.out;go_wp2_with fail
     have hk6:=i7 B4.out KS.out ZX.out;have P:=tM (cc:=cc) hrb K5.out hk6 R5.out;obtain ⟨⟨y0,y1,y2,y3⟩, -⟩:=aK (aV M5.out (.string t.op) (.string t.nm) (.int .i64 t.n) (.slice ad t.ks.len cc));exact bodyPost_ret (v:=bB t.op t.nm t.n ad t.ks.len cc) (by simp [results,Tryz.results136,go_sem,y0,y1,y2,y3]) rfl ⟨ad,cc,rfl,P⟩)
theorem nO (ts:List Tk) (hL:∀ t∈ts,cK t) (rb:Nat) (a:Option Addr) (c:Nat) (s:RS) (w:World) (h:PS ts rb a c s w) :
 Calls Tryz.prog 136 #[.pointer (some ⟨rb,0,none⟩)] w fun e w'=>∃ ad cc,e=.returned (bB (a8 ts s).1.op (a8 ts s).1.nm (a8 ts s).1.n ad (a8 ts s).1.ks.len cc)/\PS ts rb a c (a8 ts s).2 w'/\aE (· = rb) w w'/\a7 w.heap.size w' ad (a8 ts s).1.ks:=by
 by_cases hb:s.bad=0
 · have hp:s.pos<=ts.length:=by have:=h.p;rw [jX hb] at this;exact this
   obtain ⟨e1,e2,e3⟩:=G2 hb hp
   have hq:(ofN (ofL ts s.pos)).2.1<=ts.length:=by
    cases ho:ofL ts s.pos with
    | ok t q=>exact (oX hp).1 t q ho
    | bad q er=>exact ((oX hp).2 q er ho).1
   have h':PR ts rb a c s.pos 0 w:=by
    have:=h;unfold PS at this;rw [jX hb,hb] at this;exact this
   refine (Gb ts hL rb a c s.pos w h' (t:=(a8 ts s).1) (q:=atR (a8 ts s).2) (er:=(a8 ts s).2.bad) (by rw [e1,e2,e3]) (by rw [e2];exact hq)).mono fun e w' hh=>hh
 · rw [e9 hb]
   exact Bp ts rb a c (atR s) s.bad w h hb
end
end Go.Proofs.YtapcjnoaofmmiaaGreatDoor
namespace Go
section
variable {P:Program} {ops:Array Oper} {Q:Exit->Act->World->Prop} {md:Region.Mode} {S:World->Prop}
theorem aB {i:Nat} {oi:Oper} {d:Option Tmp} {v:Value} {fuel:Nat} {listed:Array Bool} {a:Act} {w:World} (hi:ops[i]? = some oi) (hd:oi.dst=d)
 (hs:Region.noSelect ops=true) (hf:Region.free md ops listed i=true) (hr:(Region.ready md ops listed).contains i=true)
 (hQ:∀ c a w,Q (.panic c) (a.put d v) w->Q (.panic c) a w) (hy:YieldsIf P ops S oi v a) (hS:S w)
 (h:wpAnyH P md ops Q S fuel (listed.setIfInBounds i true) (a.put d v) w):wpAnyH P md ops Q S (fuel+1) listed a w:=by
 subst hd;exact wpAnyH_take hi hs hf hr hQ hy hS h
end
end Go
namespace Go.Proofs.YtapcjnoaofmmiaaGreatDoor
section
open Go.RowKit
theorem rQ {c:UInt8} {r:List UInt8} (h:bJ c=true\/aZ c=true):aX ⟨(c::r).toArray⟩ 0 0=none:=by
 have hc:¬ c=61/\¬ c=33/\¬ c=60/\¬ c=62:=by
  rcases h with h | h
  · unfold bJ at h
    simp only [Bool.and_eq_true,decide_eq_true_eq] at h;refine ⟨?_,?_,?_,?_⟩ <;> (rintro rfl;revert h;decide)
  · unfold aZ at h
    simp only [Bool.and_eq_true,decide_eq_true_eq] at h;refine ⟨?_,?_,?_,?_⟩ <;> (rintro rfl;revert h;decide)
 have hx:∀ (y:UInt8) (m:List UInt8),c ≠ y->¬ (⟨(c::r).toArray⟩:ByteArray)=⟨(y::m).toArray⟩:=fun y m hn e=>by
  have:=congrArg (fun z=>z.data.toList) e;simp at this;exact hn this.1
 unfold aX;rw [if_neg (hx 61 [] hc.1),if_neg (hx 33 [61] hc.2.1),if_neg (hx 60 [] hc.2.2.1),if_neg (hx 60 [61] hc.2.2.1),if_neg (hx 62 [] hc.2.2.2),if_neg (hx 62 [61] hc.2.2.2)]
def AS (t:Tk):Prop:=(aX ⟨t.text.toArray⟩ 0 0).isSome=true->t.kind=3
theorem GR {l:List UInt8} {n:Nat} {k v:Int} (p:Nat) (hn:1<=n) (h:cU l=.tok k n v):AS ⟨k,l.take n,v,p⟩:=by
 intro ho;cases l with
 | nil=>cases h
 | cons c r =>
   obtain ⟨m,rfl⟩:∃ m,n=m+1:=⟨n-1,by omega⟩;simp only at ho |-
   rw [List.take_succ_cons] at ho;simp only [cU] at h;split at h
   · rename_i hc
     rw [rQ (.inl hc)] at ho;cases ho
   · split at h
     · rename_i hd
       rw [rQ (.inr hd)] at ho;cases ho
     · unfold jF at h
       split at h
       · cases h
       · injection h with h1
         exact h1.symm
theorem Kf (l:List UInt8) (p:Nat):∀ ts,c8 l p=.ok ts->∀ t∈ts,AS t:=by
 refine lT (C:=fun l p=>∀ ts,c8 l p=.ok ts->∀ t∈ts,AS t) ?_ ?_ ?_ ?_ l.length l p (Nat.le_refl _)
 · intro p ts h
   rw [iA] at h;cases h;intro t ht;cases ht
 · intro r p ih ts h
   rw [dC] at h;exact ih ts h
 · intro l p e h1 h0 hf ts h
   rw [nQ h0 h1 hf] at h;cases h
 · intro l p k n v h1 h0 hf hn hl ih ts h
   rw [lS h1 hn hf] at h;obtain ⟨ts',h',rfl⟩:=uM h;intro t ht;rcases List.mem_cons.1 ht with rfl | ht
   · exact GR p hn hf
   · exact ih ts' h' t ht
theorem IR {l:List UInt8} {ts:List Tk} (h:fJ l=.ok ts):∀ t∈ts,AS t:=by
 unfold fJ at h;split at h
 · cases h
 · exact Kf _ _ _ h
def opS (L:List Tk) (s:RS):RS:=goR (bW ((bM L (atR s)).kind == 3 && (aX ⟨(bM L (atR s)).text.toArray⟩ 0 0).isSome) 2 s)
theorem Jn {L:List Tk} (hO:∀ t∈L,AS t) (s:RS):(a8 L (opS L (a8 L s).2)).2=(cE L s).2 /\
 ((cE L s).2.bad=0->(cE L s).1=⟨⟨(bM L (atR (a8 L s).2)).text.toArray⟩,(a8 L s).1,(a8 L (opS L (a8 L s).2)).1⟩):=by
 unfold cE;obtain ⟨t,u,hu⟩:∃ t u,a8 L s=(t,u):=⟨_,_,rfl⟩;rw [hu];simp only;by_cases hb:u.bad=0
 · rw [if_pos hb]
   have hop:opS L u=if opB L u.pos=true then aO u else aR 2 u:=by
    unfold opS opB bM;rw [jX hb];cases hp:L[u.pos]? with
    | none =>
      rw [if_neg (by decide)];show goR (bW false 2 u)=_;rw [gG,fW (dA (by decide) hb)]
    | some t =>
      simp only [Option.getD_some];by_cases ho:(aX ⟨t.text.toArray⟩ 0 0).isSome=true
      · have hk:(t.kind == 3)=true:=by rw [hO t (List.mem_of_getElem? hp) ho];rfl
        rw [if_pos ho,hk,Bool.true_and,ho,jQ,Ar hb]
      · have ho':(aX ⟨t.text.toArray⟩ 0 0).isSome=false:=by simpa using ho
        rw [if_neg ho,ho',Bool.and_false,gG,fW (dA (by decide) hb)]
   rw [hop];cases ho:opB L u.pos with
   | true =>
     rw [if_pos rfl,if_pos rfl];refine ⟨rfl,fun _=>?_⟩;rw [jX hb]
     have:dQ L u.pos=(bM L u.pos).text:=by
      unfold dQ bM;cases L[u.pos]? <;> rfl
     rw [this]
   | false =>
     rw [if_neg (by decide),if_neg (by decide),e9 (dA (by decide) hb)];exact ⟨rfl,fun h=>absurd h (dA (by decide) hb)⟩
 · have e:opS L u=u:=by
    unfold opS;rw [gH hb,fW hb]
   rw [if_neg hb,e,e9 hb];exact ⟨rfl,fun h=>absurd h hb⟩
abbrev cdP (d:CD) (a1:Option Addr) (c1:Nat) (a2:Option Addr) (c2:Nat):Obj:=.cells #[.string d.op,.string d.a.op,.string d.a.nm,.int .i64 d.a.n,.slice a1 d.a.ks.len c1,.string d.b.op,.string d.b.nm,.int .i64 d.b.n,.slice a2 d.b.ks.len c2] 98
abbrev KU (W:World) (B:Nat) (d:CD) (a1:Option Addr) (c1:Nat) (a2:Option Addr) (c2:Nat):World:=((((((((W.setCell ⟨B,0,none⟩ (.string d.op)).setCell ⟨B,1,none⟩ (.string d.a.op)).setCell ⟨B,2,none⟩ (.string d.a.nm)).setCell ⟨B,3,none⟩ (.int .i64 d.a.n)).setCell ⟨B,4,none⟩ (.slice a1 d.a.ks.len c1)).setCell ⟨B,5,none⟩ (.string d.b.op)).setCell ⟨B,6,none⟩ (.string d.b.nm)).setCell ⟨B,7,none⟩ (.int .i64 d.b.n)).setCell ⟨B,8,none⟩ (.slice a2 d.b.ks.len c2)
theorem El (W:World) (B:Nat) (d:CD) (a1:Option Addr) (c1:Nat) (a2:Option Addr) (c2:Nat):aE (· = B) W (KU W B d a1 c1 a2 c2) :=
 ((((((((((aE.refl (· = B) W).setCell (p:=⟨B,0,none⟩) (.inl rfl) _).setCell (p:=⟨B,1,none⟩) (.inl rfl) _).setCell (p:=⟨B,2,none⟩) (.inl rfl) _).setCell (p:=⟨B,3,none⟩) (.inl rfl) _).setCell (p:=⟨B,4,none⟩) (.inl rfl) _).setCell (p:=⟨B,5,none⟩) (.inl rfl) _).setCell (p:=⟨B,6,none⟩) (.inl rfl) _).setCell (p:=⟨B,7,none⟩) (.inl rfl) _).setCell (p:=⟨B,8,none⟩) (.inl rfl) _)
theorem lI {W:World} {B:Nat} {l:List Value} {t:TypeId} (h:W.heap[B]? = some (.cells l.toArray t (0,0))) (i:Nat) (v:Value):(W.setCell ⟨B,i,none⟩ v).heap[B]? = some (.cells (l.set i v).toArray t (0,0)):=by
 have:=heap_setCell_same W B i _ t v h;simpa using this
theorem Gd {W:World} {B:Nat} {v0 v1 v2 v3 v4 v5 v6 v7 v8:Value} {t:TypeId} (h:W.heap[B]? = some (.cells #[v0,v1,v2,v3,v4,v5,v6,v7,v8] t (0,0))) (d:CD) (a1:Option Addr) (c1:Nat) (a2:Option Addr) (c2:Nat) :
 (KU W B d a1 c1 a2 c2).heap[B]? = some (.cells #[.string d.op,.string d.a.op,.string d.a.nm,.int .i64 d.a.n,.slice a1 d.a.ks.len c1,.string d.b.op,.string d.b.nm,.int .i64 d.b.n,.slice a2 d.b.ks.len c2] t (0,0)) :=
 lI (lI (lI (lI (lI (lI (lI (lI (lI (l:=[v0,v1,v2,v3,v4,v5,v6,v7,v8]) h 0 _) 1 _) 2 _) 3 _) 4 _) 5 _) 6 _) 7 _) 8 _
theorem Hc (ts:List Tk) (hL:∀ t∈ts,cK t) (rb:Nat) (a:Option Addr) (c:Nat) (s:RS) (w:World) (h:PS ts rb a c s w) {t1 t2:TN} {s1 s4:RS} {X:ByteArray}
 (h1:a8 ts s=(t1,s1)) (h2:a8 ts (opS ts s1)=(t2,s4)) (hX:X=⟨(bM ts (atR s1)).text.toArray⟩) :
 Calls Tryz.prog 137 #[.pointer (some ⟨rb,0,none⟩)] w fun e w'=>∃ ad1 cc1 ad2 cc2,e=.returned (.agg #[.string X,.string t1.op,.string t1.nm,.int .i64 t1.n,.slice ad1 t1.ks.len cc1,.string t2.op,.string t2.nm,.int .i64 t2.n,.slice ad2 t2.ks.len cc2]) /\
  PS ts rb a c s4 w'/\aE (· = rb) w w'/\a7 w.heap.size w' ad1 t1.ks/\a7 w.heap.size w' ad2 t2.ks:=by
 have hrb:=h.lt;have B1:=(Below.refl w.heap.size w).alloc (Nat.le_refl _) (cdP ⟨⟨#[]⟩,aD,aD⟩ none 0 none 0);have NB:=heap_alloc_new w (cdP ⟨⟨#[]⟩,aD,aD⟩ none 0 none 0);have hs0:(w.alloc (cdP ⟨⟨#[]⟩,aD,aD⟩ none 0 none 0)).heap.size=w.heap.size+1:=World.size_alloc _ _;have H1:=aA (h.below B1);have K1:=aA (aF B1 (· = rb));generalize hW:w.alloc (cdP ⟨⟨#[]⟩,aD,aD⟩ none 0 none 0)=W at *;have HW:=aA hW;have HNR:=aA NB;have CE1:=aA (nO ts hL rb a c s W H1.out);rw [h1] at CE1;have HC2:=aA h2;have HX:=aA hX;clear h B1 NB hW h1 h2 hX;go_enter Tryz.func137,Tryz.ntmps137
 go_upto_region 1 with fail
 rw [show w.alloc (.cells #[.string ⟨#[]⟩,.string ⟨#[]⟩,.string ⟨#[]⟩,.int .i64 0,.slice none 0 0,.string ⟨#[]⟩,.string ⟨#[]⟩,.int .i64 0,.slice none 0 0] 98)=W from HW.out];go_wp2_with fail
 refine CE1.out.mono ?_;rintro e w1 ⟨ad1,cc1,rfl,P2,k2,r2⟩;have BA:=(Below.refl w1.heap.size w1).alloc (Nat.le_refl _) (ndG t1.op t1.nm t1.n ad1 t1.ks.len cc1);have NA:=heap_alloc_new w1 (ndG t1.op t1.nm t1.n ad1 t1.ks.len cc1);have hs1:(w1.alloc (ndG t1.op t1.nm t1.n ad1 t1.ks.len cc1)).heap.size=w1.heap.size+1:=World.size_alloc _ _;have hz1:=k2.size;have P3:=aA (P2.below BA);have K3:=aA ((K1.out.trans k2 (fun i hi _=>hi)).trans (aF BA (· = rb)) (fun i hi _=>hi));have NR3:=aA ((BA.block w.heap.size (by omega)).trans (k2.heap HNR.out (by omega)));have R3:=aA ((show a7 (w.heap.size+1) w1 ad1 t1.ks by rw [<- hs0];exact r2).kept BA);clear P2 k2 r2 BA CE1 HNR K1 H1;go_upto_region 2 with fail
 rw [show w1.alloc (.cells #[.string t1.op,.string t1.nm,.int .i64 t1.n,.slice ad1 t1.ks.len cc1] 25)=w1.alloc (ndG t1.op t1.nm t1.n ad1 t1.ks.len cc1) from rfl];generalize w1.alloc (ndG t1.op t1.nm t1.n ad1 t1.ks.len cc1)=W1 at *;generalize w1.heap.size=B at *;have hBw:w.heap.size<B:=by omega
 have HNB:=aA NA;have CN:=kU ts rb a c (atR s1) s1.bad W1 P3.out;have TL:(bM ts (atR s1)).kind=3->atR s1<ts.length:=fun hk=>wT (by rw [hk];decide)
 have hX:=HX.out;have h2:=HC2.out;unfold opS at h2;obtain ⟨t,ht⟩:∃ t,bM ts (atR s1)=t:=⟨_,rfl⟩;rw [ht] at CN TL hX h2;rw [pJ, <- hX] at CN;rw [<- hX] at h2;obtain ⟨k,s',nn,pp⟩:=t;simp only at CN TL h2;have HN:=aA CN;have HT:=aA TL;have HC:=aA h2;clear CN TL h2 hX ht HX HC2 NA hz1;go_wp2_with fail
 refine HN.out.mono ?_;rintro e w2 ⟨rfl,hb⟩;have BA:=(Below.refl w2.heap.size w2).alloc (Nat.le_refl _) (tkO k X nn pp);have NA:=heap_alloc_new w2 (tkO k X nn pp);have hs2:(w2.alloc (tkO k X nn pp)).heap.size=w2.heap.size+1:=World.size_alloc _ _;have hz2:=hb.size;have P4:=aA ((P3.out.below hb).below BA);have K4:=aA ((K3.out.trans (aF hb (· = rb)) (fun i hi _=>hi)).trans (aF BA (· = rb)) (fun i hi _=>hi));have NR4:=aA ((BA.block w.heap.size (by omega)).trans ((hb.block w.heap.size (by omega)).trans NR3.out));have NB4:=aA ((BA.block B (by omega)).trans ((hb.block B (by omega)).trans HNB.out));have R4:=aA ((R3.out.kept hb).kept BA);clear hb BA P3 K3 NR3 HNB R3 HN;go_upto_region 3 with fail
 generalize w2.alloc (tkO k X nn pp)=W2 at *;generalize w2.heap.size=T at *;have hTB:B<T:=by omega
 obtain ⟨⟨x0,x1,x2,x3⟩, -⟩:=aK NA;have HNT:=aA NA;clear NA hz2;have CM:=aA (fun so=>f7 ts rb a c s1 so 2 (by decide) W2 P4.out);obtain ⟨z,hz⟩:∃ z,((k == 3) && (aX X 0 0).isSome)=z:=⟨_,rfl⟩;rw [hz] at HC;have HZ:=aA hz
 have CS:=aA (fun V (hV:PS ts rb a c (bW z 2 s1) V)=>i1 ts rb a c (bW z 2 s1) (fun hh=>by
  rw [iE];have h2:=j1 (by decide) hh;have h3:=HZ.out;rw [h2.1,Bool.and_eq_true] at h3;have:=HT.out (by simpa using h3.1);rw [jX h2.2] at this;exact this) V hV)
 clear hz;go_cut [] (fun wc=>Hid (PS ts rb a c (bW z 2 s1) wc)/\Hid (aE (· = rb) W2 wc))
 case first =>
  cases hk3:(k == 3) with
  | true =>
    have q:(k == 3)=true:=hk3;have MO:=aA (vQ X W2);have hz:(aX X 0 0).isSome=z:=by rw [<- HZ.out,hk3,Bool.true_and]
    rw [hz] at MO;clear hk3 hz;go_wp2_with fail
    refine MO.out.mono ?_;rintro e w3 ⟨rfl,rfl⟩;go_wp2_with fail
    refine (CM.out z).mono ?_;rintro e w4 ⟨rfl,P5,k5⟩;have P6:=aA P5;have K6:=aA k5;clear P5 k5;go_wp2_with fail
    go_meet;case rel=>exact ⟨P6,K6⟩
  | false =>
    have q:(k == 3)=false:=hk3;have hz:false=z:=by rw [<- HZ.out,hk3,Bool.false_and]
    subst hz;clear hk3;go_wp2_with fail
    refine (CM.out false).mono ?_;rintro e w4 ⟨rfl,P5,k5⟩;have P6:=aA P5;have K6:=aA k5;clear P5 k5;go_wp2_with fail
    go_meet;case rel=>exact ⟨P6,K6⟩
 case rest =>
  obtain ⟨P5,K5⟩:=hcut;clear x0 x1 x2 x3 CM;go_wp2_with fail
  refine (CS.out _ P5.out).mono ?_;rintro e w4 ⟨rfl,P6,k6⟩;have hz5:=Nat.le_trans K5.out.size k6.size;have PD:=aA (show PS ts rb a c (goR (bW z 2 s1)) w4.drew from P6.drewN 1);have KD:=aA (show aE (· = rb) w w4.drew from ((K4.out.trans K5.out (fun i hi _=>hi)).trans k6 (fun i hi _=>hi)).drewN 1);have NT5:=k6.heap (K5.out.heap HNT.out (by omega)) (by omega);have NB5:=k6.heap (K5.out.heap NB4.out (by omega)) (by omega);have NR5:=k6.heap (K5.out.heap NR4.out (by omega)) (by omega);have NTD:=aA (show w4.drew.heap[T]? = _ from NT5);have NBD:=aA (show w4.drew.heap[B]? = _ from NB5);have NRD:=aA (show w4.drew.heap[w.heap.size]? = _ from NR5);have RD:=aA (show a7 (w.heap.size+1) w4.drew ad1 t1.ks from (R4.out.keptS K5.out (fun k hk=>by omega)).keptS (k6.drewN 1) (fun k hk=>by omega));have HZ5:=aA (show w.heap.size+1<=w4.drew.heap.size by show _<=w4.heap.size;omega)
  have CE:=aA (fun V (hV:PS ts rb a c (goR (bW z 2 s1)) V)=>by
   have:=nO ts hL rb a c _ V hV;rw [HC.out] at this;exact this)
  obtain ⟨⟨-,x1, -, -⟩, -⟩:=aK NT5;obtain ⟨⟨y0,y1,y2,y3⟩, -⟩:=aK NB5;clear P6 k6 NT5 NB5 NR5 P5 K5 CS P4 K4 NR4 NB4 R4 HNT hz5;go_upto_region 5 with fail
  refine wp_region_held_drew (S:=fun V=>V.cell? ⟨T,1,none⟩=some (.string X)/\V.cell? ⟨B,0,none⟩=some (.string t1.op)/\V.cell? ⟨B,1,none⟩=some (.string t1.nm)/\V.cell? ⟨B,2,none⟩=some (.int .i64 t1.n)/\V.cell? ⟨B,3,none⟩=some (.slice ad1 t1.ks.len cc1)) (by kernel_rfl) ⟨x1,y0,y1,y2,y3⟩ (fun hHeld=>?_);refine aB (i:=0) (d:=some 21) (v:=.pointer (some ⟨T,1,none⟩)) rfl rfl (by kernel_rfl) (by kernel_rfl) (by kernel_rfl) (fun _ _ _ h=>h) (Or.inl ⟨by rfl,by rintro w ⟨x1,y0,y1,y2,y3⟩;go_simp⟩) hHeld ?_;simp only [Act.put,LG,LH,LI];refine aB (i:=1) (d:=some 22) (v:=.string X) rfl rfl (by kernel_rfl) (by kernel_rfl) (by kernel_rfl) (fun _ _ _ h=>h) (Or.inl ⟨by rfl,by rintro w ⟨x1,y0,y1,y2,y3⟩;go_simp⟩) hHeld ?_;simp only [Act.put,LG,LH,LI];refine aB (i:=2) (d:=some 23) (v:=bB t1.op t1.nm t1.n ad1 t1.ks.len cc1) rfl rfl (by kernel_rfl) (by kernel_rfl) (by kernel_rfl) (fun _ _ _ h=>h) (Or.inl ⟨by rfl,by rintro w ⟨x1,y0,y1,y2,y3⟩;go_simp⟩) hHeld ?_;simp only [Act.put,LG,LH,LI];refine aB (i:=3) (d:=some 24) (v:=.pointer (some ⟨rb,0,none⟩)) rfl rfl (by kernel_rfl) (by kernel_rfl) (by kernel_rfl) (fun _ _ _ h=>h) (Or.inl ⟨by rfl,by rintro w ⟨x1,y0,y1,y2,y3⟩;go_simp⟩) hHeld ?_;simp only [Act.put,LG,LH,LI];refine wpAnyH_ready (rs:=[4]) (by kernel_rfl) (by simp) ?_;refine AllReadyH.cons (o:=_) rfl (fun K hK=>?_) AllReadyH.nil;go_simp
  refine (CE.out _ PD.out).mono ?_;rintro e w5 ⟨ad2,cc2,rfl,P6,k6,r6⟩;have NT6:=k6.heap NTD.out (by omega);have NB6:=k6.heap NBD.out (by omega);have NR6:=k6.heap NRD.out (by omega);have K6:=KD.out.trans k6 (fun i hi _=>hi);have R16:=RD.out.keptS k6 (fun k hk=>by omega)
  have cc:w5.cell? ⟨T,1,none⟩=some (.string X)/\w5.cell? ⟨B,0,none⟩=some (.string t1.op)/\w5.cell? ⟨B,1,none⟩=some (.string t1.nm)/\w5.cell? ⟨B,2,none⟩=some (.int .i64 t1.n)/\w5.cell? ⟨B,3,none⟩=some (.slice ad1 t1.ks.len cc1):=by
   obtain ⟨⟨-,u1, -, -⟩, -⟩:=aK NT6;obtain ⟨⟨v0,v1,v2,v3⟩, -⟩:=aK NB6;exact ⟨u1,v0,v1,v2,v3⟩
  refine hK.out _ _ cc (fun hHeld2=>?_);try simp only [Act.put,LG,LH,LI]
  clear hK K;refine aB (i:=5) (d:=some 26) (v:=.agg #[.string X,.string t1.op,.string t1.nm,.int .i64 t1.n,.slice ad1 t1.ks.len cc1,.string t2.op,.string t2.nm,.int .i64 t2.n,.slice ad2 t2.ks.len cc2]) rfl rfl (by kernel_rfl) (by kernel_rfl) (by kernel_rfl) (fun _ _ _ h=>h) (Or.inl ⟨by rfl,by rintro w ⟨x1,y0,y1,y2,y3⟩;go_simp⟩) hHeld2 ?_;simp only [Act.put,LG,LH,LI];have KP:=El w5 w.heap.size ⟨X,t1,t2⟩ ad1 cc1 ad2 cc2;have NR7:=Gd NR6 ⟨X,t1,t2⟩ ad1 cc1 ad2 cc2;obtain ⟨z0,z1,z2,z3,z4,z5,z6,z7,z8⟩:=rK NR6;obtain ⟨o0,o1,o2,o3,o4,o5,o6,o7,o8⟩:=eZ NR6;have CC:=And.intro (KP.cell hHeld2.1 (by show ¬ T=_;omega)) (And.intro (KP.cell hHeld2.2.1 (by show ¬ B=_;omega)) (And.intro (KP.cell hHeld2.2.2.1 (by show ¬ B=_;omega)) (And.intro (KP.cell hHeld2.2.2.2.1 (by show ¬ B=_;omega)) (KP.cell hHeld2.2.2.2.2 (by show ¬ B=_;omega)))));refine wpAnyH_ready (rs:=[6]) (by kernel_rfl) (by simp) ?_;refine AllReadyH.cons (o:=_) rfl (fun K hK=>?_) AllReadyH.nil;go_simp
  refine hK.out _ _ CC (fun hHeld3=>?_);try simp only [Act.put,LG,LH,LI]
  clear hK K;refine wpAnyH_done (by kernel_rfl) ?_ _;have FIN:=aA (And.intro (P6.kept KP (fun k hk=>by omega)) (And.intro (K6.trans (KP.mono (T:=fun i=>w.heap.size<=i) (fun i hi _=>by omega)) (fun i hi hl=>by omega)) (And.intro ((R16.keptS KP (fun k hk=>by omega)).mono (show w.heap.size<=w.heap.size+1 by omega)) ((r6.keptS KP (fun k hk=>by have:=HZ5.out;omega)).mono (show w.heap.size<=_ by have:=HZ5.out;omega)))));obtain ⟨d0,d1,d2,d3,d4,d5,d6,d7,d8⟩:=eZ NR7;clear hHeld hHeld2 hHeld3 CC cc KP NT6 NB6 NR6 NR7 K6 R16 P6 k6 r6 z0 z1 z2 z3 z4 z5 z6 z7 z8 o0 o1 o2 o3 o4 o5 o6 o7 o8;go_wp2
  exact bodyPost_ret (v:=.agg #[.string X,.string t1.op,.string t1.nm,.int .i64 t1.n,.slice ad1 t1.ks.len cc1,.string t2.op,.string t2.nm,.int .i64 t2.n,.slice ad2 t2.ks.len cc2]) (by simp [results,Tryz.results137,go_sem,d0,d1,d2,d3,d4,d5,d6,d7,d8]) rfl ⟨ad1,cc1,ad2,⟨cc2,rfl⟩,FIN.out⟩
theorem Fa (ts:List Tk) (hL:∀ t∈ts,cK t) (hO:∀ t∈ts,AS t) (rb:Nat) (a:Option Addr) (c:Nat) (s:RS) (w:World) (h:PS ts rb a c s w) :
 Calls Tryz.prog 137 #[.pointer (some ⟨rb,0,none⟩)] w fun e w'=>∃ (d:CD) (ad1:Option Addr) (cc1:Nat) (ad2:Option Addr) (cc2:Nat),e=.returned (.agg #[.string d.op,.string d.a.op,.string d.a.nm,.int .i64 d.a.n,.slice ad1 d.a.ks.len cc1,.string d.b.op,.string d.b.nm,.int .i64 d.b.n,.slice ad2 d.b.ks.len cc2]) /\
  PS ts rb a c (cE ts s).2 w'/\aE (· = rb) w w'/\a7 w.heap.size w' ad1 d.a.ks/\a7 w.heap.size w' ad2 d.b.ks/\((cE ts s).2.bad=0->(cE ts s).1=d):=by
 obtain ⟨h1,h2⟩:=Jn hO s;refine (Hc ts hL rb a c s w h (t1:=(a8 ts s).1) (s1:=(a8 ts s).2) (t2:=(a8 ts (opS ts (a8 ts s).2)).1) (s4:=(a8 ts (opS ts (a8 ts s).2)).2) rfl rfl rfl).mono ?_;rintro e w' ⟨ad1,cc1,ad2,cc2,he,hp,hk,r1,r2⟩;rw [h1] at hp;exact ⟨⟨_,_,_⟩,ad1,cc1,ad2,cc2,he,hp,hk,r1,r2,h2⟩
structure QC where
 a1:Option Addr
 c1:Nat
 a2:Option Addr
 c2:Nat
abbrev eF (d:CD) (q:QC):List Value:=[.string d.op,.string d.a.op,.string d.a.nm,.int .i64 d.a.n,.slice q.a1 d.a.ks.len q.c1,.string d.b.op,.string d.b.nm,.int .i64 d.b.n,.slice q.a2 d.b.ks.len q.c2]
def cdL:List CD->List QC->List Value
 | d::r,q::s=>eF d q++cdL r s
 | _,_=>[]
def lE (G:Nat->Prop) (w:World) (l:List CD) (qs:List QC):Prop:=∀ (j:Nat) (d:CD) (q:QC),l[j]? = some d->qs[j]? = some q->aH G w q.a1 d.a.ks/\aH G w q.a2 d.b.ks
theorem oA:∀ (l:List CD) (q:List QC),∀ u∈cdL l q,u.oneCell'=true
 | [],_,u,h=>by simp [cdL] at h
 | _::_,[],u,h=>by simp [cdL] at h
 | d :: r, p :: s, u, h => by
   rw [cdL] at h;rcases List.mem_append.1 h with h | h
   · simp only [eF,List.mem_cons,List.not_mem_nil,or_false] at h
     rcases h with rfl | rfl | rfl | rfl | rfl | rfl | rfl | rfl | rfl <;> rfl
   · exact oA r s u h
theorem sI:∀ (l m:List CD) (q p:List QC),q.length=l.length->cdL (l++m) (q++p)=cdL l q++cdL m p
 | [],m,[],p,_=>rfl
 | [],_,_::_,_,h=>by simp at h
 | _::_,_,[],_,h=>by simp at h
 | d::r,m,q::s,p,h=>by rw [List.cons_append,List.cons_append,cdL,cdL,sI r m s p (by simpa using h),List.append_assoc]
theorem Cl:∀ (l:List CD) (q:List QC) {k:Nat} {d:CD} (_:q.length=l.length) (_:l[k]? = some d),∃ p,q[k]? = some p/\∀ i u,(eF d p)[i]? = some u->(cdL l q)[k*9+i]? = some u
 | [],_,k,d,_,hk=>by simp at hk
 | _::_,[],k,d,h,_=>by simp at h
 | d :: r, p :: s, 0, d', h, hk => by
   cases hk;refine ⟨p,rfl,fun i u hu=>?_⟩
   have hi:i<9:=by
    have:=(List.getElem?_eq_some_iff.1 hu).1;exact this
   rw [cdL,Nat.zero_mul,Nat.zero_add,List.getElem?_append_left (by simpa [eF] using hi)];exact hu
 | d :: r, p :: s, k + 1, d', h, hk => by
   obtain ⟨p',h1,h2⟩:=Cl r s (k:=k) (d:=d') (by simpa using h) (by simpa using hk);refine ⟨p',by simpa using h1,fun i u hu=>?_⟩;rw [cdL,List.getElem?_append_right (by simp [eF];omega)];have:(k+1)*9+i-(eF d p).length=k*9+i:=by simp [eF];omega
   rw [this];exact h2 i u hu
theorem lE.keptS {S G:Nat->Prop} {w w':World} {l:List CD} {qs:List QC} (h:lE G w l qs) (hk:aE S w w') (hS:∀ k,S k->¬ G k):lE G w' l qs:=fun j d q h1 h2=>⟨(h j d q h1 h2).1.keptS hk hS,(h j d q h1 h2).2.keptS hk hS⟩
theorem lE.imp {G H:Nat->Prop} {w:World} {l:List CD} {qs:List QC} (h:lE G w l qs) (hG:∀ b,b<w.heap.size->G b->H b):lE H w l qs:=fun j d q h1 h2=>⟨(h j d q h1 h2).1.imp hG,(h j d q h1 h2).2.imp hG⟩
theorem lE.snoc {G:Nat->Prop} {w:World} {l:List CD} {qs:List QC} (h:lE G w l qs) (hl:qs.length=l.length) {d:CD} {q:QC} (h1:aH G w q.a1 d.a.ks) (h2:aH G w q.a2 d.b.ks):lE G w (l++[d]) (qs++[q]):=fun j d' q' e1 e2=>by
 rcases Nat.lt_or_ge j l.length with hj | hj
 · rw [List.getElem?_append_left hj] at e1
   rw [List.getElem?_append_left (by omega)] at e2;exact h j d' q' e1 e2
 · rw [List.getElem?_append_right hj] at e1
   rw [List.getElem?_append_right (by omega)] at e2;rw [hl] at e2;cases hm:j-l.length with
   | zero =>
     rw [hm] at e1 e2;cases e1;cases e2;exact ⟨h1,h2⟩
   | succ m=>rw [hm] at e1;simp at e1
theorem oU {G:Nat->Prop} {w:World} {B:Nat} {e:TypeId} {a:Option Addr} {c:Nat} {l:List CD} {qs:List QC} (ho:w.ownsRow B e 9 (.slice a l.length c) l.length (cdL l qs)) (hl:qs.length=l.length) (hk:lE G w l qs) (hG:∀ b,a=some ⟨b,0,none⟩->G b):fD G w a l:=by
 by_cases hn:l=[]
 · exact .inl hn
 right
 have h0:∃ d,l[0]? = some d:=by
  cases l with
  | nil=>exact absurd rfl hn
  | cons d r=>exact ⟨d,rfl⟩
 obtain ⟨d0,hd0⟩:=h0;obtain ⟨p0, -,hp0⟩:=Cl l qs hl hd0;obtain ⟨g,hg,c0⟩:=kS ho (hp0 0 _ rfl);have hlt:g<w.heap.size:=by have:=World.block_lt_of_cell? w _ c0;simpa using this
 refine ⟨g,0,hg,hG g hg,hlt,fun j d hj=>?_⟩;obtain ⟨p,hp,hc⟩:=Cl l qs hl hj;obtain ⟨k1,k2⟩:=hk j d p hj hp
 have get:∀ i u,(eF d p)[i]? = some u->w.cell? ⟨g,0+j*9+i,none⟩=some u:=fun i u hu=>by
  obtain ⟨g',hg',c⟩:=kS ho (hc i u hu);rw [hg] at hg';cases hg';rw [Nat.zero_add];exact c
 exact ⟨p.a1,p.c1,p.a2,p.c2,⟨get 0 _ rfl,get 1 _ rfl,get 2 _ rfl,get 3 _ rfl,get 4 _ rfl,get 5 _ rfl,get 6 _ rfl,get 7 _ rfl,get 8 _ rfl⟩,k1,k2⟩
abbrev GG (n rb ab:Nat) (wa:Option Addr) (b:Nat):Prop:=n<b/\b ≠ rb/\b ≠ ab/\wa ≠ some ⟨b,0,none⟩
structure GW (w:World) (ts:List Tk) (rb ab:Nat) (a:Option Addr) (c:Nat) (x:AG) (p:PA) (qs:List QC) (s:RS) (V:World):Prop where
 r:PW ts rb a c s V
 b:Below w.heap.size w V
 n:V.heap[ab]? = some (agO x p)
 o:V.heap[w.heap.size]? = some (agO aN aI)
 e:aH (GG w.heap.size rb ab p.wa) V p.ea x.e.ks
 g:aH (GG w.heap.size rb ab p.wa) V p.ga x.g.ks
 own:V.ownsRow (ab+1) 90 9 (.slice p.wa x.wh.length p.wc) x.wh.length (cdL x.wh qs)
 ql:qs.length=x.wh.length
 kd:lE (GG w.heap.size rb ab p.wa) V x.wh qs
 hr:w.heap.size<rb
 ha:rb<ab
 hz:ab<V.heap.size
 tk:ts=[]\/∃ b off,a=some ⟨b,off,none⟩/\w.heap.size<b
theorem qV {L:List Tk} {s:RS} (h:¬ s.bad=0):(cE L s).2=s:=by
 unfold cE;rw [e9 h];simp only;rw [if_neg h]
def mF (L:List Tk) (n:Nat) (s:RS):RS:=goR (bW (decide (n<4)) 4 (bW (dU L (if n=0 then fU else oP) s.pos) 2 s))
theorem Cc {L:List Tk} {acc:List CD} {s:RS} {R:AT} (hb:s.bad=0) (hlt:s.pos<L.length) (hk:acc.length<=4) (h:eH L (6-acc.length) acc s=R) {d:CD}
 (hd:(cE L (mF L acc.length s)).2.bad=0->(cE L (mF L acc.length s)).1=d):eH L (6-(acc++[d]).length) (acc++[d]) (cE L (mF L acc.length s)).2=R:=by
 obtain ⟨f,hf⟩:∃ f,6-acc.length=f+1+1:=⟨4-acc.length,by omega⟩;have hf2:6-(acc++[d]).length=f+1:=by rw [List.length_append,List.length_singleton];omega
 have e0:eH L (f+1+1) acc s=(if dU L (if acc.length=0 then fU else oP) s.pos=false then .bad s.pos 2 else if 4<=acc.length then .bad s.pos 4 else eH L (f+1) (acc++[(cE L (aO s)).1]) (cE L (aO s)).2):=by
  rw [eH,if_neg (not_not_intro hb),if_neg (show ¬ L.length<=s.pos by omega)]
 rw [hf,e0] at h;rw [hf2, <- h];unfold mF at hd |-
 cases hw:dU L (if acc.length=0 then fU else oP) s.pos with
 | false =>
   rw [if_pos rfl]
   have e:goR (bW (decide (acc.length<4)) 4 (bW false 2 s))=aR 2 s:=by
    rw [gG,gH (dA (by decide) hb),fW (dA (by decide) hb)]
   rw [e,qV (dA (by decide) hb),fC (dA (by decide) hb)];unfold aR;rw [if_pos hb]
 | true =>
   rw [if_neg (by decide)];rw [hw] at hd;by_cases h4:4<=acc.length
   · rw [if_pos h4]
     have e:goR (bW (decide (acc.length<4)) 4 (bW true 2 s))=aR 4 s:=by
      rw [decide_eq_false (by omega),gG,jQ,fW (dA (by decide) hb)]
     rw [e,qV (dA (by decide) hb),fC (dA (by decide) hb)];unfold aR;rw [if_pos hb]
   · rw [if_neg h4]
     have e:goR (bW (decide (acc.length<4)) 4 (bW true 2 s))=aO s:=by
      rw [decide_eq_true (by omega),jQ,jQ,Ar hb]
     rw [e] at hd |-
     by_cases hc:(cE L (aO s)).2.bad=0
     · rw [hd hc]
     · rw [fC hc,fC hc]
theorem Ja {s:RS} (h:(goR s).bad=0):s.bad=0:=Decidable.byContradiction fun hx=>by rw [fW hx] at h;exact hx h
theorem Fs {L:List Tk} {n:Nat} {s:RS} (h:(cE L (mF L n s)).2.bad=0):n<4:=by
 have h1:(mF L n s).bad=0:=Decidable.byContradiction fun hx=>by rw [qV hx] at h;exact hx h
 unfold mF at h1;have h2:=Ja h1;have:=(j1 (by decide) h2).1;simpa using this
abbrev GC (n:Nat) (wa:Option Addr) (b:Nat):Prop:=n<=b/\wa ≠ some ⟨b,0,none⟩
structure OCW (ts:List Tk) (rb:Nat) (a:Option Addr) (c:Nat) (w:World) (acc:List CD) (wa:Option Addr) (wc:Nat) (qs:List QC) (s:RS) (V:World):Prop where
 r:PS ts rb a c s V
 k:aE (· = rb) w V
 own:V.ownsRow w.heap.size 98 9 (.slice wa acc.length wc) acc.length (cdL acc qs)
 ql:qs.length=acc.length
 kd:lE (GC w.heap.size wa) V acc qs
 h:rb<w.heap.size
section
variable {ts:List Tk} {rb:Nat} {a:Option Addr} {c:Nat} {w V V':World} {acc:List CD} {wa:Option Addr} {wc:Nat} {qs:List QC} {s s':RS}
theorem OCW.lo (h:OCW ts rb a c w acc wa wc qs s V) {b:Nat} (hb:(Value.slice wa acc.length wc).ownBlock=some b):w.heap.size<=b/\b<V.heap.size:=h.own.lt b hb
theorem OCW.own' (h:OCW ts rb a c w acc wa wc qs s V) {b:Nat} (hb:(Value.slice wa acc.length wc).ownBlock=some b):wa=some ⟨b,0,none⟩:=by
 rcases h.own.2 with ⟨q1,_⟩ | ⟨g,cap,cur,q1,_⟩
 · rw [q1] at hb;cases hb
 · rw [q1] at hb
   cases hb;simp only [Value.slice.injEq] at q1;exact q1.1
theorem OCW.step (h:OCW ts rb a c w acc wa wc qs s V) (hp:PS ts rb a c s' V') (hk:aE (· = rb) V V'):OCW ts rb a c w acc wa wc qs s' V':=by
 have h1:=h.h;exact ⟨hp,h.k.trans hk (fun i hi _=>hi),dH (row:=some rb) h.own (hk.mono (fun i hi _=>by rw [hi])) (fun b hb he=>by have:=(h.lo hb).1;have:=Option.some.inj he;omega),h.ql,h.kd.keptS hk (fun k hk hg=>by have:=hg.1;omega),h1⟩
theorem OCW.below (h:OCW ts rb a c w acc wa wc qs s V) (hb:Below V.heap.size V V'):OCW ts rb a c w acc wa wc qs s V':=h.step (h.r.below hb) (aF hb _)
theorem OCW.drewN (h:OCW ts rb a c w acc wa wc qs s V) (n:Nat):OCW ts rb a c w acc wa wc qs s (V.drewN n):=h.step (h.r.drewN n) ((aE.refl _ V).drewN n)
theorem OCW.push (h:OCW ts rb a c w acc wa wc qs s V) {d:CD} {q:QC} {a':Option Addr} {c':Nat} (hk:aE (fun b=>(Value.slice wa acc.length wc).ownBlock=some b) V V')
 (hrow:V'.ownsRow w.heap.size 98 9 (.slice a' (acc.length+1) c') (acc.length+1) (cdL acc qs++eF d q))
 (hnew:∀ b,(Value.slice a' (acc.length+1) c').ownBlock=some b->(Value.slice wa acc.length wc).ownBlock=some b\/V.heap.size<=b)
 (h1:aH (GC w.heap.size wa) V q.a1 d.a.ks) (h2:aH (GC w.heap.size wa) V q.a2 d.b.ks) :
 OCW ts rb a c w (acc++[d]) a' c' (qs++[q]) s V':=by
 have e1:=h.h;have own':∀ b,a'=some ⟨b,0,none⟩->(Value.slice a' (acc.length+1) c').ownBlock=some b:=fun b hb=>by rw [hb];rfl
 have len:(acc++[d]).length=acc.length+1:=by simp
 have kd:=h.kd.snoc h.ql h1 h2;refine ⟨h.r.kept hk (fun k hk=>by have:=(h.lo hk).1;omega),h.k.trans (hk.mono (T:=fun i=>w.heap.size<=i) (fun i hi _=>(h.lo hi).1)) (fun i hi hl=>by omega),?_,by rw [List.length_append,List.length_append,h.ql];rfl,?_,e1⟩
 · rw [len,sI _ _ _ _ h.ql]
   have e:cdL [d] [q]=eF d q:=by simp [cdL]
   rw [e];exact hrow
 · exact ((kd.imp (H:=fun b=>GC w.heap.size wa b/\a' ≠ some ⟨b,0,none⟩) (fun b hb hg=>⟨hg,fun e=>by
    rcases hnew b (own' b e) with h' | h'
    · exact hg.2 (h.own' h')
    · omega⟩)).keptS hk (fun k hk hg=>hg.1.2 (h.own' hk))).imp (fun b _ hg=>⟨hg.1.1,hg.2⟩)
theorem OCW.fresh (h:OCW ts rb a c w acc wa wc qs s V) {b:Nat} (hb:V.heap.size<=b):GC w.heap.size wa b:=by
 have:=h.k.size;refine ⟨by omega,fun e=>?_⟩;have:=(h.own.lt b (by rw [e];rfl)).2;omega
end
def Ld:Value->Nat
 | .slice _ n _=>n
 | _=>0
theorem Ev:∃ i z,Tryz.prog.info? 98=some i/\i.zero=some z/\i.size=9/\i.bytes=144/\z.cells.size=9:=by
 have h:(Tryz.prog.info? 98).map (fun i=>(i.zero.map (fun z=>z.cells.size),i.size,i.bytes))=some (some 9,9,144):=by kernel_rfl
 cases hx:Tryz.prog.info? 98 with
 | none=>rw [hx] at h;cases h
 | some i =>
   rw [hx] at h;simp only [Option.map_some,Option.some.injEq,Prod.mk.injEq] at h;obtain ⟨h1,h2,h3⟩:=h;cases hz:i.zero with
   | none=>rw [hz] at h1;cases h1
   | some z =>
     rw [hz] at h1;exact ⟨i,z,rfl,hz,h2,h3,by simpa using h1⟩
theorem DZ (W:World) (d:CD) (q:QC):∀ j u,(eF d q)[j]? = some u->(W.alloc (.cells #[.string d.op,.string d.a.op,.string d.a.nm,.int .i64 d.a.n,.slice q.a1 d.a.ks.len q.c1,.string d.b.op,.string d.b.nm,.int .i64 d.b.n,.slice q.a2 d.b.ks.len q.c2] 98)).cell? ((⟨W.heap.size,0,none⟩:Addr).add j)=some u:=fun j u hu=>by
 obtain ⟨p0,p1,p2,p3,p4,p5,p6,p7,p8⟩:=eZ (heap_alloc_new W (cdP d q.a1 q.c1 q.a2 q.c2));rw [Addr.add_lit];match j,hu with
 | 0,h=>cases h;exact p0
 | 1,h=>cases h;exact p1
 | 2,h=>cases h;exact p2
 | 3,h=>cases h;exact p3
 | 4,h=>cases h;exact p4
 | 5,h=>cases h;exact p5
 | 6,h=>cases h;exact p6
 | 7,h=>cases h;exact p7
 | 8,h=>cases h;exact p8
 | n+9,h=>simp at h
def KM (ts:List Tk) (rb:Nat) (a:Option Addr) (c:Nat) (R:AT) (w:World) (e:Ending) (w':World):Prop :=
 ∃ (acc:List CD) (wa:Option Addr) (wc:Nat) (qs:List QC) (s:RS),e=.returned (.slice wa acc.length wc)/\OCW ts rb a c w acc wa wc qs s w'/\(match R with | .bad p er=>¬ s.bad=0/\atR s=p/\s.bad=er | .ok l=>s.bad=0/\acc=l)
def sK (n:Nat):ByteArray:=if n=0 then ⟨#[119,104,101,114,101]⟩ else ⟨#[97,110,100]⟩
theorem AV (n:Nat):(sK n).data.toList=(if n=0 then fU else oP):=by unfold sK;split <;> rfl
theorem Cd (ts:List Tk) (hL:∀ t∈ts,cK t) (hO:∀ t∈ts,AS t) (rb:Nat) (a:Option Addr) (c:Nat) (s0:RS) (w:World) (h:PS ts rb a c s0 w) {R:AT} (hR:eH ts 6 [] s0=R) :
 Calls Tryz.prog 85 #[.pointer (some ⟨rb,0,none⟩)] w (KM ts rb a c R w):=by
 have K0:=aA (show OCW ts rb a c w [] none 0 [] s0 w from ⟨h,aE.refl _ _,⟨rfl,.inl ⟨rfl,rfl⟩⟩,rfl,fun j d q h1 _=>by simp at h1,h.lt⟩);have HR:=aA (show eH ts (6-([]:List CD).length) [] s0=R from hR);clear h hR;go_enter Tryz.func85,Tryz.ntmps85
 go_wp2_with fail
 go_loopw [3,4,5] (fun v3 v4 v5 wr=>∃ (acc:List CD) (wa:Option Addr) (wc':Nat) (qs:List QC) (s:RS) (y:Value),v3=.slice wa acc.length wc'/\v4=.string (sK acc.length)/\v5=y/\acc.length<=5/\Hid (s.bad=0->acc.length<=4)/\Hid (eH ts (6-acc.length) acc s=R)/\Hid (OCW ts rb a c w acc wa wc' qs s wr)) (fun v3 _ _ _=>10-Ld v3)
 case atStart=>exact ⟨[],none,0,[],s0,_,rfl,rfl,rfl,by decide,aA (fun _=>by decide),HR,K0⟩
 case round =>
  obtain ⟨acc,wa,wc',qs,s,y,rfl,rfl,rfl,h5,H4,HE,HK⟩:=hrel;clear K0 HR;obtain ⟨⟨c0,c1,c2⟩,f0,f1,f2⟩:=cV HK.out.r.r;have hnn:=HK.out.r.n;have hpp:=HK.out.r.p;by_cases hb:s.bad=0
  · have q:((s.bad:Int) == 0)=true:=by rw [hb];rfl
    have hat:=jX hb;obtain ⟨p,hp⟩:∃ p,atR s=p:=⟨_,rfl⟩;rw [hp] at c1 hpp;by_cases hlt:p<ts.length
    · have a1:(p:Int)<(ts.length:Int):=by omega
      have hps:s.pos=p:=by rw [<- hat,hp]
      have h4:=H4.out hb;have NX:=kU ts rb a c (atR s) s.bad;obtain ⟨t,ht⟩:∃ t,bM ts (atR s)=t:=⟨_,rfl⟩;have WT:=Fp ts (sK acc.length).data.toList (atR s);rw [ht] at WT;rw [ht,pJ] at NX;obtain ⟨X,hX⟩:∃ X:ByteArray,⟨t.text.toArray⟩=X:=⟨_,rfl⟩;have hXl:t.text=X.data.toList:=by rw [<- hX]
      rw [hX] at NX;rw [hXl, <- Lib.toList_data, <- Lib.toList_data] at WT;obtain ⟨k,s',nn,pp⟩:=t;simp only at NX WT;have TL:k=1->p<ts.length:=fun _=>hlt
      obtain ⟨wb,hwb⟩:∃ z,dU ts (if acc.length=0 then fU else oP) s.pos=z:=⟨_,rfl⟩;have e0:dU ts (sK acc.length).toList (atR s)=wb:=by rw [Lib.toList_data,AV,hp, <- hps];exact hwb
      rw [e0] at WT;have HWT:=aA WT;have HWB:=aA hwb;have HN:=aA NX;have HB:=aA hb;have HLT:=aA (show s.pos<ts.length by omega);have HP:=aA hp;have H44:=aA h4;clear hat hp NX ht WT hX hXl hwb TL hb hps e0;go_upto_region 4 with (go_quiet (fail))
      have K1:=aA (HK.out.drewN nq);have N1:=aA (HN.out _ K1.out.r);clear HK c0 c1 c2 f0 f1 f2 HN;generalize wr.drewN nq=W0 at *;go_wp2_with fail
      refine N1.out.mono ?_;rintro e w1 ⟨rfl,hb1⟩;have K2:=K1.out.below hb1;have BA:=(Below.refl w1.heap.size w1).alloc (Nat.le_refl _) (tkO k X nn pp);have NA:=heap_alloc_new w1 (tkO k X nn pp);have K3:=aA (K2.below BA);obtain ⟨⟨x0,x1,x2,x3⟩, -⟩:=aK NA;clear hb1 K2 BA N1 K1 NA;go_upto_region 5 with fail
      generalize w1.alloc (tkO k X nn pp)=W1 at *;go_cut [] (fun wc=>Hid (OCW ts rb a c w acc wa wc' qs (bW wb 2 s) wc))
      case first =>
       have CM:=aA (fun so=>f7 ts rb a c s so 2 (by decide) W1 K3.out.r);cases hk1:(k == 1) with
       | true =>
         have q1:(k == 1)=true:=hk1;have hz:(X.toList == (sK acc.length).toList)=wb:=by rw [HWT.out,hk1,Bool.true_and]
         clear hk1;go_wp2_with fail
         refine (CM.out wb).mono ?_;rintro e w2 ⟨rfl,P,k5⟩;have K4:=aA (K3.out.step P k5);clear P k5;go_wp2_with fail
         go_meet;case rel=>exact K4
       | false =>
         have q1:(k == 1)=false:=hk1;have hz:wb=false:=by rw [HWT.out,hk1,Bool.false_and]
         subst hz;clear hk1;go_wp2_with fail
         refine (CM.out false).mono ?_;rintro e w2 ⟨rfl,P,k5⟩;have K4:=aA (K3.out.step P k5);clear P k5;go_wp2_with fail
         go_meet;case rel=>exact K4
      case rest =>
       have K4:=hcut;clear x0 x1 x2 x3 K3 hcut;obtain ⟨z4,hz4⟩:∃ z,decide (acc.length<4)=z:=⟨_,rfl⟩;have hz5:decide ((acc.length:Int)<4)=z4:=by rw [<- hz4];exact decide_eq_decide.2 (by omega)
       have HS3:=aA (show goR (bW z4 4 (bW wb 2 s))=mF ts acc.length s by unfold mF;rw [HWB.out,hz4]);have CM:=aA (f7 ts rb a c (bW wb 2 s) z4 4 (by decide) wc K4.out.r);go_wp2_with fail
       refine CM.out.mono ?_;rintro e w2 ⟨rfl,P,k5⟩;have K5:=aA (K4.out.step P k5);have CS:=aA (i1 ts rb a c (bW z4 4 (bW wb 2 s)) (fun _=>by rw [iE,iE];exact HLT.out) w2 P);clear P k5 CM K4 hz4 hz5;go_wp2_with fail
       refine CS.out.mono ?_;rintro e w3 ⟨rfl,P,k5⟩;rw [HS3.out] at P;have K6:=aA (K5.out.step P k5);have CO:=aA (Fa ts hL hO rb a c (mF ts acc.length s) w3 P);clear P k5 CS K5;have HCS:=aA (fun d hd=>Cc (d:=d) HB.out HLT.out H44.out HE.out hd);obtain ⟨⟨cd,s5⟩,hds⟩:∃ q:CD×RS,cE ts (mF ts acc.length s)=q:=⟨_,rfl⟩;have HF:=aA (fun h:s5.bad=0=>Fs (L:=ts) (n:=acc.length) (s:=s) (by rw [hds];exact h));rw [hds] at CO HCS;clear hds;go_wp2_with fail
       refine CO.out.mono ?_;rintro e v1 ⟨d,a1,c1,a2,c2,rfl,hp,hk,h1,h2,hd⟩;have BU:=(Below.refl v1.heap.size v1).alloc (Nat.le_refl _) (.cells #[.string d.op,.string d.a.op,.string d.a.nm,.int .i64 d.a.n,.slice a1 d.a.ks.len c1,.string d.b.op,.string d.b.nm,.int .i64 d.b.n,.slice a2 d.b.ks.len c2] 98);have K7:=K6.out.step hp hk;have K8:=aA (K7.below BU);have R1:=aA ((aH.imp (G:=fun b=>w3.heap.size<=b) h1 (fun b _ hb=>K6.out.fresh hb)).kept BU);have R2:=aA ((aH.imp (G:=fun b=>w3.heap.size<=b) h2 (fun b _ hb=>K6.out.fresh hb)).kept BU);have HE2:=aA (HCS.out d hd);have und:=Tryz.underlying26;obtain ⟨i,zv,hi,hz0,hz1,hz2,hz3⟩:=Ev;have OWN:=aA (show (v1.alloc (.cells #[.string d.op,.string d.a.op,.string d.a.nm,.int .i64 d.a.n,.slice a1 d.a.ks.len c1,.string d.b.op,.string d.b.nm,.int .i64 d.b.n,.slice a2 d.b.ks.len c2] 98)).ownsRow w.heap.size 98 9 (.slice wa acc.length wc') acc.length (cdL acc qs) from K8.out.own);have NEW:=aA (DZ v1 d ⟨a1,c1,a2,c2⟩);have ONE:=aA (fun u (hu:u∈eF d ⟨a1,c1,a2,c2⟩)=>oA [d] [⟨a1,c1,a2,c2⟩] u (by simpa [cdL] using hu));have HBS:=aA (show w.heap.size<=(v1.alloc (.cells #[.string d.op,.string d.a.op,.string d.a.nm,.int .i64 d.a.n,.slice a1 d.a.ks.len c1,.string d.b.op,.string d.b.nm,.int .i64 d.b.n,.slice a2 d.b.ks.len c2] 98)).heap.size from K8.out.k.size);clear hp hk h1 h2 hd BU K7 CO K6 HCS
       go_upto_region 9 with (first
        | (at_builtin
           refine aS rfl _ _ 26 rfl (base:=w.heap.size) und hi hz0 hz1 hz2 hz3 (by decide) (.slice wa acc.length wc') acc.length 1 1 ⟨v1.heap.size,0,none⟩ (cdL acc qs) (eF d ⟨a1,c1,a2,c2⟩) rfl rfl OWN.out rfl NEW.out ONE.out (by unfold maxLen;omega) (by omega) HBS.out ?_;intro v4 w4 ho hg hn;obtain ⟨a',c',hv⟩:=cX ho;subst hv;have KA:=(aE.refl (fun b=>(Value.slice wa acc.length wc').ownBlock=some b) _).grown hg (fun k hk=>.inl hk);have K11:=aA (K8.out.push KA ho hn R1.out R2.out);clear ho hg hn KA K8 R1 R2 OWN NEW ONE HBS)
        | fail)
       have l1:(acc++[d]).length=acc.length+1:=by simp
       go_wp2_with fail
       go_roundw
       case rel =>
        refine ⟨acc++[d],a',c',qs++[⟨a1,c1,a2,c2⟩],s5,_,by rw [l1],by rw [l1];unfold sK;rw [if_neg (by omega)],rfl,by omega,aA (fun h=>by rw [l1];exact HF.out h),HE2,K11⟩
       case measure=>simp only [Ld];omega
    · have a1:¬ (p:Int)<(ts.length:Int):=by omega
      have a2:decide (p<ts.length)=false:=decide_eq_false hlt
      have HX:=aA (show R=.ok acc by
       have:=HE.out;obtain ⟨f,hf⟩:∃ f,6-acc.length=f+1:=⟨5-acc.length,by omega⟩;rw [hf,eH,if_neg (not_not_intro hb),if_pos (show ts.length<=s.pos by omega)] at this;exact this.symm)
      have HB:=aA hb;clear hat hp hb;go_wp2_with (go_quiet (fail))
      go_ret;refine ⟨acc,wa,wc',qs,s,rfl,HK.out.drewN _,?_⟩;rw [HX.out];exact ⟨HB.out,rfl⟩
  · have q:((s.bad:Int) == 0)=false:=beq_eq_false_iff_ne.2 hb
    have HX:=aA (show R=.bad s.whr s.bad by
     have:=HE.out;obtain ⟨f,hf⟩:∃ f,6-acc.length=f+1:=⟨5-acc.length,by omega⟩;rw [hf,fC hb] at this;exact this.symm)
    have HB:=aA hb;clear hb;go_wp2_with (go_quiet (fail))
    go_ret;refine ⟨acc,wa,wc',qs,s,rfl,HK.out.drewN _,?_⟩;rw [HX.out];exact ⟨HB.out,pB HB.out,rfl⟩
theorem BO {W:World} {B:Nat} {x:AG} {p:PA} (h:W.heap[B]? = some (agP x p)) (t:TN) (ad:Option Addr) (cc:Nat):(putE W B t ad cc).heap[B]? = some (agP { x with e:=t } { p with ea:=ad,ec:=cc }):=by
 have h0:=heap_setCell_same (W) B 2 _ 28 (.string t.op) h;have g0:((W).setCell ⟨B,2,none⟩ (.string t.op)).heap[B]? = some (.cells #[.string x.fn,.int .i64 x.k,.string t.op,.string x.e.nm,.int .i64 x.e.n,.slice p.ea x.e.ks.len p.ec,.string x.g.op,.string x.g.nm,.int .i64 x.g.n,.slice p.ga x.g.ks.len p.gc,.slice p.wa x.wh.length p.wc] 28 (0,0)):=by simpa using h0
 have h1:=heap_setCell_same ((W).setCell ⟨B,2,none⟩ (.string t.op)) B 3 _ 28 (.string t.nm) g0;have g1:(((W).setCell ⟨B,2,none⟩ (.string t.op)).setCell ⟨B,3,none⟩ (.string t.nm)).heap[B]? = some (.cells #[.string x.fn,.int .i64 x.k,.string t.op,.string t.nm,.int .i64 x.e.n,.slice p.ea x.e.ks.len p.ec,.string x.g.op,.string x.g.nm,.int .i64 x.g.n,.slice p.ga x.g.ks.len p.gc,.slice p.wa x.wh.length p.wc] 28 (0,0)):=by simpa using h1
 have h2:=heap_setCell_same (((W).setCell ⟨B,2,none⟩ (.string t.op)).setCell ⟨B,3,none⟩ (.string t.nm)) B 4 _ 28 (.int .i64 t.n) g1;have g2:((((W).setCell ⟨B,2,none⟩ (.string t.op)).setCell ⟨B,3,none⟩ (.string t.nm)).setCell ⟨B,4,none⟩ (.int .i64 t.n)).heap[B]? = some (.cells #[.string x.fn,.int .i64 x.k,.string t.op,.string t.nm,.int .i64 t.n,.slice p.ea x.e.ks.len p.ec,.string x.g.op,.string x.g.nm,.int .i64 x.g.n,.slice p.ga x.g.ks.len p.gc,.slice p.wa x.wh.length p.wc] 28 (0,0)):=by simpa using h2
 have h3:=heap_setCell_same ((((W).setCell ⟨B,2,none⟩ (.string t.op)).setCell ⟨B,3,none⟩ (.string t.nm)).setCell ⟨B,4,none⟩ (.int .i64 t.n)) B 5 _ 28 (.slice ad t.ks.len cc) g2;have g3:(((((W).setCell ⟨B,2,none⟩ (.string t.op)).setCell ⟨B,3,none⟩ (.string t.nm)).setCell ⟨B,4,none⟩ (.int .i64 t.n)).setCell ⟨B,5,none⟩ (.slice ad t.ks.len cc)).heap[B]? = some (.cells #[.string x.fn,.int .i64 x.k,.string t.op,.string t.nm,.int .i64 t.n,.slice ad t.ks.len cc,.string x.g.op,.string x.g.nm,.int .i64 x.g.n,.slice p.ga x.g.ks.len p.gc,.slice p.wa x.wh.length p.wc] 28 (0,0)):=by simpa using h3
 exact g3
theorem BM {W:World} {B:Nat} {x:AG} {p:PA} (h:W.heap[B]? = some (agP x p)) (t:TN) (ad:Option Addr) (cc:Nat):(putG W B t ad cc).heap[B]? = some (agP { x with g:=t } { p with ga:=ad,gc:=cc }):=by
 have h0:=heap_setCell_same (W) B 6 _ 28 (.string t.op) h;have g0:((W).setCell ⟨B,6,none⟩ (.string t.op)).heap[B]? = some (.cells #[.string x.fn,.int .i64 x.k,.string x.e.op,.string x.e.nm,.int .i64 x.e.n,.slice p.ea x.e.ks.len p.ec,.string t.op,.string x.g.nm,.int .i64 x.g.n,.slice p.ga x.g.ks.len p.gc,.slice p.wa x.wh.length p.wc] 28 (0,0)):=by simpa using h0
 have h1:=heap_setCell_same ((W).setCell ⟨B,6,none⟩ (.string t.op)) B 7 _ 28 (.string t.nm) g0;have g1:(((W).setCell ⟨B,6,none⟩ (.string t.op)).setCell ⟨B,7,none⟩ (.string t.nm)).heap[B]? = some (.cells #[.string x.fn,.int .i64 x.k,.string x.e.op,.string x.e.nm,.int .i64 x.e.n,.slice p.ea x.e.ks.len p.ec,.string t.op,.string t.nm,.int .i64 x.g.n,.slice p.ga x.g.ks.len p.gc,.slice p.wa x.wh.length p.wc] 28 (0,0)):=by simpa using h1
 have h2:=heap_setCell_same (((W).setCell ⟨B,6,none⟩ (.string t.op)).setCell ⟨B,7,none⟩ (.string t.nm)) B 8 _ 28 (.int .i64 t.n) g1;have g2:((((W).setCell ⟨B,6,none⟩ (.string t.op)).setCell ⟨B,7,none⟩ (.string t.nm)).setCell ⟨B,8,none⟩ (.int .i64 t.n)).heap[B]? = some (.cells #[.string x.fn,.int .i64 x.k,.string x.e.op,.string x.e.nm,.int .i64 x.e.n,.slice p.ea x.e.ks.len p.ec,.string t.op,.string t.nm,.int .i64 t.n,.slice p.ga x.g.ks.len p.gc,.slice p.wa x.wh.length p.wc] 28 (0,0)):=by simpa using h2
 have h3:=heap_setCell_same ((((W).setCell ⟨B,6,none⟩ (.string t.op)).setCell ⟨B,7,none⟩ (.string t.nm)).setCell ⟨B,8,none⟩ (.int .i64 t.n)) B 9 _ 28 (.slice ad t.ks.len cc) g2;have g3:(((((W).setCell ⟨B,6,none⟩ (.string t.op)).setCell ⟨B,7,none⟩ (.string t.nm)).setCell ⟨B,8,none⟩ (.int .i64 t.n)).setCell ⟨B,9,none⟩ (.slice ad t.ks.len cc)).heap[B]? = some (.cells #[.string x.fn,.int .i64 x.k,.string x.e.op,.string x.e.nm,.int .i64 x.e.n,.slice p.ea x.e.ks.len p.ec,.string t.op,.string t.nm,.int .i64 t.n,.slice ad t.ks.len cc,.slice p.wa x.wh.length p.wc] 28 (0,0)):=by simpa using h3
 exact g3
theorem BK {W:World} {B:Nat} {x:AG} {p:PA} (h:W.heap[B]? = some (agP x p)) (k:Int):(W.setCell ⟨B,1,none⟩ (.int .i64 k)).heap[B]? = some (agP { x with k:=k } p):=by
 have h0:=heap_setCell_same W B 1 _ 28 (.int .i64 k) h;simpa using h0
structure AQ (ts:List Tk) (rb ab:Nat) (a:Option Addr) (c:Nat) (w:World) (x:AG) (p:PA) (s:RS) (V:World):Prop where
 r:PS ts rb a c s V
 n:V.heap[ab]? = some (agP x p)
 k:aE (fun b=>b=rb\/b=ab) w V
 e:a7 w.heap.size V p.ea x.e.ks
 g:a7 w.heap.size V p.ga x.g.ks
 wa:p.wa=none
 wc:p.wc=0
 h:rb<ab
 z:ab<w.heap.size
section
variable {ts:List Tk} {rb ab:Nat} {a:Option Addr} {c:Nat} {w V V':World} {x:AG} {p:PA} {s s':RS}
theorem AQ.step (h:AQ ts rb ab a c w x p s V) (hp:PS ts rb a c s' V') (hk:aE (· = rb) V V'):AQ ts rb ab a c w x p s' V':=by
 have h1:=h.h;have h2:=h.z;exact ⟨hp,hk.heap h.n (by omega),h.k.trans hk (fun i hi _=>.inl hi),h.e.keptS hk (fun k hk=>by omega),h.g.keptS hk (fun k hk=>by omega),h.wa,h.wc,h1,h2⟩
theorem AQ.below (h:AQ ts rb ab a c w x p s V) (hb:Below V.heap.size V V'):AQ ts rb ab a c w x p s V':=h.step (h.r.below hb) (aF hb _)
theorem AQ.setK (h:AQ ts rb ab a c w x p s V) (k:Int):AQ ts rb ab a c w { x with k:=k } p s (V.setCell ⟨ab,1,none⟩ (.int .i64 k)):=by
 have h1:=h.h;have h2:=h.z;have hk:=(aE.refl (· = ab) V).setCell (p:=⟨ab,1,none⟩) (.inl rfl) (.int .i64 k);exact ⟨h.r.kept hk (fun k hk=>by omega),BK h.n k,h.k.trans hk (fun i hi _=>.inr hi),h.e.keptS hk (fun k hk=>by omega),h.g.keptS hk (fun k hk=>by omega),h.wa,h.wc,h1,h2⟩
theorem AQ.putE (h:AQ ts rb ab a c w x p s V) {t:TN} {ad:Option Addr} {cc:Nat} (hr:a7 w.heap.size V ad t.ks):AQ ts rb ab a c w { x with e:=t } { p with ea:=ad,ec:=cc } s (putE V ab t ad cc):=by
 have h1:=h.h;have h2:=h.z;have hk:=fK V ab t ad cc;exact ⟨h.r.kept hk (fun k hk=>by omega),BO h.n t ad cc,h.k.trans hk (fun i hi _=>.inr hi),hr.keptS hk (fun k hk=>by omega),h.g.keptS hk (fun k hk=>by omega),h.wa,h.wc,h1,h2⟩
theorem AQ.putG (h:AQ ts rb ab a c w x p s V) {t:TN} {ad:Option Addr} {cc:Nat} (hr:a7 w.heap.size V ad t.ks):AQ ts rb ab a c w { x with g:=t } { p with ga:=ad,gc:=cc } s (putG V ab t ad cc):=by
 have h1:=h.h;have h2:=h.z;have hk:=vU V ab t ad cc;exact ⟨h.r.kept hk (fun k hk=>by omega),BM h.n t ad cc,h.k.trans hk (fun i hi _=>.inr hi),h.e.keptS hk (fun k hk=>by omega),hr.keptS hk (fun k hk=>by omega),h.wa,h.wc,h1,h2⟩
theorem AQ.box (h:AQ ts rb ab a c w x p s V) {B:Nat} {o:Obj} (hB:V.heap[B]? = some o) (hlo:w.heap.size<=B) {S:Nat->Prop} (hk:aE S V V') (hS:∀ k,S k->k=rb\/k=ab):V'.heap[B]? = some o:=by
 have h1:=h.h;have h2:=h.z;exact hk.heap hB (fun hs=>by rcases hS B hs with e | e <;> omega)
end
theorem Kx {ts:List Tk} {rb ab:Nat} {a:Option Addr} {c:Nat} {w:World} {s:RS} {fn:ByteArray} (h:PS ts rb a c s w) (hn:w.heap[ab]? = some (agP ⟨fn,0,aD,aD,[]⟩ aI)) (hlt:rb<ab):AQ ts rb ab a c w ⟨fn,0,aD,aD,[]⟩ aI s w :=
 ⟨h,hn,aE.refl _ _,.inl rfl,.inl rfl,rfl,rfl,hlt,aG hn⟩
theorem Fl (ts:List Tk) (hL:∀ t∈ts,cK t) (rb ab:Nat) (a:Option Addr) (c:Nat) (s:RS) (fn:ByteArray) (w:World) (h:PS ts rb a c s w) (hn:w.heap[ab]? = some (agP ⟨fn,0,aD,aD,[]⟩ aI)) (hlt:rb<ab) :
 Calls Tryz.prog 84 #[.pointer (some ⟨rb,0,none⟩),.pointer (some ⟨ab,0,none⟩)] w fun e w'=>e=.returned (.tuple #[]) /\
  ∃ p,AQ ts rb ab a c w ⟨fn,if kP fn.data.toList=true then (bM ts (atR s)).num else 0,(pC ts fn.data.toList (oE ts fn.data.toList s)).1,(rA ts fn.data.toList (pC ts fn.data.toList (oE ts fn.data.toList s)).2).1,[]⟩ p (iR ts fn.data.toList s) w':=by
 have Q0:=aA (Kx h hn hlt);have CP:=aA (i6 fn w);unfold iR;obtain ⟨F,hF⟩:∃ F,fn.data.toList=F:=⟨_,rfl⟩;rw [hF] at CP |-
 unfold ptV at CP;obtain ⟨kk,hk⟩:∃ b,kP F=b:=⟨_,rfl⟩;obtain ⟨ee,he⟩:∃ b,eP F=b:=⟨_,rfl⟩;obtain ⟨bb,hb⟩:∃ b,bP F=b:=⟨_,rfl⟩;obtain ⟨ff,hf⟩:∃ b,dM F=b:=⟨_,rfl⟩;rw [hk,he,hb,hf] at CP;have EK:∀ u,oE ts F u=if kk=true then aU ts [44] (pI ts u) else u:=fun u=>by unfold oE;rw [hk]
 have EE:∀ u,pC ts F u=if ee=true then a8 ts u else (aD,u):=fun u=>by unfold pC;rw [he]
 have EB:∀ u,rA ts F u=if bb=true then a8 ts (aU ts [44] u) else (aD,u):=fun u=>by unfold rA;rw [hb]
 rw [hk];obtain ⟨s1,hs1⟩:∃ u,oE ts F s=u:=⟨_,rfl⟩;obtain ⟨t1,s2,hs2⟩:∃ t u,pC ts F s1=(t,u):=⟨_,_,rfl⟩;obtain ⟨t2,s3,hs3⟩:∃ t u,rA ts F s2=(t,u):=⟨_,_,rfl⟩;rw [hs1,hs2];simp only;rw [hs3];simp only;rw [EK] at hs1;rw [EE] at hs2;rw [EB] at hs3;obtain ⟨kn,hkn⟩:∃ n,(if kk=true then (bM ts (atR s)).num else 0)=n:=⟨_,rfl⟩;rw [hkn];have HS1:=aA hs1;have HS2:=aA hs2;have HS3:=aA hs3;have HKN:=aA hkn;clear EK EE EB hs1 hs2 hs3 hkn hk he hb hf hF h hn;have hal:=Q0.out.z;obtain ⟨m0,m1,m2,m3,m4,m5,m6,m7,m8,m9,m10⟩:=aC Q0.out.n;go_enter Tryz.func84,Tryz.ntmps84
 go_wp2_with fail
 refine CP.out.mono ?_;rintro e w1 ⟨rfl,hb1⟩;have Q1:=Q0.out.below hb1;have BA:=(Below.refl w1.heap.size w1).alloc (Nat.le_refl _) (ptO kk ee bb);have Q2:=aA (Q1.below BA);have NB:=heap_alloc_new w1 (ptO kk ee bb);have hlo:w.heap.size<=w1.heap.size:=hb1.size;clear hb1 Q1 BA CP Q0 m0 m1 m2 m3 m4 m5 m6 m7 m8 m9 m10;go_upto_region 1 with fail
 generalize w1.alloc (ptO kk ee bb)=W at *;generalize w1.heap.size=B at *;have HN:=aA NB;obtain ⟨⟨y0,y1,y2⟩, -⟩:=cV NB;clear NB;go_upto_if 15 with fail
 go_cut [] (fun wc=>∃ p,Hid (AQ ts rb ab a c w ⟨fn,kn,aD,aD,[]⟩ p s1 wc)/\Hid (wc.heap[B]? = some (ptO kk ee bb)))
 case first =>
  cases kk with
  | true =>
    have CK:=aA (Kl ts rb a c s W Q2.out.r);have HE:(bM ts (atR s)).num=kn:=HKN.out;rw [HE] at CK;go_wp2_with fail
    refine CK.out.mono ?_;rintro e w2 ⟨rfl,hp,hk⟩;have N3:=Q2.out.box HN.out hlo hk (fun k h=>.inl h);have Q3:=(Q2.out.step hp hk).setK kn;have Q4:=aA Q3;have KS:=(aE.refl (· = ab) w2).setCell (p:=⟨ab,1,none⟩) (.inl rfl) (.int .i64 kn);have N4:=aA ((Q2.out.step hp hk).box (V:=w2) (V':=w2.setCell ⟨ab,1,none⟩ (.int .i64 kn)) N3 hlo KS (fun k h=>.inr h));obtain ⟨m0,m1,m2,m3,m4,m5,m6,m7,m8,m9,m10⟩:=aC (Q2.out.step hp hk).n;obtain ⟨z0,z1,z2,z3,z4,z5,z6,z7,z8,z9,z10⟩:=bE (Q2.out.step hp hk).n;clear hp hk N3 Q3 KS CK;go_upto_region 3 with fail
    clear m0 m1 m2 m3 m4 m5 m6 m7 m8 m9 m10 z0 z1 z2 z3 z4 z5 z6 z7 z8 z9 z10;obtain ⟨V,hV⟩:∃ V,w2.setCell ⟨ab,1,none⟩ (.int .i64 kn)=V:=⟨_,rfl⟩;rw [hV] at Q4 N4 |-
    clear hV;have CS:=aA (nE ts rb a c (pI ts s) ⟨#[44]⟩ V Q4.out.r);go_wp2_with fail
    refine CS.out.mono ?_;rintro e w3 ⟨rfl,hp,hk⟩;have N5:=aA (Q4.out.box N4.out hlo hk (fun k h=>.inl h));have Q5:=aA (Q4.out.step hp hk);clear hp hk CS;go_wp2_with fail
    go_meet;case rel=>exact ⟨_,by have:=Q5;rw [<- HS1.out];exact this,N5⟩
  | false =>
    have HE:(0:Int)=kn:=HKN.out;have HZ:s=s1:=HS1.out;subst HE;subst HZ;go_wp2_with fail
    go_meet;case rel=>exact ⟨_,Q2,HN⟩
 case rest =>
  obtain ⟨p,Q3,N3⟩:=hcut;clear Q2 HN y0 y1 y2 HKN HS1;obtain ⟨⟨y0,y1,y2⟩, -⟩:=cV N3.out;go_upto_if 24 with fail
  go_cut [] (fun wc=>∃ p,Hid (AQ ts rb ab a c w ⟨fn,kn,t1,aD,[]⟩ p s2 wc)/\Hid (wc.heap[B]? = some (ptO kk ee bb)))
  case first =>
   cases ee with
   | true =>
     have CE:=aA (nO ts hL rb a c s1 wc Q3.out.r);have HE:a8 ts s1=(t1,s2):=HS2.out;rw [HE] at CE;go_wp2_with fail
     refine CE.out.mono ?_;rintro e w2 ⟨ad,cc,rfl,hp,hk,hr⟩;have N4:=Q3.out.box N3.out hlo hk (fun k h=>.inl h);have Q4:=Q3.out.step hp hk;have hr2:a7 w.heap.size w2 ad t1.ks:=aH.imp hr (fun b _ hb=>Nat.le_trans Q3.out.k.size hb);have Q5:=aA (Q4.putE (cc:=cc) hr2);have N5:=aA (Q4.box N4 hlo (fK w2 ab t1 ad cc) (fun k h=>.inr h));obtain ⟨m0,m1,m2,m3,m4,m5,m6,m7,m8,m9,m10⟩:=aC Q4.n;obtain ⟨z0,z1,z2,z3,z4,z5,z6,z7,z8,z9,z10⟩:=bE Q4.n;clear hp hk hr hr2 N4 Q4 CE;go_wp2_with fail
     go_meet;case rel=>exact ⟨_,Q5,N5⟩
   | false =>
     have HE:(aD,s1)=(t1,s2):=HS2.out;cases HE;go_wp2_with fail
     go_meet;case rel=>exact ⟨_,Q3,N3⟩
  case rest =>
   obtain ⟨p,Q4,N4⟩:=hcut;clear Q3 N3 y0 y1 y2 HS2;obtain ⟨⟨y0,y1,y2⟩, -⟩:=cV N4.out;cases bb with
   | true =>
     have CS:=aA (nE ts rb a c s2 ⟨#[44]⟩ wc Q4.out.r);go_wp2_with fail
     refine CS.out.mono ?_;rintro e w3 ⟨rfl,hp,hk⟩;have Q5:=aA (Q4.out.step hp hk);clear hp hk CS Q4 N4;have CE:=aA (nO ts hL rb a c _ w3 Q5.out.r);have HE:a8 ts (aU ts [44] s2)=(t2,s3):=HS3.out;rw [HE] at CE;go_wp2_with fail
     refine CE.out.mono ?_;rintro e w4 ⟨ad,cc,rfl,hp,hk,hr⟩;have Q6:=Q5.out.step hp hk;have hr2:a7 w.heap.size w4 ad t2.ks:=aH.imp hr (fun b _ hb=>Nat.le_trans Q5.out.k.size hb);have Q7:=aA (Q6.putG (cc:=cc) hr2);obtain ⟨m0,m1,m2,m3,m4,m5,m6,m7,m8,m9,m10⟩:=aC Q6.n;obtain ⟨z0,z1,z2,z3,z4,z5,z6,z7,z8,z9,z10⟩:=bE Q6.n;clear hp hk hr hr2 Q6 CE;go_wp2_with fail
     go_end0
     exact ⟨rfl,_,Q7.out⟩
   | false =>
     have HE:(aD,s2)=(t2,s3):=HS3.out;cases HE;go_wp2_with fail
     go_end0
     exact ⟨rfl,_,Q4.out⟩
def kD (r:mA) (w0:World) (e:Ending) (w':World):Prop:=Below w0.heap.size w0 w' /\
 match r with
 | .bad p er=>e=.returned (.tuple #[agV aN aI,.int .i64 (p:Nat),.int .i64 er])
 | .ok a=>∃ p,e=.returned (.tuple #[agV a p,.int .i64 0,.int .i64 0])/\aP (fun b=>w0.heap.size<=b) w' a p
def kF (x:AG) (s:RS):mA:=if ¬ s.bad=0 then .bad s.whr s.bad else .ok x
def kE (L:List Tk) (x:AG) (c:List CD×RS):mA:=kF { x with wh:=c.1 } (if c.2.bad=0/\c.2.pos<L.length then aR 2 c.2 else c.2)
def kLo (L:List Tk) (f:Nat) (more:Bool) (acc:List CD) (s:RS):List CD×RS:=if more=true/\s.bad=0 then eU L f acc s else (acc,s)
def kC (L:List Tk) (x:AG) (s:RS):mA:=if s.bad=0/\s.pos<L.length then kE L x (kLo L 5 true [] (if dU L fU s.pos=true then s else aR 2 s)) else kF x s
def kB (L:List Tk) (x:AG) (s:RS):mA:=kC L x (aU L [41] s)
def kA (L:List Tk) (fn:ByteArray) (s:RS):mA :=
 let s1:=aU L [40] s
 if s1.bad=0 then (let r:=bG L fn.data.toList s1;kB L ⟨fn,r.1.1,r.1.2.1,r.1.2.2,[]⟩ r.2) else kB L ⟨fn,0,aD,aD,[]⟩ s1
theorem qT {x:AG} {s:RS} (h:¬ s.bad=0):kF x s=.bad s.whr s.bad:=if_pos h
theorem Gs {x:AG} {s:RS} (h:s.bad=0):kF x s=.ok x:=if_neg (by simpa using h)
theorem Gt {L:List Tk} {x:AG} {s:RS} (h:¬ s.bad=0):kB L x s=.bad s.whr s.bad:=by
 unfold kB kC;rw [e7 h,if_neg (fun k=>h k.1),qT h]
theorem BC {L:List Tk} {fn:ByteArray} {s:RS} (h:¬ s.bad=0):kA L fn s=.bad s.whr s.bad:=by
 unfold kA;simp only;rw [e7 h,if_neg h,Gt h]
theorem By {L:List Tk} {f:Nat} {acc:List CD} {s:RS} (h:s.bad=0):kLo L f true acc s=eU L f acc s:=if_pos ⟨rfl,h⟩
theorem Lf (L:List Tk) (x:AG) (c:List CD×RS):kE L x c=if ¬ c.2.bad=0 then .bad c.2.whr c.2.bad else if c.2.pos<L.length then .bad c.2.pos 2 else .ok { x with wh:=c.1 }:=by
 unfold kE;by_cases h5:c.2.bad=0
 · rw [if_neg (show ¬ ¬ c.2.bad=0 from fun k=>k h5)]
   by_cases h6:c.2.pos<L.length
   · have hD:=And.intro h5 h6
     rw [if_pos h6,if_pos hD,qT (iH (by decide) _)];unfold aR;rw [if_pos h5]
   · rw [if_neg h6,if_neg (show ¬ (c.2.bad=0/\c.2.pos<L.length) from fun k=>h6 k.2),Gs h5]
 · rw [if_pos h5,if_neg (show ¬ (c.2.bad=0/\c.2.pos<L.length) from fun k=>h5 k.1),qT h5]
theorem Hp {L:List Tk} (h:L[0]? = none):agL L=kA L ⟨#[]⟩ (aR 2 ⟨0,0,0,0⟩):=by
 rw [BC (by decide)];unfold agL;rw [h];rfl
theorem Hr {L:List Tk} {t:Tk} (h:L[0]? = some t) (hk:¬ t.kind=1):agL L=kA L ⟨#[]⟩ (aR 2 ⟨0,0,0,0⟩):=by
 rw [BC (by decide)];unfold agL;rw [h];simp only;rw [if_pos hk];rfl
theorem KH {L:List Tk} {t:Tk} (h:L[0]? = some t) (hk:t.kind=1) (hf:dM t.text=false):agL L=kA L ⟨#[]⟩ (aR 5 ⟨0,0,0,0⟩):=by
 rw [BC (by decide)];unfold agL;rw [h];simp only;rw [if_neg (fun k=>k hk),if_pos hf];rfl
theorem Kz {L:List Tk} {t:Tk} (h:L[0]? = some t) (hk:t.kind=1) (hf:dM t.text=true):agL L=kA L ⟨t.text.toArray⟩ ⟨1,0,0,0⟩:=by
 unfold agL kA;rw [h];simp only;rw [if_neg (fun k=>k hk),if_neg (by rw [hf];decide)];by_cases h1:(aU L [40] ⟨1,0,0,0⟩).bad=0
 · rw [if_neg (fun k=>k h1),if_pos h1]
   unfold kB kC;by_cases h2:(aU L [41] (bG L t.text (aU L [40] ⟨1,0,0,0⟩)).2).bad=0
   · rw [if_neg (fun k=>k h2)]
     by_cases h3:L.length<=(aU L [41] (bG L t.text (aU L [40] ⟨1,0,0,0⟩)).2).pos
     · rw [if_pos h3,if_neg (fun k=>absurd k.2 (by omega)),Gs h2]
     · have hC:(aU L [41] (bG L t.text (aU L [40] ⟨1,0,0,0⟩)).2).bad=0/\(aU L [41] (bG L t.text (aU L [40] ⟨1,0,0,0⟩)).2).pos<L.length:=⟨h2,by omega⟩
       rw [if_neg h3,if_pos hC];cases hw:dU L fU (aU L [41] (bG L t.text (aU L [40] ⟨1,0,0,0⟩)).2).pos with
       | false =>
         rw [if_pos rfl,if_neg (show ¬ (false=true) by decide)];have hb:¬ (aR 2 (aU L [41] (bG L t.text (aU L [40] ⟨1,0,0,0⟩)).2)).bad=0:=iH (by decide) _;unfold kE kLo;rw [if_neg (fun k=>hb k.2)];simp only;rw [if_neg (fun k=>hb k.1),qT hb];unfold aR;rw [if_pos h2]
       | true =>
         rw [if_neg (by decide),if_pos rfl,By h2,Lf]
   · rw [if_pos h2,if_neg (fun k=>h2 k.1),qT h2]
 · rw [if_pos h1,if_neg h1,Gt h1]
section
variable {w:World} {ts:List Tk} {rb ab:Nat} {a:Option Addr} {c:Nat} {x:AG} {p:PA} {qs:List QC} {s s':RS} {V V':World}
theorem GW.lo (h:GW w ts rb ab a c x p qs s V) {b:Nat} (hb:(Value.slice p.wa x.wh.length p.wc).ownBlock=some b):ab+1<=b:=(h.own.lt b hb).1
theorem GW.sz (h:GW w ts rb ab a c x p qs s V):w.heap.size<V.heap.size:=by have:=h.hr;have:=h.ha;have:=h.hz;omega
theorem GW.step (h:GW w ts rb ab a c x p qs s V) (hp:PW ts rb a c s' V') (hk:aE (· = rb) V V'):GW w ts rb ab a c x p qs s' V':=by
 have h1:=h.hr;have h2:=h.ha;refine ⟨hp,h.b.trans (hk.below (fun b hb=>by omega) (by have:=h.sz;omega)),hk.heap h.n (by omega),hk.heap h.o (by omega),h.e.keptS hk (fun k hk hg=>hg.2.1 hk),h.g.keptS hk (fun k hk hg=>hg.2.1 hk),?_,h.ql,h.kd.keptS hk (fun k hk hg=>hg.2.1 hk),h1,h2,Nat.lt_of_lt_of_le h.hz hk.size,h.tk⟩;exact dH (row:=some rb) h.own (hk.mono (fun i hi _=>by rw [hi])) (fun b hb he=>by have:=h.lo hb;have:=Option.some.inj he;omega)
theorem GW.below (h:GW w ts rb ab a c x p qs s V) (hb:Below V.heap.size V V'):GW w ts rb ab a c x p qs s V':=h.step (h.r.below hb) (aF hb _)
theorem GW.box {y:AG} {q:PA} (h:GW w ts rb ab a c x p qs s V) (hk:aE (· = ab) V V') (hn:V'.heap[ab]? = some (agO y q)) (hw:y.wh=x.wh) (hqa:q.wa=p.wa) (hqc:q.wc=p.wc)
 (he:aH (GG w.heap.size rb ab p.wa) V q.ea y.e.ks) (hg:aH (GG w.heap.size rb ab p.wa) V q.ga y.g.ks):GW w ts rb ab a c y q qs s V':=by
 have h1:=h.hr;have h2:=h.ha;refine ⟨h.r.other hk (by omega),h.b.trans (hk.below (fun b hb=>by omega) (by have:=h.sz;omega)),hn,hk.heap h.o (by omega),by rw [hqa];exact he.keptS hk (fun k hk hg=>hg.2.2.1 hk),by rw [hqa];exact hg.keptS hk (fun k hk hg=>hg.2.2.1 hk),?_,by rw [hw];exact h.ql,?_,h1,h2,Nat.lt_of_lt_of_le h.hz hk.size,h.tk⟩
 · rw [hw,hqa,hqc]
   exact dH (row:=some ab) h.own (hk.mono (fun i hi _=>by rw [hi])) (fun b hb he=>by have:=h.lo hb;have:=Option.some.inj he;omega)
 · rw [hw,hqa]
   exact h.kd.keptS hk (fun k hk hg=>hg.2.2.1 hk)
theorem GW.push (h:GW w ts rb ab a c x p qs s V) {d:CD} {q:QC} {a':Option Addr} {c':Nat} (hk:aE (fun b=>(Value.slice p.wa x.wh.length p.wc).ownBlock=some b) V V')
 (hrow:V'.ownsRow (ab+1) 90 9 (.slice a' (x.wh.length+1) c') (x.wh.length+1) (cdL x.wh qs++eF d q))
 (hnew:∀ b,(Value.slice a' (x.wh.length+1) c').ownBlock=some b->(Value.slice p.wa x.wh.length p.wc).ownBlock=some b\/V.heap.size<=b)
 (h1:aH (GG w.heap.size rb ab p.wa) V q.a1 d.a.ks) (h2:aH (GG w.heap.size rb ab p.wa) V q.a2 d.b.ks) :
 GW w ts rb ab a c { x with wh:=x.wh++[d] } { p with wa:=a',wc:=c' } (qs++[q]) s (V'.setCell ⟨ab,10,none⟩ (.slice a' (x.wh.length+1) c')):=by
 have e1:=h.hr;have e2:=h.ha
 have own:∀ b,(Value.slice p.wa x.wh.length p.wc).ownBlock=some b->p.wa=some ⟨b,0,none⟩:=fun b hb=>by
  rcases h.own.2 with ⟨q1,_⟩ | ⟨g,cap,cur,q1,_⟩
  · rw [q1] at hb;cases hb
  · rw [q1] at hb
    cases hb;simp only [Value.slice.injEq] at q1;exact q1.1
 have own':∀ b,a'=some ⟨b,0,none⟩->(Value.slice a' (x.wh.length+1) c').ownBlock=some b:=fun b hb=>by rw [hb];rfl
 have lo:=fun b hb=>h.lo (b:=b) hb
 have r1:PW ts rb a c s V':=⟨hk.heap h.r.r (fun e=>by have:=lo _ e;omega),h.r.t.kept hk (fun k hk=>by have:=lo k hk;omega),h.r.f⟩;have KS:=(aE.refl (· = ab) V').setCell (p:=⟨ab,10,none⟩) (.inl rfl) (.slice a' (x.wh.length+1) c');have n1:=hk.heap h.n (fun e=>by have:=lo _ e;omega);have len:(x.wh++[d]).length=x.wh.length+1:=by simp
 have hnn:(V'.setCell ⟨ab,10,none⟩ (.slice a' (x.wh.length+1) c')).heap[ab]? = some (agO { x with wh:=x.wh++[d] } { p with wa:=a',wc:=c' }):=by
  have:=heap_setCell_same V' ab 10 _ _ (.slice a' (x.wh.length+1) c') n1;rw [show agO { x with wh:=x.wh++[d] } { p with wa:=a',wc:=c' }=.cells #[.string x.fn,.int .i64 x.k,.string x.e.op,.string x.e.nm,.int .i64 x.e.n,.slice p.ea x.e.ks.len p.ec,.string x.g.op,.string x.g.nm,.int .i64 x.g.n,.slice p.ga x.g.ks.len p.gc,.slice a' (x.wh.length+1) c'] 37 by show Obj.cells #[_,_,_,_,_,_,_,_,_,_,.slice a' (x.wh++[d]).length c'] _=_;rw [len]];simpa using this
 have kd:=h.kd.snoc h.ql h1 h2
 refine ⟨r1.other KS (by omega),(h.b.trans (hk.below (fun b hb=>by have:=lo b hb;omega) (by have:=h.sz;omega))).trans (KS.below (fun b hb=>by omega) (by have:=h.sz;have:=hk.size;omega)),hnn,
  KS.heap (hk.heap h.o (fun e=>by have:=lo _ e;omega)) (by omega),?_,?_,?_,by rw [List.length_append,List.length_append,h.ql];rfl,?_,e1,e2,by rw [World.size_setCell];exact Nat.lt_of_lt_of_le h.hz hk.size,h.tk⟩
 · exact ((h.e.imp (H:=fun b=>GG w.heap.size rb ab p.wa b/\a' ≠ some ⟨b,0,none⟩) (fun b hb hg=>⟨hg,fun e=>by
    rcases hnew b (own' b e) with h | h
    · exact hg.2.2.2 (own b h)
    · omega⟩)).keptS hk (fun k hk hg=>hg.1.2.2.2 (own k hk))).keptS KS (fun k hk hg=>hg.1.2.2.1 hk) |>.imp (fun b _ hg=>⟨hg.1.1,hg.1.2.1,hg.1.2.2.1,hg.2⟩)
 · exact ((h.g.imp (H:=fun b=>GG w.heap.size rb ab p.wa b/\a' ≠ some ⟨b,0,none⟩) (fun b hb hg=>⟨hg,fun e=>by
    rcases hnew b (own' b e) with h | h
    · exact hg.2.2.2 (own b h)
    · omega⟩)).keptS hk (fun k hk hg=>hg.1.2.2.2 (own k hk))).keptS KS (fun k hk hg=>hg.1.2.2.1 hk) |>.imp (fun b _ hg=>⟨hg.1.1,hg.1.2.1,hg.1.2.2.1,hg.2⟩)
 · show (V'.setCell ⟨ab,10,none⟩ (.slice a' (x.wh.length+1) c')).ownsRow (ab+1) 90 9 (.slice a' (x.wh++[d]).length c') (x.wh++[d]).length (cdL (x.wh++[d]) (qs++[q]))
   rw [len,sI _ _ _ _ h.ql];have e:cdL [d] [q]=eF d q:=by simp [cdL]
   rw [e];exact gC hrow (by omega) _ _
 · exact ((kd.imp (H:=fun b=>GG w.heap.size rb ab p.wa b/\a' ≠ some ⟨b,0,none⟩) (fun b hb hg=>⟨hg,fun e=>by
    rcases hnew b (own' b e) with h | h
    · exact hg.2.2.2 (own b h)
    · omega⟩)).keptS hk (fun k hk hg=>hg.1.2.2.2 (own k hk))).keptS KS (fun k hk hg=>hg.1.2.2.1 hk) |>.imp (fun b _ hg=>⟨hg.1.1,hg.1.2.1,hg.1.2.2.1,hg.2⟩)
end
theorem zR {ts:List Tk} {rb:Nat} {a:Option Addr} {c:Nat} {w V:World} {acc:List CD} {wa:Option Addr} {wc:Nat} {qs:List QC} {s:RS} (h:OCW ts rb a c w acc wa wc qs s V):fD (fun b=>w.heap.size<=b) V wa acc :=
 oU h.own h.ql (h.kd.imp (fun b _ hg=>hg.1)) (fun b hb=>(h.own.lt b (by rw [hb];rfl)).1)
def Lr (ts:List Tk) (rb:Nat) (a:Option Addr) (c:Nat) (R:mA) (w:World) (e:Ending) (w':World):Prop :=
 ∃ (x:AG) (p:PA) (pos:Nat) (er:Int),e=.returned (agV x p)/\PR ts rb a c pos er w'/\aE (· = rb) w w'/\(match R with | .bad q f=>¬ f=0/\pos=q/\er=f | .ok y=>er=0/\x=y/\aP (fun b=>w.heap.size<=b) w' x p)
theorem Ew {W:World} {B:Nat} {x:AG} {p:PA} (h:W.heap[B]? = some (agP x p)) (l:List CD) (wa:Option Addr) (wc:Nat):(W.setCell ⟨B,10,none⟩ (.slice wa l.length wc)).heap[B]? = some (agP { x with wh:=l } { p with wa:=wa,wc:=wc }):=by
 have h0:=heap_setCell_same W B 10 _ 28 (.slice wa l.length wc) h;simpa using h0
theorem Hm (ts:List Tk) (hL:∀ t∈ts,cK t) (hO:∀ t∈ts,AS t) (rb:Nat) (a:Option Addr) (c:Nat) (w:World) (h:PR ts rb a c 0 0 w) :
 Calls Tryz.prog 29 #[.pointer (some ⟨rb,0,none⟩)] w (Lr ts rb a c (agS ts) w):=by
 have hrb:=h.lt;have B1:=(Below.refl w.heap.size w).alloc (Nat.le_refl _) (agP aN aI);have NB:=heap_alloc_new w (agP aN aI);have hs0:(w.alloc (agP aN aI)).heap.size=w.heap.size+1:=World.size_alloc _ _;have P1:=aA (show PS ts rb a c ⟨0,0,0,0⟩ (w.alloc (agP aN aI)) from h.below B1);have K1:=aA (aF B1 (· = rb));generalize hW:w.alloc (agP aN aI)=W at *;have HW:=aA hW;have N0:=aA NB;have CN:=D7 ts rb a c ⟨0,0,0,0⟩ W P1.out;have CN2:Calls Tryz.prog 82 #[.pointer (some ⟨rb,0,none⟩)] W fun e w'=>e=.returned (.string ⟨(bM ts 0).text.toArray⟩)/\PS ts rb a c (gF ts) w'/\aE (· = rb) W w':=CN
 obtain ⟨fn,hfn⟩:∃ fn:ByteArray,⟨(bM ts 0).text.toArray⟩=fn:=⟨_,rfl⟩;rw [hfn] at CN2;have HFN:=aA hfn;have C1:=aA CN2;clear h B1 NB hW CN CN2 hfn;go_enter Tryz.func29,Tryz.ntmps29
 go_upto_region 1 with fail
 rw [show w.alloc (.cells #[.string ⟨#[]⟩,.int .i64 0,.string ⟨#[]⟩,.string ⟨#[]⟩,.int .i64 0,.slice none 0 0,.string ⟨#[]⟩,.string ⟨#[]⟩,.int .i64 0,.slice none 0 0,.slice none 0 0] 28)=W from HW.out];go_wp2_with fail
 refine C1.out.mono ?_;rintro e w1 ⟨rfl,hp,hk⟩;have BA:=(Below.refl w1.heap.size w1).alloc (Nat.le_refl _) (agP ⟨fn,0,aD,aD,[]⟩ aI);have NA:=heap_alloc_new w1 (agP ⟨fn,0,aD,aD,[]⟩ aI);have hz1:=hk.size;have P2:=aA (hp.below BA);have K2:=aA ((K1.out.trans hk (fun i hi _=>hi)).trans (aF BA (· = rb)) (fun i hi _=>hi));have N1:=aA ((BA.block w.heap.size (by omega)).trans (hk.heap N0.out (by omega)));clear hp hk BA C1 P1 K1 N0;go_upto_region 2 with fail
 rw [show w1.alloc (.cells #[.string fn,.int .i64 0,.string ⟨#[]⟩,.string ⟨#[]⟩,.int .i64 0,.slice none 0 0,.string ⟨#[]⟩,.string ⟨#[]⟩,.int .i64 0,.slice none 0 0,.slice none 0 0] 28)=w1.alloc (agP ⟨fn,0,aD,aD,[]⟩ aI) from rfl];generalize w1.alloc (agP ⟨fn,0,aD,aD,[]⟩ aI)=W1 at *;generalize w1.heap.size=ab at *;have hab:w.heap.size<ab:=by omega
 have NA1:=aA NA;clear NA hz1 hs0;have C2:=aA (nE ts rb a c (gF ts) ⟨#[40]⟩ W1 P2.out);go_wp2_with fail
 refine C2.out.mono ?_;rintro e w2 ⟨rfl,hp,hk⟩;have P3:=aA (show PS ts rb a c (qB ts) w2 from hp);have K3:=aA (K2.out.trans hk (fun i hi _=>hi));have N2:=aA (hk.heap N1.out (by omega));have NA2:=aA (hk.heap NA1.out (by omega));clear hp hk C2 P2 K2 N1 NA1;have C3:=aA (Fl ts hL rb ab a c (qB ts) fn w2 P3.out NA2.out (by omega));go_wp2_with fail
 refine C3.out.mono ?_;rintro e w3 ⟨rfl,p,Q⟩;have hfl:fn.data.toList=(bM ts 0).text:=by rw [<- HFN.out]
 have Q2:=aA (show AQ ts rb ab a c w2 (vK ts []) p (iR ts (bM ts 0).text (qB ts)) w3 by
  rw [hfl, <- HFN.out] at Q;exact Q)
 have N3:=aA (Q.k.heap N2.out (by omega));clear Q hfl C3 NA2 N2;have C4:=aA (nE ts rb a c (iR ts (bM ts 0).text (qB ts)) ⟨#[41]⟩ w3 Q2.out.r);go_wp2_with fail
 refine C4.out.mono ?_;rintro e w4 ⟨rfl,hp,hk⟩;have Q3:=aA (show AQ ts rb ab a c w2 (vK ts []) p (mL ts) w4 from Q2.out.step hp hk);have N4:=aA (hk.heap N3.out (by omega));clear hp hk C4 N3 Q2;have C5:=aA (Cd ts hL hO rb a c (mL ts) w4 Q3.out.r (R:=eH ts 6 [] (mL ts)) rfl);go_wp2_with fail
 refine C5.out.mono ?_;rintro e w5 ⟨acc,wa,wc,qs,s,rfl,CW5,hres⟩;have Q4:=aA (Q3.out.step CW5.r CW5.k);have RC:=aA (zR CW5);have N5:=aA (CW5.k.heap N4.out (by omega));have HR:=aA hres;have hz45:=CW5.k.size;have hz34:=Q3.out.k.size;clear CW5 C5 Q3 N4 hres;obtain ⟨m0,m1,m2,m3,m4,m5,m6,m7,m8,m9,m10⟩:=aC Q4.out.n;obtain ⟨z0,z1,z2,z3,z4,z5,z6,z7,z8,z9,z10⟩:=bE Q4.out.n;go_upto_region 6 with fail
 clear m0 m1 m2 m3 m4 m5 m6 m7 m8 m9 m10 z0 z1 z2 z3 z4 z5 z6 z7 z8 z9 z10;have KS:=(aE.refl (· = ab) w5).setCell (p:=⟨ab,10,none⟩) (.inl rfl) (.slice wa acc.length wc);have NW:=Ew Q4.out.n acc wa wc;have hl1:=Q4.out.z;have P6:=aA (Q4.out.r.kept KS (fun k hk=>by omega));have K6:=aA ((K3.out.trans Q4.out.k (fun i hi hlt=>by rcases hi with h | h <;> omega)).trans (KS.mono (T:=fun i=>w.heap.size<=i) (fun i hi _=>by omega)) (fun i hi hl=>by omega));have N6:=aA (KS.heap N5.out (by omega));have RE:=aA (Q4.out.e.keptS KS (fun k hk=>by omega));have RG:=aA (Q4.out.g.keptS KS (fun k hk=>by omega));have hz24:=Q4.out.k.size;have XP:=aA (show ∃ (x:AG) (q:PA),vK ts acc=x/\{ p with wa:=wa,wc:=wc }=q from ⟨_,_,rfl,rfl⟩);obtain ⟨x,q,hx,hq⟩:=XP.out;have NW2:=aA (show (w5.setCell ⟨ab,10,none⟩ (.slice wa acc.length wc)).heap[ab]? = some (agP x q) by rw [<- hx, <- hq];exact NW);have RE2:=aA (show a7 w2.heap.size (w5.setCell ⟨ab,10,none⟩ (.slice wa acc.length wc)) q.ea x.e.ks by rw [<- hx, <- hq];exact RE.out);have RG2:=aA (show a7 w2.heap.size (w5.setCell ⟨ab,10,none⟩ (.slice wa acc.length wc)) q.ga x.g.ks by rw [<- hx, <- hq];exact RG.out);have RC2:=aA (show fD (fun b=>w4.heap.size<=b) (w5.setCell ⟨ab,10,none⟩ (.slice wa acc.length wc)) q.wa x.wh by rw [<- hx, <- hq];exact RC.out.keptS KS (fun k hk=>by omega));have HX:=aA hx;have hz2w:=K3.out.size;clear hx hq XP NW RE RG RC KS Q4 K3 P3;obtain ⟨Y,hY⟩:∃ Y,w5.setCell ⟨ab,10,none⟩ (.slice wa acc.length wc)=Y:=⟨_,rfl⟩;rw [hY] at P6 K6 N6 NW2 RE2 RG2 RC2
 try rw [hY]
 clear hY;obtain ⟨m0,m1,m2,m3,m4,m5,m6,m7,m8,m9,m10⟩:=aC NW2.out;obtain ⟨b0,b1,b2,b3,b4,b5,b6,b7,b8,b9,b10⟩:=aC N6.out;obtain ⟨z0,z1,z2,z3,z4,z5,z6,z7,z8,z9,z10⟩:=bE N6.out;go_wp2_with fail
 have KP:=bH Y w.heap.size x q;obtain ⟨y0,y1,y2,y3,y4,y5,y6,y7,y8,y9,y10⟩:=aC (cB (t:=28) N6.out x q)
 have P:Lr ts rb a c (agS ts) w (.returned (agV x q)) (dX Y w.heap.size x q):=by
  refine ⟨x,q,atR s,s.bad,rfl,P6.out.kept KP (fun k hk=>by omega),K6.out.trans (KP.mono (T:=fun i=>w.heap.size<=i) (fun i hi _=>by omega)) (fun i hi hl=>by omega),?_⟩;have hr:=HR.out;unfold agS;cases hc:eH ts 6 [] (mL ts) with
  | bad pq eq =>
    rw [hc] at hr;simp only at hr |-
    exact ⟨fun h=>hr.1 (hr.2.2.trans h),hr.2.1,hr.2.2⟩
  | ok l =>
    rw [hc] at hr;simp only at hr |-
    refine ⟨hr.1,?_,?_⟩
    · rw [<- hr.2];exact HX.out.symm
    · exact ⟨(RE2.out.keptS KP (fun k hk=>by omega)).imp (fun b _ hb=>by omega),(RG2.out.keptS KP (fun k hk=>by omega)).imp (fun b _ hb=>by omega),(RC2.out.keptS KP (fun k hk=>by omega)).imp (fun b _ hb=>by omega)⟩
 exact bodyPost_ret (v:=agV x q) (by simp [results,Tryz.results29,go_sem,y0,y1,y2,y3,y4,y5,y6,y7,y8,y9,y10]) rfl P
end
end Go.Proofs.YtapcjnoaofmmiaaGreatDoor
