/-
 No statement: what AggBackCard needs, of the texts ONode, Take, OCond, QOwn, OConds, OArgs, QGw, OParse, QParse, OPx.
-/
import Derived.Test.YtapcjnoaofmmiaaGreatDoorVB14
import Derived.OrdersHeld
import Derived.NoCompiler
set_option maxHeartbeats 40000000
set_option maxRecDepth 100000
namespace Go.Proofs.YtapcjnoaofmmiaaGreatDoor
section
open Go.RowKit
def ofN (q:CR):TN×Nat×Int:=match q with | .ok t p=>(t,p,0) | .bad p e=>(aR,p,e)
theorem Fx {q:CR} {w w':World} {e:Ending} (h:BM q w e w'):Below w.heap.size w w'/\∃ ad cc,e=.returned (.tuple #[bI (ofN q).1.op (ofN q).1.nm (ofN q).1.n ad (ofN q).1.ks.len cc,.int .i64 ((ofN q).2.1:Nat),.int .i64 (ofN q).2.2])/\cC w.heap.size w' ad (ofN q).1.ks:=by
 cases q with
 | ok t p=>obtain ⟨hb,ad,cc,he,hr⟩:=h;exact ⟨hb,ad,cc,he,hr⟩
 | bad p er=>obtain ⟨hb,he⟩:=h;exact ⟨hb,none,0,he,.inl rfl⟩
theorem Gh {L:List Tk} {s:RS} (hb:s.bad=0) (hp:s.pos<=L.length):(bC L s).1=(ofN (ofL L s.pos)).1/\atR (bC L s).2=(ofN (ofL L s.pos)).2.1/\(bC L s).2.bad=(ofN (ofL L s.pos)).2.2:=by
 unfold bC;rw [if_pos hb];cases h:ofL L s.pos with
 | ok t p=>exact ⟨rfl,rfl,rfl⟩
 | bad p e =>
   have hne:¬ e=0:=((tD hp).2 p e h).2;exact ⟨rfl,oN hne,rfl⟩
theorem tF {ts:List Tk} {rb:Nat} {a:Option Addr} {c p:Nat} {er:Int} {w V:World} {t:TN} {ad:Option Addr} {cc:Nat} (hrb:rb<w.heap.size) (h:PR ts rb a c p er V) (hk:aL (· = rb) w V) (hr:cC (w.heap.size+1) V ad t.ks) :
 PR ts rb a c p er (AI V w.heap.size t.op t.nm t.n ad t.ks.len cc)/\aL (· = rb) w (AI V w.heap.size t.op t.nm t.n ad t.ks.len cc)/\cC w.heap.size (AI V w.heap.size t.op t.nm t.n ad t.ks.len cc) ad t.ks:=by
 have KP:=qR V w.heap.size t.op t.nm t.n ad t.ks.len cc;exact ⟨h.kept KP (fun k hk=>by omega),hk.trans (KP.mono (T:=fun i=>w.heap.size<=i) (fun i hi _=>by omega)) (fun i hi hl=>by omega),(hr.keptS KP (fun k hk=>by omega)).mono (by omega)⟩
theorem AT (ts:List Tk) (rb:Nat) (a:Option Addr) (c p:Nat) (er:Int) (w:World) (h:PR ts rb a c p er w) (hb:¬ er=0) :
 Calls Tryz.prog 136 #[.pointer (some ⟨rb,0,none⟩)] w fun e w'=>∃ ad cc,e=.returned (bI aR.op aR.nm aR.n ad aR.ks.len cc)/\PR ts rb a c p er w'/\aL (· = rb) w w'/\cC w.heap.size w' ad aR.ks:=by
 have q:((er:Int) != 0)=true:=by simpa using hb
 have BA:=(Below.refl w.heap.size w).alloc (Nat.le_refl _) (ndG ⟨#[]⟩ ⟨#[]⟩ 0 none 0 0);have NB:=heap_alloc_new w (ndG ⟨#[]⟩ ⟨#[]⟩ 0 none 0 0);have H1:=aA (h.below BA);have K1:=aA (aE BA (· = rb));have hrb:=h.lt;have HN:=aA NB;generalize hW:w.alloc (ndG ⟨#[]⟩ ⟨#[]⟩ 0 none 0 0)=W at *;have HW:=aA hW;obtain ⟨⟨c0,c1,c2⟩,f0,f1,f2⟩:=cS H1.out.r;obtain ⟨⟨r0,r1,r2,r3⟩,z0,z1,z2,z3⟩:=aO NB;clear h hb NB BA hW;go_enter Tryz.func136,Tryz.ntmps136
 go_upto_region 1 with fail
 rw [HW.out];go_wp2_with fail
 have P:=tF (t:=aR) (ad:=none) (cc:=0) hrb H1.out K1.out (.inl rfl);obtain ⟨⟨y0,y1,y2,y3⟩, -⟩:=aO (bJ HN.out (.string ⟨#[]⟩) (.string ⟨#[]⟩) (.int .i64 0) (.slice none 0 0));exact bodyPost_ret (v:=bI ⟨#[]⟩ ⟨#[]⟩ 0 none 0 0) (by simp [results,Tryz.results136,go_sem,y0,y1,y2,y3]) rfl ⟨none,0,rfl,P⟩
theorem FE (ts:List Tk) (hL:∀ t∈ts,cI t) (rb:Nat) (a:Option Addr) (c p:Nat) (w:World) (h:PR ts rb a c p 0 w) {t:TN} {q:Nat} {er:Int} (ho:ofN (ofL ts p)=(t,q,er)) (hq:q<=ts.length) :
 Calls Tryz.prog 136 #[.pointer (some ⟨rb,0,none⟩)] w fun e w'=>∃ ad cc,e=.returned (bI t.op t.nm t.n ad t.ks.len cc)/\PR ts rb a c q er w'/\aL (· = rb) w w'/\cC w.heap.size w' ad t.ks:=by
 have hrb:=h.lt;have B1:=(Below.refl w.heap.size w).alloc (Nat.le_refl _) (ndG ⟨#[]⟩ ⟨#[]⟩ 0 none 0 0);have NB:=heap_alloc_new w (ndG ⟨#[]⟩ ⟨#[]⟩ 0 none 0 0);have hs0:(w.alloc (ndG ⟨#[]⟩ ⟨#[]⟩ 0 none 0 0)).heap.size=w.heap.size+1:=World.size_alloc _ _;have H1:=h.below B1;generalize hW:w.alloc (ndG ⟨#[]⟩ ⟨#[]⟩ 0 none 0 0)=W at *;have B2:=(Below.refl W.heap.size W).alloc (Nat.le_refl _) (ndG ⟨#[]⟩ ⟨#[]⟩ 0 none 0 0);have NC:=heap_alloc_new W (ndG ⟨#[]⟩ ⟨#[]⟩ 0 none 0 0);have ND:=(B2.block w.heap.size (by omega)).trans NB;have hs1:(W.alloc (ndG ⟨#[]⟩ ⟨#[]⟩ 0 none 0 0)).heap.size=W.heap.size+1:=World.size_alloc _ _;have H2:=H1.below B2;have BB:Below w.heap.size w (W.alloc (ndG ⟨#[]⟩ ⟨#[]⟩ 0 none 0 0)):=B1.trans (B2.mono (by omega))
 have CO:∀ V,gZ V a ts->Calls Tryz.prog 165 #[.slice a ts.length c,.int .i64 p] V fun e w'=>Below V.heap.size V w'/\∃ ad cc,e=.returned (.tuple #[bI t.op t.nm t.n ad t.ks.len cc,.int .i64 (q:Nat),.int .i64 er])/\cC V.heap.size w' ad t.ks:=fun V hV =>
  (Hp ts hL a c p h.n h.p V hV).mono fun e w' hh=>by
   have:=Fx hh.1;rw [ho] at this;exact this
 have C1:=aA (CO W.drew (H1.below (⟨rfl,rfl,rfl,Nat.le_refl _,fun _ _=>rfl⟩:Below W.heap.size W W.drew)).reads);have C2:=aA (CO (W.alloc (ndG ⟨#[]⟩ ⟨#[]⟩ 0 none 0 0)).drew (H2.below (⟨rfl,rfl,rfl,Nat.le_refl _,fun _ _=>rfl⟩:Below _ (W.alloc (ndG ⟨#[]⟩ ⟨#[]⟩ 0 none 0 0)) (W.alloc (ndG ⟨#[]⟩ ⟨#[]⟩ 0 none 0 0)).drew)).reads);have H:=aA H1;have G:=aA H2;have N0:=aA NB;have N1:=aA NC;have N2:=aA ND;have BV:=aA B1;have BW:=aA BB;have hpos:=h.p;have hnn:=h.n;have HW:=aA hW;have HS0:=aA hs0;have HS1:=aA hs1;obtain ⟨⟨c0,c1,c2⟩,f0,f1,f2⟩:=cS H1.r;have d0:=(cS H2.r).1.1;have d1:=(cS H2.r).1.2.1;clear h H1 H2 NB NC ND B1 B2 BB ho hW hs0 hs1 CO hL;go_enter Tryz.func136,Tryz.ntmps136
 go_upto_region 1 with fail
 rw [HW.out];go_wp2_with fail
 go_region_law (first
  | (go_simp
     go_at_call 165
     refine C1.out.mono ?_;rintro e w2 ⟨hb2,ad,cc,rfl,hr⟩;have hb3:Below W.heap.size W w2:=⟨hb2.os,hb2.tape,hb2.output,hb2.size,hb2.block⟩;have H3:=aA (H.out.below hb3);have hz3:=hb3.size;have hzz:=HS0.out;have M0:=aA ((hb3.block w.heap.size (by omega)).trans N0.out);have B3:=aA (BV.out.trans (hb3.mono (by omega)));have ZZ:=aA hz3;have R3:=aA (show cC W.heap.size w2 ad t.ks from hr);clear hb2 hb3 hr hz3 hzz)
  | (go_simp
     go_at_call 165
     refine C2.out.mono ?_;rintro e w2 ⟨hb2,ad,cc,rfl,hr⟩;have hb3:Below (W.alloc (ndG ⟨#[]⟩ ⟨#[]⟩ 0 none 0 0)).heap.size (W.alloc (ndG ⟨#[]⟩ ⟨#[]⟩ 0 none 0 0)) w2:=⟨hb2.os,hb2.tape,hb2.output,hb2.size,hb2.block⟩;have H3:=aA (G.out.below hb3);have hz3:=hb3.size;have hzz:=HS0.out;have hzy:=HS1.out;have M1:=aA ((hb3.block W.heap.size (by omega)).trans N1.out);have M0:=aA ((hb3.block w.heap.size (by omega)).trans N2.out);have B3:=aA (BW.out.trans (hb3.mono (by omega)));have ZZ:=aA hz3;obtain ⟨⟨n0,n1,n2,n3⟩,z0,z1,z2,z3⟩:=aO M1.out;have R3:=aA (show cC (W.alloc (ndG ⟨#[]⟩ ⟨#[]⟩ 0 none 0 0)).heap.size w2 ad t.ks from hr);clear hb2 hb3 hr hz3 hzz hzy)
  | fail)
 all_goals first
  | (skip
     have BA:=(Below.refl w2.heap.size w2).alloc (Nat.le_refl _) (ndG t.op t.nm t.n ad t.ks.len cc);have K3:=aA (H3.out.below BA);have B4:=aA (show Below w.heap.size w (w2.alloc (ndG t.op t.nm t.n ad t.ks.len cc)) from B3.out.alloc (by have:=ZZ.out;have:=HS0.out;omega) _);have N4:=aA (heap_alloc_new w2 (ndG t.op t.nm t.n ad t.ks.len cc));have M4:=aA ((BA.block w.heap.size (by have:=ZZ.out;have:=HS0.out;omega)).trans M0.out);have R4:=aA ((R3.out.kept BA).mono (show w.heap.size+1<=W.heap.size by have:=HS0.out;omega));have hzw:w.heap.size+1<=(w2.alloc (ndG t.op t.nm t.n ad t.ks.len cc)).heap.size:=by rw [World.size_alloc];have:=ZZ.out;have:=HS0.out;omega
     have ZX:=aA hzw;clear BA hzw;generalize hX:w2.alloc (ndG t.op t.nm t.n ad t.ks.len cc)=X at K3 B4 N4 M4 ZX R4;generalize hBX:w2.heap.size=BX at N4;have HX:=aA hX;have HBX:=aA hBX;have LX:=aA (show w.heap.size<BX by have:=ZZ.out;have:=HS0.out;omega);clear hX hBX C1 C2 c0 c1 c2 f0 f1 f2 d0 d1;go_upto_region 4 with fail
     obtain ⟨⟨c0,c1,c2⟩,f0,f1,f2⟩:=cS K3.out.r;have K5:=aA ((K3.out.setP q hq).setE er);have KS:=aA (((aL.refl (· = rb) X).setCell (p:=⟨rb,1,none⟩) (.inl rfl) (.int .i64 (q:Nat))).setCell (p:=⟨rb,2,none⟩) (.inl rfl) (.int .i64 er));have N5:=aA (KS.out.heap N4.out (by have:=LX.out;omega));have M5:=aA (KS.out.heap M4.out (by omega));have R5:=aA (R4.out.keptS KS.out (fun k hk=>by omega));go_upto_region 5 with fail
     obtain ⟨⟨n0,n1,n2,n3⟩, -⟩:=aO N5.out;obtain ⟨⟨r0,r1,r2,r3⟩,z0,z1,z2,z3⟩:=aO M5.out;go_wp2_with fail
     have hk6:=vY B4.out KS.out ZX.out;have P:=tF (cc:=cc) hrb K5.out hk6 R5.out;obtain ⟨⟨y0,y1,y2,y3⟩, -⟩:=aO (bJ M5.out (.string t.op) (.string t.nm) (.int .i64 t.n) (.slice ad t.ks.len cc));exact bodyPost_ret (v:=bI t.op t.nm t.n ad t.ks.len cc) (by simp [results,Tryz.results136,go_sem,y0,y1,y2,y3]) rfl ⟨ad,cc,rfl,P⟩)
  | (skip
     have KP:=qR w2 W.heap.size t.op t.nm t.n ad t.ks.len cc;have K3:=aA (H3.out.kept KP (fun k hk=>by have:=HS0.out;omega));have B4:=aA (B3.out.trans (KP.below (B:=w.heap.size) (fun b hb=>by have:=HS0.out;omega) (by have:=ZZ.out;have:=HS1.out;have:=HS0.out;omega)));have N4:=aA (F9 M1.out t.op t.nm t.n ad t.ks.len cc);have M4:=aA (KP.heap M0.out (by have:=HS0.out;omega));have R4:=aA ((R3.out.keptS KP (fun k hk=>by have:=HS1.out;omega)).mono (show w.heap.size+1<=_ by have:=HS0.out;have:=HS1.out;omega));have hzw:w.heap.size+1<=(AI w2 W.heap.size t.op t.nm t.n ad t.ks.len cc).heap.size:=by have:=KP.size;have:=ZZ.out;have:=HS1.out;have:=HS0.out;omega
     have ZX:=aA hzw;clear KP hzw;obtain ⟨X,hX⟩:∃ X,AI w2 W.heap.size t.op t.nm t.n ad t.ks.len cc=X:=⟨_,rfl⟩;rw [hX] at K3 B4 N4 M4 ZX R4;have hX2:(((w2.setCell ⟨W.heap.size,0,none⟩ (.string t.op)).setCell ⟨W.heap.size,1,none⟩ (.string t.nm)).setCell ⟨W.heap.size,2,none⟩ (.int .i64 t.n)).setCell ⟨W.heap.size,3,none⟩ (.slice ad t.ks.len cc)=X:=hX;have LX:=aA (show w.heap.size<W.heap.size by have:=HS0.out;omega);rw [hX2];clear hX hX2 C1 C2 c0 c1 c2 f0 f1 f2 d0 d1 n0 n1 n2 n3 z0 z1 z2 z3;go_upto_region 4 with fail
     obtain ⟨⟨c0,c1,c2⟩,f0,f1,f2⟩:=cS K3.out.r;have K5:=aA ((K3.out.setP q hq).setE er);have KS:=aA (((aL.refl (· = rb) X).setCell (p:=⟨rb,1,none⟩) (.inl rfl) (.int .i64 (q:Nat))).setCell (p:=⟨rb,2,none⟩) (.inl rfl) (.int .i64 er));have N5:=aA (KS.out.heap N4.out (by have:=LX.out;omega));have M5:=aA (KS.out.heap M4.out (by omega));have R5:=aA (R4.out.keptS KS.out (fun k hk=>by omega));go_upto_region 5 with fail
     obtain ⟨⟨n0,n1,n2,n3⟩, -⟩:=aO N5.out;obtain ⟨⟨r0,r1,r2,r3⟩,z0,z1,z2,z3⟩:=aO M5.out;go_wp2_with fail
     have hk6:=vY B4.out KS.out ZX.out;have P:=tF (cc:=cc) hrb K5.out hk6 R5.out;obtain ⟨⟨y0,y1,y2,y3⟩, -⟩:=aO (bJ M5.out (.string t.op) (.string t.nm) (.int .i64 t.n) (.slice ad t.ks.len cc));exact bodyPost_ret (v:=bI t.op t.nm t.n ad t.ks.len cc) (by simp [results,Tryz.results136,go_sem,y0,y1,y2,y3]) rfl ⟨ad,cc,rfl,P⟩)
theorem nI (ts:List Tk) (hL:∀ t∈ts,cI t) (rb:Nat) (a:Option Addr) (c:Nat) (s:RS) (w:World) (h:PS ts rb a c s w) :
 Calls Tryz.prog 136 #[.pointer (some ⟨rb,0,none⟩)] w fun e w'=>∃ ad cc,e=.returned (bI (bC ts s).1.op (bC ts s).1.nm (bC ts s).1.n ad (bC ts s).1.ks.len cc)/\PS ts rb a c (bC ts s).2 w'/\aL (· = rb) w w'/\cC w.heap.size w' ad (bC ts s).1.ks:=by
 by_cases hb:s.bad=0
 · have hp:s.pos<=ts.length:=by have:=h.p;rw [jW hb] at this;exact this
   obtain ⟨e1,e2,e3⟩:=Gh hb hp
   have hq:(ofN (ofL ts s.pos)).2.1<=ts.length:=by
    cases ho:ofL ts s.pos with
    | ok t q=>exact (tD hp).1 t q ho
    | bad q er=>exact ((tD hp).2 q er ho).1
   have h':PR ts rb a c s.pos 0 w:=by
    have:=h;unfold PS at this;rw [jW hb,hb] at this;exact this
   refine (FE ts hL rb a c s.pos w h' (t:=(bC ts s).1) (q:=atR (bC ts s).2) (er:=(bC ts s).2.bad) (by rw [e1,e2,e3]) (by rw [e2];exact hq)).mono fun e w' hh=>hh
 · rw [gH hb]
   exact AT ts rb a c (atR s) s.bad w h hb
end
end Go.Proofs.YtapcjnoaofmmiaaGreatDoor
namespace Go
section
variable {P:Program} {ops:Array Oper} {Q:Exit->Act->World->Prop} {md:Region.Mode} {S:World->Prop}
theorem aB {i:Nat} {oi:Oper} {d:Option Tmp} {v:Value} {fuel:Nat} {listed:Array Bool} {a:Act} {w:World} (hi:ops[i]? = some oi) (hd:oi.dst=d)
 (hs:Region.noSelect ops=true) (hf:Region.free md ops listed i=true) (hr:(Region.ready md ops listed).contains i=true)
 (hQ:∀ c a w,Q (.panic c) (a.put d v) w->Q (.panic c) a w) (hy:YieldsIf P ops S oi v a) (hS:S w)
 (h:wpAnyH P md ops Q S fuel (listed.setIfInBounds i true) (a.put d v) w):wpAnyH P md ops Q S (fuel+1) listed a w:=by
 subst hd;exact wpAnyH_take hi hs hf hr hQ hy hS h
end
end Go
namespace Go.Proofs.YtapcjnoaofmmiaaGreatDoor
section
open Go.RowKit
theorem rM {c:UInt8} {r:List UInt8} (h:cH c=true\/aZ c=true):aS ⟨(c::r).toArray⟩ 0 0=none:=by
 have hc:¬ c=61/\¬ c=33/\¬ c=60/\¬ c=62:=by
  rcases h with h | h
  · unfold cH at h
    simp only [Bool.and_eq_true,decide_eq_true_eq] at h;refine ⟨?_,?_,?_,?_⟩ <;> (rintro rfl;revert h;decide)
  · unfold aZ at h
    simp only [Bool.and_eq_true,decide_eq_true_eq] at h;refine ⟨?_,?_,?_,?_⟩ <;> (rintro rfl;revert h;decide)
 have hx:∀ (y:UInt8) (m:List UInt8),c ≠ y->¬ (⟨(c::r).toArray⟩:ByteArray)=⟨(y::m).toArray⟩:=fun y m hn e=>by
  have:=congrArg (fun z=>z.data.toList) e;simp at this;exact hn this.1
 unfold aS;rw [if_neg (hx 61 [] hc.1),if_neg (hx 33 [61] hc.2.1),if_neg (hx 60 [] hc.2.2.1),if_neg (hx 60 [61] hc.2.2.1),if_neg (hx 62 [] hc.2.2.2),if_neg (hx 62 [61] hc.2.2.2)]
def Au (t:Tk):Prop:=(aS ⟨t.text.toArray⟩ 0 0).isSome=true->t.kind=3
theorem Gf {l:List UInt8} {n:Nat} {k v:Int} (p:Nat) (hn:1<=n) (h:cQ l=.tok k n v):Au ⟨k,l.take n,v,p⟩:=by
 intro ho;cases l with
 | nil=>cases h
 | cons c r =>
   obtain ⟨m,rfl⟩:∃ m,n=m+1:=⟨n-1,by omega⟩;simp only at ho |-
   rw [List.take_succ_cons] at ho;simp only [cQ] at h;split at h
   · rename_i hc
     rw [rM (.inl hc)] at ho;cases ho
   · split at h
     · rename_i hd
       rw [rM (.inr hd)] at ho;cases ho
     · unfold kH at h
       split at h
       · cases h
       · injection h with h1
         exact h1.symm
theorem Jo (l:List UInt8) (p:Nat):∀ ts,cZ l p=.ok ts->∀ t∈ts,Au t:=by
 refine lO (C:=fun l p=>∀ ts,cZ l p=.ok ts->∀ t∈ts,Au t) ?_ ?_ ?_ ?_ l.length l p (Nat.le_refl _)
 · intro p ts h
   rw [iB] at h;cases h;intro t ht;cases ht
 · intro r p ih ts h
   rw [cN] at h;exact ih ts h
 · intro l p e h1 h0 hf ts h
   rw [pP h0 h1 hf] at h;cases h
 · intro l p k n v h1 h0 hf hn hl ih ts h
   rw [gF h1 hn hf] at h;obtain ⟨ts',h',rfl⟩:=uL h;intro t ht;rcases List.mem_cons.1 ht with rfl | ht
   · exact Gf p hn hf
   · exact ih ts' h' t ht
theorem H8 {l:List UInt8} {ts:List Tk} (h:gR l=.ok ts):∀ t∈ts,Au t:=by
 unfold gR at h;split at h
 · cases h
 · exact Jo _ _ _ h
def opS (L:List Tk) (s:RS):RS:=goR (bQ ((bE L (atR s)).kind == 3 && (aS ⟨(bE L (atR s)).text.toArray⟩ 0 0).isSome) 2 s)
theorem IE {L:List Tk} (hO:∀ t∈L,Au t) (s:RS):(bC L (opS L (bC L s).2)).2=(dF L s).2 /\
 ((dF L s).2.bad=0->(dF L s).1=⟨⟨(bE L (atR (bC L s).2)).text.toArray⟩,(bC L s).1,(bC L (opS L (bC L s).2)).1⟩):=by
 unfold dF;obtain ⟨t,u,hu⟩:∃ t u,bC L s=(t,u):=⟨_,_,rfl⟩;rw [hu];simp only;by_cases hb:u.bad=0
 · rw [if_pos hb]
   have hop:opS L u=if opB L u.pos=true then bZ u else bY 2 u:=by
    unfold opS opB bE;rw [jW hb];cases hp:L[u.pos]? with
    | none =>
      rw [if_neg (by decide)];show goR (bQ false 2 u)=_;rw [gD,fQ (cV (by decide) hb)]
    | some t =>
      simp only [Option.getD_some];by_cases ho:(aS ⟨t.text.toArray⟩ 0 0).isSome=true
      · have hk:(t.kind == 3)=true:=by rw [hO t (List.mem_of_getElem? hp) ho];rfl
        rw [if_pos ho,hk,Bool.true_and,ho,jO,Ad hb]
      · have ho':(aS ⟨t.text.toArray⟩ 0 0).isSome=false:=by simpa using ho
        rw [if_neg ho,ho',Bool.and_false,gD,fQ (cV (by decide) hb)]
   rw [hop];cases ho:opB L u.pos with
   | true =>
     rw [if_pos rfl,if_pos rfl];refine ⟨rfl,fun _=>?_⟩;rw [jW hb]
     have:eO L u.pos=(bE L u.pos).text:=by
      unfold eO bE;cases L[u.pos]? <;> rfl
     rw [this]
   | false =>
     rw [if_neg (by decide),if_neg (by decide),gH (cV (by decide) hb)];exact ⟨rfl,fun h=>absurd h (cV (by decide) hb)⟩
 · have e:opS L u=u:=by
    unfold opS;rw [gE hb,fQ hb]
   rw [if_neg hb,e,gH hb];exact ⟨rfl,fun h=>absurd h hb⟩
abbrev cdP (d:CD) (a1:Option Addr) (c1:Nat) (a2:Option Addr) (c2:Nat):Obj:=.cells #[.string d.op,.string d.a.op,.string d.a.nm,.int .i64 d.a.n,.slice a1 d.a.ks.len c1,.string d.b.op,.string d.b.nm,.int .i64 d.b.n,.slice a2 d.b.ks.len c2] 98
abbrev JP (W:World) (B:Nat) (d:CD) (a1:Option Addr) (c1:Nat) (a2:Option Addr) (c2:Nat):World:=((((((((W.setCell ⟨B,0,none⟩ (.string d.op)).setCell ⟨B,1,none⟩ (.string d.a.op)).setCell ⟨B,2,none⟩ (.string d.a.nm)).setCell ⟨B,3,none⟩ (.int .i64 d.a.n)).setCell ⟨B,4,none⟩ (.slice a1 d.a.ks.len c1)).setCell ⟨B,5,none⟩ (.string d.b.op)).setCell ⟨B,6,none⟩ (.string d.b.nm)).setCell ⟨B,7,none⟩ (.int .i64 d.b.n)).setCell ⟨B,8,none⟩ (.slice a2 d.b.ks.len c2)
theorem DV (W:World) (B:Nat) (d:CD) (a1:Option Addr) (c1:Nat) (a2:Option Addr) (c2:Nat):aL (· = B) W (JP W B d a1 c1 a2 c2) :=
 ((((((((((aL.refl (· = B) W).setCell (p:=⟨B,0,none⟩) (.inl rfl) _).setCell (p:=⟨B,1,none⟩) (.inl rfl) _).setCell (p:=⟨B,2,none⟩) (.inl rfl) _).setCell (p:=⟨B,3,none⟩) (.inl rfl) _).setCell (p:=⟨B,4,none⟩) (.inl rfl) _).setCell (p:=⟨B,5,none⟩) (.inl rfl) _).setCell (p:=⟨B,6,none⟩) (.inl rfl) _).setCell (p:=⟨B,7,none⟩) (.inl rfl) _).setCell (p:=⟨B,8,none⟩) (.inl rfl) _)
theorem lC {W:World} {B:Nat} {l:List Value} {t:TypeId} (h:W.heap[B]? = some (.cells l.toArray t (0,0))) (i:Nat) (v:Value):(W.setCell ⟨B,i,none⟩ v).heap[B]? = some (.cells (l.set i v).toArray t (0,0)):=by
 have:=heap_setCell_same W B i _ t v h;simpa using this
theorem FF {W:World} {B:Nat} {v0 v1 v2 v3 v4 v5 v6 v7 v8:Value} {t:TypeId} (h:W.heap[B]? = some (.cells #[v0,v1,v2,v3,v4,v5,v6,v7,v8] t (0,0))) (d:CD) (a1:Option Addr) (c1:Nat) (a2:Option Addr) (c2:Nat) :
 (JP W B d a1 c1 a2 c2).heap[B]? = some (.cells #[.string d.op,.string d.a.op,.string d.a.nm,.int .i64 d.a.n,.slice a1 d.a.ks.len c1,.string d.b.op,.string d.b.nm,.int .i64 d.b.n,.slice a2 d.b.ks.len c2] t (0,0)) :=
 lC (lC (lC (lC (lC (lC (lC (lC (lC (l:=[v0,v1,v2,v3,v4,v5,v6,v7,v8]) h 0 _) 1 _) 2 _) 3 _) 4 _) 5 _) 6 _) 7 _) 8 _
theorem Gr (ts:List Tk) (hL:∀ t∈ts,cI t) (rb:Nat) (a:Option Addr) (c:Nat) (s:RS) (w:World) (h:PS ts rb a c s w) {t1 t2:TN} {s1 s4:RS} {X:ByteArray}
 (h1:bC ts s=(t1,s1)) (h2:bC ts (opS ts s1)=(t2,s4)) (hX:X=⟨(bE ts (atR s1)).text.toArray⟩) :
 Calls Tryz.prog 137 #[.pointer (some ⟨rb,0,none⟩)] w fun e w'=>∃ ad1 cc1 ad2 cc2,e=.returned (.agg #[.string X,.string t1.op,.string t1.nm,.int .i64 t1.n,.slice ad1 t1.ks.len cc1,.string t2.op,.string t2.nm,.int .i64 t2.n,.slice ad2 t2.ks.len cc2]) /\
  PS ts rb a c s4 w'/\aL (· = rb) w w'/\cC w.heap.size w' ad1 t1.ks/\cC w.heap.size w' ad2 t2.ks:=by
 have hrb:=h.lt;have B1:=(Below.refl w.heap.size w).alloc (Nat.le_refl _) (cdP ⟨⟨#[]⟩,aR,aR⟩ none 0 none 0);have NB:=heap_alloc_new w (cdP ⟨⟨#[]⟩,aR,aR⟩ none 0 none 0);have hs0:(w.alloc (cdP ⟨⟨#[]⟩,aR,aR⟩ none 0 none 0)).heap.size=w.heap.size+1:=World.size_alloc _ _;have H1:=aA (h.below B1);have K1:=aA (aE B1 (· = rb));generalize hW:w.alloc (cdP ⟨⟨#[]⟩,aR,aR⟩ none 0 none 0)=W at *;have HW:=aA hW;have HNR:=aA NB;have CE1:=aA (nI ts hL rb a c s W H1.out);rw [h1] at CE1;have HC2:=aA h2;have HX:=aA hX;clear h B1 NB hW h1 h2 hX;go_enter Tryz.func137,Tryz.ntmps137
 go_upto_region 1 with fail
 rw [show w.alloc (.cells #[.string ⟨#[]⟩,.string ⟨#[]⟩,.string ⟨#[]⟩,.int .i64 0,.slice none 0 0,.string ⟨#[]⟩,.string ⟨#[]⟩,.int .i64 0,.slice none 0 0] 98)=W from HW.out];go_wp2_with fail
 refine CE1.out.mono ?_;rintro e w1 ⟨ad1,cc1,rfl,P2,k2,r2⟩;have BA:=(Below.refl w1.heap.size w1).alloc (Nat.le_refl _) (ndG t1.op t1.nm t1.n ad1 t1.ks.len cc1);have NA:=heap_alloc_new w1 (ndG t1.op t1.nm t1.n ad1 t1.ks.len cc1);have hs1:(w1.alloc (ndG t1.op t1.nm t1.n ad1 t1.ks.len cc1)).heap.size=w1.heap.size+1:=World.size_alloc _ _;have hz1:=k2.size;have P3:=aA (P2.below BA);have K3:=aA ((K1.out.trans k2 (fun i hi _=>hi)).trans (aE BA (· = rb)) (fun i hi _=>hi));have NR3:=aA ((BA.block w.heap.size (by omega)).trans (k2.heap HNR.out (by omega)));have R3:=aA ((show cC (w.heap.size+1) w1 ad1 t1.ks by rw [<- hs0];exact r2).kept BA);clear P2 k2 r2 BA CE1 HNR K1 H1;go_upto_region 2 with fail
 rw [show w1.alloc (.cells #[.string t1.op,.string t1.nm,.int .i64 t1.n,.slice ad1 t1.ks.len cc1] 25)=w1.alloc (ndG t1.op t1.nm t1.n ad1 t1.ks.len cc1) from rfl];generalize w1.alloc (ndG t1.op t1.nm t1.n ad1 t1.ks.len cc1)=W1 at *;generalize w1.heap.size=B at *;have hBw:w.heap.size<B:=by omega
 have HNB:=aA NA;have CN:=kR ts rb a c (atR s1) s1.bad W1 P3.out;have TL:(bE ts (atR s1)).kind=3->atR s1<ts.length:=fun hk=>wS (by rw [hk];decide)
 have hX:=HX.out;have h2:=HC2.out;unfold opS at h2;obtain ⟨t,ht⟩:∃ t,bE ts (atR s1)=t:=⟨_,rfl⟩;rw [ht] at CN TL hX h2;rw [oX, <- hX] at CN;rw [<- hX] at h2;obtain ⟨k,s',nn,pp⟩:=t;simp only at CN TL h2;have HN:=aA CN;have HT:=aA TL;have HC:=aA h2;clear CN TL h2 hX ht HX HC2 NA hz1;go_wp2_with fail
 refine HN.out.mono ?_;rintro e w2 ⟨rfl,hb⟩;have BA:=(Below.refl w2.heap.size w2).alloc (Nat.le_refl _) (tkO k X nn pp);have NA:=heap_alloc_new w2 (tkO k X nn pp);have hs2:(w2.alloc (tkO k X nn pp)).heap.size=w2.heap.size+1:=World.size_alloc _ _;have hz2:=hb.size;have P4:=aA ((P3.out.below hb).below BA);have K4:=aA ((K3.out.trans (aE hb (· = rb)) (fun i hi _=>hi)).trans (aE BA (· = rb)) (fun i hi _=>hi));have NR4:=aA ((BA.block w.heap.size (by omega)).trans ((hb.block w.heap.size (by omega)).trans NR3.out));have NB4:=aA ((BA.block B (by omega)).trans ((hb.block B (by omega)).trans HNB.out));have R4:=aA ((R3.out.kept hb).kept BA);clear hb BA P3 K3 NR3 HNB R3 HN;go_upto_region 3 with fail
 generalize w2.alloc (tkO k X nn pp)=W2 at *;generalize w2.heap.size=T at *;have hTB:B<T:=by omega
 obtain ⟨⟨x0,x1,x2,x3⟩, -⟩:=aO NA;have HNT:=aA NA;clear NA hz2;have CM:=aA (fun so=>fV ts rb a c s1 so 2 (by decide) W2 P4.out);obtain ⟨z,hz⟩:∃ z,((k == 3) && (aS X 0 0).isSome)=z:=⟨_,rfl⟩;rw [hz] at HC;have HZ:=aA hz
 have CS:=aA (fun V (hV:PS ts rb a c (bQ z 2 s1) V)=>i7 ts rb a c (bQ z 2 s1) (fun hh=>by
  rw [iH];have h2:=j2 (by decide) hh;have h3:=HZ.out;rw [h2.1,Bool.and_eq_true] at h3;have:=HT.out (by simpa using h3.1);rw [jW h2.2] at this;exact this) V hV)
 clear hz;go_cut [] (fun wc=>Hid (PS ts rb a c (bQ z 2 s1) wc)/\Hid (aL (· = rb) W2 wc))
 case first =>
  cases hk3:(k == 3) with
  | true =>
    have q:(k == 3)=true:=hk3;have MO:=aA (vN X W2);have hz:(aS X 0 0).isSome=z:=by rw [<- HZ.out,hk3,Bool.true_and]
    rw [hz] at MO;clear hk3 hz;go_wp2_with fail
    refine MO.out.mono ?_;rintro e w3 ⟨rfl,rfl⟩;go_wp2_with fail
    refine (CM.out z).mono ?_;rintro e w4 ⟨rfl,P5,k5⟩;have P6:=aA P5;have K6:=aA k5;clear P5 k5;go_wp2_with fail
    go_meet;case rel=>exact ⟨P6,K6⟩
  | false =>
    have q:(k == 3)=false:=hk3;have hz:false=z:=by rw [<- HZ.out,hk3,Bool.false_and]
    subst hz;clear hk3;go_wp2_with fail
    refine (CM.out false).mono ?_;rintro e w4 ⟨rfl,P5,k5⟩;have P6:=aA P5;have K6:=aA k5;clear P5 k5;go_wp2_with fail
    go_meet;case rel=>exact ⟨P6,K6⟩
 case rest =>
  obtain ⟨P5,K5⟩:=hcut;clear x0 x1 x2 x3 CM;go_wp2_with fail
  refine (CS.out _ P5.out).mono ?_;rintro e w4 ⟨rfl,P6,k6⟩;have hz5:=Nat.le_trans K5.out.size k6.size;have PD:=aA (show PS ts rb a c (goR (bQ z 2 s1)) w4.drew from P6.drewN 1);have KD:=aA (show aL (· = rb) w w4.drew from ((K4.out.trans K5.out (fun i hi _=>hi)).trans k6 (fun i hi _=>hi)).drewN 1);have NT5:=k6.heap (K5.out.heap HNT.out (by omega)) (by omega);have NB5:=k6.heap (K5.out.heap NB4.out (by omega)) (by omega);have NR5:=k6.heap (K5.out.heap NR4.out (by omega)) (by omega);have NTD:=aA (show w4.drew.heap[T]? = _ from NT5);have NBD:=aA (show w4.drew.heap[B]? = _ from NB5);have NRD:=aA (show w4.drew.heap[w.heap.size]? = _ from NR5);have RD:=aA (show cC (w.heap.size+1) w4.drew ad1 t1.ks from (R4.out.keptS K5.out (fun k hk=>by omega)).keptS (k6.drewN 1) (fun k hk=>by omega));have HZ5:=aA (show w.heap.size+1<=w4.drew.heap.size by show _<=w4.heap.size;omega)
  have CE:=aA (fun V (hV:PS ts rb a c (goR (bQ z 2 s1)) V)=>by
   have:=nI ts hL rb a c _ V hV;rw [HC.out] at this;exact this)
  obtain ⟨⟨-,x1, -, -⟩, -⟩:=aO NT5;obtain ⟨⟨y0,y1,y2,y3⟩, -⟩:=aO NB5;clear P6 k6 NT5 NB5 NR5 P5 K5 CS P4 K4 NR4 NB4 R4 HNT hz5;go_upto_region 5 with fail
  refine wp_region_held_drew (S:=fun V=>V.cell? ⟨T,1,none⟩=some (.string X)/\V.cell? ⟨B,0,none⟩=some (.string t1.op)/\V.cell? ⟨B,1,none⟩=some (.string t1.nm)/\V.cell? ⟨B,2,none⟩=some (.int .i64 t1.n)/\V.cell? ⟨B,3,none⟩=some (.slice ad1 t1.ks.len cc1)) (by kernel_rfl) ⟨x1,y0,y1,y2,y3⟩ (fun hHeld=>?_);refine aB (i:=0) (d:=some 21) (v:=.pointer (some ⟨T,1,none⟩)) rfl rfl (by kernel_rfl) (by kernel_rfl) (by kernel_rfl) (fun _ _ _ h=>h) (Or.inl ⟨by rfl,by rintro w ⟨x1,y0,y1,y2,y3⟩;go_simp⟩) hHeld ?_;simp only [Act.put,Kk,Kl,Km];refine aB (i:=1) (d:=some 22) (v:=.string X) rfl rfl (by kernel_rfl) (by kernel_rfl) (by kernel_rfl) (fun _ _ _ h=>h) (Or.inl ⟨by rfl,by rintro w ⟨x1,y0,y1,y2,y3⟩;go_simp⟩) hHeld ?_;simp only [Act.put,Kk,Kl,Km];refine aB (i:=2) (d:=some 23) (v:=bI t1.op t1.nm t1.n ad1 t1.ks.len cc1) rfl rfl (by kernel_rfl) (by kernel_rfl) (by kernel_rfl) (fun _ _ _ h=>h) (Or.inl ⟨by rfl,by rintro w ⟨x1,y0,y1,y2,y3⟩;go_simp⟩) hHeld ?_;simp only [Act.put,Kk,Kl,Km];refine aB (i:=3) (d:=some 24) (v:=.pointer (some ⟨rb,0,none⟩)) rfl rfl (by kernel_rfl) (by kernel_rfl) (by kernel_rfl) (fun _ _ _ h=>h) (Or.inl ⟨by rfl,by rintro w ⟨x1,y0,y1,y2,y3⟩;go_simp⟩) hHeld ?_;simp only [Act.put,Kk,Kl,Km];refine wpAnyH_ready (rs:=[4]) (by kernel_rfl) (by simp) ?_;refine AllReadyH.cons (o:=_) rfl (fun K hK=>?_) AllReadyH.nil;go_simp
  refine (CE.out _ PD.out).mono ?_;rintro e w5 ⟨ad2,cc2,rfl,P6,k6,r6⟩;have NT6:=k6.heap NTD.out (by omega);have NB6:=k6.heap NBD.out (by omega);have NR6:=k6.heap NRD.out (by omega);have K6:=KD.out.trans k6 (fun i hi _=>hi);have R16:=RD.out.keptS k6 (fun k hk=>by omega)
  have cc:w5.cell? ⟨T,1,none⟩=some (.string X)/\w5.cell? ⟨B,0,none⟩=some (.string t1.op)/\w5.cell? ⟨B,1,none⟩=some (.string t1.nm)/\w5.cell? ⟨B,2,none⟩=some (.int .i64 t1.n)/\w5.cell? ⟨B,3,none⟩=some (.slice ad1 t1.ks.len cc1):=by
   obtain ⟨⟨-,u1, -, -⟩, -⟩:=aO NT6;obtain ⟨⟨v0,v1,v2,v3⟩, -⟩:=aO NB6;exact ⟨u1,v0,v1,v2,v3⟩
  refine hK.out _ _ cc (fun hHeld2=>?_);try simp only [Act.put,Kk,Kl,Km]
  clear hK K;refine aB (i:=5) (d:=some 26) (v:=.agg #[.string X,.string t1.op,.string t1.nm,.int .i64 t1.n,.slice ad1 t1.ks.len cc1,.string t2.op,.string t2.nm,.int .i64 t2.n,.slice ad2 t2.ks.len cc2]) rfl rfl (by kernel_rfl) (by kernel_rfl) (by kernel_rfl) (fun _ _ _ h=>h) (Or.inl ⟨by rfl,by rintro w ⟨x1,y0,y1,y2,y3⟩;go_simp⟩) hHeld2 ?_;simp only [Act.put,Kk,Kl,Km];have KP:=DV w5 w.heap.size ⟨X,t1,t2⟩ ad1 cc1 ad2 cc2;have NR7:=FF NR6 ⟨X,t1,t2⟩ ad1 cc1 ad2 cc2;obtain ⟨z0,z1,z2,z3,z4,z5,z6,z7,z8⟩:=JV NR6;obtain ⟨o0,o1,o2,o3,o4,o5,o6,o7,o8⟩:=kQ NR6;have CC:=And.intro (KP.cell hHeld2.1 (by show ¬ T=_;omega)) (And.intro (KP.cell hHeld2.2.1 (by show ¬ B=_;omega)) (And.intro (KP.cell hHeld2.2.2.1 (by show ¬ B=_;omega)) (And.intro (KP.cell hHeld2.2.2.2.1 (by show ¬ B=_;omega)) (KP.cell hHeld2.2.2.2.2 (by show ¬ B=_;omega)))));refine wpAnyH_ready (rs:=[6]) (by kernel_rfl) (by simp) ?_;refine AllReadyH.cons (o:=_) rfl (fun K hK=>?_) AllReadyH.nil;go_simp
  refine hK.out _ _ CC (fun hHeld3=>?_);try simp only [Act.put,Kk,Kl,Km]
  clear hK K;refine wpAnyH_done (by kernel_rfl) ?_ _;have FIN:=aA (And.intro (P6.kept KP (fun k hk=>by omega)) (And.intro (K6.trans (KP.mono (T:=fun i=>w.heap.size<=i) (fun i hi _=>by omega)) (fun i hi hl=>by omega)) (And.intro ((R16.keptS KP (fun k hk=>by omega)).mono (show w.heap.size<=w.heap.size+1 by omega)) ((r6.keptS KP (fun k hk=>by have:=HZ5.out;omega)).mono (show w.heap.size<=_ by have:=HZ5.out;omega)))));obtain ⟨d0,d1,d2,d3,d4,d5,d6,d7,d8⟩:=kQ NR7;clear hHeld hHeld2 hHeld3 CC cc KP NT6 NB6 NR6 NR7 K6 R16 P6 k6 r6 z0 z1 z2 z3 z4 z5 z6 z7 z8 o0 o1 o2 o3 o4 o5 o6 o7 o8;go_wp2
  exact bodyPost_ret (v:=.agg #[.string X,.string t1.op,.string t1.nm,.int .i64 t1.n,.slice ad1 t1.ks.len cc1,.string t2.op,.string t2.nm,.int .i64 t2.n,.slice ad2 t2.ks.len cc2]) (by simp [results,Tryz.results137,go_sem,d0,d1,d2,d3,d4,d5,d6,d7,d8]) rfl ⟨ad1,cc1,ad2,⟨cc2,rfl⟩,FIN.out⟩
theorem Ew (ts:List Tk) (hL:∀ t∈ts,cI t) (hO:∀ t∈ts,Au t) (rb:Nat) (a:Option Addr) (c:Nat) (s:RS) (w:World) (h:PS ts rb a c s w) :
 Calls Tryz.prog 137 #[.pointer (some ⟨rb,0,none⟩)] w fun e w'=>∃ (d:CD) (ad1:Option Addr) (cc1:Nat) (ad2:Option Addr) (cc2:Nat),e=.returned (.agg #[.string d.op,.string d.a.op,.string d.a.nm,.int .i64 d.a.n,.slice ad1 d.a.ks.len cc1,.string d.b.op,.string d.b.nm,.int .i64 d.b.n,.slice ad2 d.b.ks.len cc2]) /\
  PS ts rb a c (dF ts s).2 w'/\aL (· = rb) w w'/\cC w.heap.size w' ad1 d.a.ks/\cC w.heap.size w' ad2 d.b.ks/\((dF ts s).2.bad=0->(dF ts s).1=d):=by
 obtain ⟨h1,h2⟩:=IE hO s;refine (Gr ts hL rb a c s w h (t1:=(bC ts s).1) (s1:=(bC ts s).2) (t2:=(bC ts (opS ts (bC ts s).2)).1) (s4:=(bC ts (opS ts (bC ts s).2)).2) rfl rfl rfl).mono ?_;rintro e w' ⟨ad1,cc1,ad2,cc2,he,hp,hk,r1,r2⟩;rw [h1] at hp;exact ⟨⟨_,_,_⟩,ad1,cc1,ad2,cc2,he,hp,hk,r1,r2,h2⟩
structure QC where
 a1:Option Addr
 c1:Nat
 a2:Option Addr
 c2:Nat
abbrev eT (d:CD) (q:QC):List Value:=[.string d.op,.string d.a.op,.string d.a.nm,.int .i64 d.a.n,.slice q.a1 d.a.ks.len q.c1,.string d.b.op,.string d.b.nm,.int .i64 d.b.n,.slice q.a2 d.b.ks.len q.c2]
def cdL:List CD->List QC->List Value
 | d::r,q::s=>eT d q++cdL r s
 | _,_=>[]
def lZ (G:Nat->Prop) (w:World) (l:List CD) (qs:List QC):Prop:=∀ (j:Nat) (d:CD) (q:QC),l[j]? = some d->qs[j]? = some q->aI G w q.a1 d.a.ks/\aI G w q.a2 d.b.ks
theorem qA:∀ (l:List CD) (q:List QC),∀ u∈cdL l q,u.oneCell'=true
 | [],_,u,h=>by simp [cdL] at h
 | _::_,[],u,h=>by simp [cdL] at h
 | d :: r, p :: s, u, h => by
   rw [cdL] at h;rcases List.mem_append.1 h with h | h
   · simp only [eT,List.mem_cons,List.not_mem_nil,or_false] at h
     rcases h with rfl | rfl | rfl | rfl | rfl | rfl | rfl | rfl | rfl <;> rfl
   · exact qA r s u h
theorem xZ:∀ (l m:List CD) (q p:List QC),q.length=l.length->cdL (l++m) (q++p)=cdL l q++cdL m p
 | [],m,[],p,_=>rfl
 | [],_,_::_,_,h=>by simp at h
 | _::_,_,[],_,h=>by simp at h
 | d::r,m,q::s,p,h=>by rw [List.cons_append,List.cons_append,cdL,cdL,xZ r m s p (by simpa using h),List.append_assoc]
theorem BE:∀ (l:List CD) (q:List QC) {k:Nat} {d:CD} (_:q.length=l.length) (_:l[k]? = some d),∃ p,q[k]? = some p/\∀ i u,(eT d p)[i]? = some u->(cdL l q)[k*9+i]? = some u
 | [],_,k,d,_,hk=>by simp at hk
 | _::_,[],k,d,h,_=>by simp at h
 | d :: r, p :: s, 0, d', h, hk => by
   cases hk;refine ⟨p,rfl,fun i u hu=>?_⟩
   have hi:i<9:=by
    have:=(List.getElem?_eq_some_iff.1 hu).1;exact this
   rw [cdL,Nat.zero_mul,Nat.zero_add,List.getElem?_append_left (by simpa [eT] using hi)];exact hu
 | d :: r, p :: s, k + 1, d', h, hk => by
   obtain ⟨p',h1,h2⟩:=BE r s (k:=k) (d:=d') (by simpa using h) (by simpa using hk);refine ⟨p',by simpa using h1,fun i u hu=>?_⟩;rw [cdL,List.getElem?_append_right (by simp [eT];omega)];have:(k+1)*9+i-(eT d p).length=k*9+i:=by simp [eT];omega
   rw [this];exact h2 i u hu
theorem lZ.keptS {S G:Nat->Prop} {w w':World} {l:List CD} {qs:List QC} (h:lZ G w l qs) (hk:aL S w w') (hS:∀ k,S k->¬ G k):lZ G w' l qs:=fun j d q h1 h2=>⟨(h j d q h1 h2).1.keptS hk hS,(h j d q h1 h2).2.keptS hk hS⟩
theorem lZ.imp {G H:Nat->Prop} {w:World} {l:List CD} {qs:List QC} (h:lZ G w l qs) (hG:∀ b,b<w.heap.size->G b->H b):lZ H w l qs:=fun j d q h1 h2=>⟨(h j d q h1 h2).1.imp hG,(h j d q h1 h2).2.imp hG⟩
theorem lZ.snoc {G:Nat->Prop} {w:World} {l:List CD} {qs:List QC} (h:lZ G w l qs) (hl:qs.length=l.length) {d:CD} {q:QC} (h1:aI G w q.a1 d.a.ks) (h2:aI G w q.a2 d.b.ks):lZ G w (l++[d]) (qs++[q]):=fun j d' q' e1 e2=>by
 rcases Nat.lt_or_ge j l.length with hj | hj
 · rw [List.getElem?_append_left hj] at e1
   rw [List.getElem?_append_left (by omega)] at e2;exact h j d' q' e1 e2
 · rw [List.getElem?_append_right hj] at e1
   rw [List.getElem?_append_right (by omega)] at e2;rw [hl] at e2;cases hm:j-l.length with
   | zero =>
     rw [hm] at e1 e2;cases e1;cases e2;exact ⟨h1,h2⟩
   | succ m=>rw [hm] at e1;simp at e1
theorem sW {G:Nat->Prop} {w:World} {B:Nat} {e:TypeId} {a:Option Addr} {c:Nat} {l:List CD} {qs:List QC} (ho:w.ownsRow B e 9 (.slice a l.length c) l.length (cdL l qs)) (hl:qs.length=l.length) (hk:lZ G w l qs) (hG:∀ b,a=some ⟨b,0,none⟩->G b):eN G w a l:=by
 by_cases hn:l=[]
 · exact .inl hn
 right
 have h0:∃ d,l[0]? = some d:=by
  cases l with
  | nil=>exact absurd rfl hn
  | cons d r=>exact ⟨d,rfl⟩
 obtain ⟨d0,hd0⟩:=h0;obtain ⟨p0, -,hp0⟩:=BE l qs hl hd0;obtain ⟨g,hg,c0⟩:=kO ho (hp0 0 _ rfl);have hlt:g<w.heap.size:=by have:=World.block_lt_of_cell? w _ c0;simpa using this
 refine ⟨g,0,hg,hG g hg,hlt,fun j d hj=>?_⟩;obtain ⟨p,hp,hc⟩:=BE l qs hl hj;obtain ⟨k1,k2⟩:=hk j d p hj hp
 have get:∀ i u,(eT d p)[i]? = some u->w.cell? ⟨g,0+j*9+i,none⟩=some u:=fun i u hu=>by
  obtain ⟨g',hg',c⟩:=kO ho (hc i u hu);rw [hg] at hg';cases hg';rw [Nat.zero_add];exact c
 exact ⟨p.a1,p.c1,p.a2,p.c2,⟨get 0 _ rfl,get 1 _ rfl,get 2 _ rfl,get 3 _ rfl,get 4 _ rfl,get 5 _ rfl,get 6 _ rfl,get 7 _ rfl,get 8 _ rfl⟩,k1,k2⟩
theorem qV {L:List Tk} {s:RS} (h:¬ s.bad=0):(dF L s).2=s:=by
 unfold dF;rw [gH h];simp only;rw [if_neg h]
def l7 (L:List Tk) (n:Nat) (s:RS):RS:=goR (bQ (decide (n<4)) 4 (bQ (eQ L (if n=0 then fL else l8) s.pos) 2 s))
theorem Br {L:List Tk} {acc:List CD} {s:RS} {R:Aw} (hb:s.bad=0) (hlt:s.pos<L.length) (hk:acc.length<=4) (h:d9 L (6-acc.length) acc s=R) {d:CD}
 (hd:(dF L (l7 L acc.length s)).2.bad=0->(dF L (l7 L acc.length s)).1=d):d9 L (6-(acc++[d]).length) (acc++[d]) (dF L (l7 L acc.length s)).2=R:=by
 obtain ⟨f,hf⟩:∃ f,6-acc.length=f+1+1:=⟨4-acc.length,by omega⟩;have hf2:6-(acc++[d]).length=f+1:=by rw [List.length_append,List.length_singleton];omega
 have e0:d9 L (f+1+1) acc s=(if eQ L (if acc.length=0 then fL else l8) s.pos=false then .bad s.pos 2 else if 4<=acc.length then .bad s.pos 4 else d9 L (f+1) (acc++[(dF L (bZ s)).1]) (dF L (bZ s)).2):=by
  rw [d9,if_neg (not_not_intro hb),if_neg (show ¬ L.length<=s.pos by omega)]
 rw [hf,e0] at h;rw [hf2, <- h];unfold l7 at hd |-
 cases hw:eQ L (if acc.length=0 then fL else l8) s.pos with
 | false =>
   rw [if_pos rfl]
   have e:goR (bQ (decide (acc.length<4)) 4 (bQ false 2 s))=bY 2 s:=by
    rw [gD,gE (cV (by decide) hb),fQ (cV (by decide) hb)]
   rw [e,qV (cV (by decide) hb),eW (cV (by decide) hb)];unfold bY;rw [if_pos hb]
 | true =>
   rw [if_neg (by decide)];rw [hw] at hd;by_cases h4:4<=acc.length
   · rw [if_pos h4]
     have e:goR (bQ (decide (acc.length<4)) 4 (bQ true 2 s))=bY 4 s:=by
      rw [decide_eq_false (by omega),gD,jO,fQ (cV (by decide) hb)]
     rw [e,qV (cV (by decide) hb),eW (cV (by decide) hb)];unfold bY;rw [if_pos hb]
   · rw [if_neg h4]
     have e:goR (bQ (decide (acc.length<4)) 4 (bQ true 2 s))=bZ s:=by
      rw [decide_eq_true (by omega),jO,jO,Ad hb]
     rw [e] at hd |-
     by_cases hc:(dF L (bZ s)).2.bad=0
     · rw [hd hc]
     · rw [eW hc,eW hc]
theorem Iu {s:RS} (h:(goR s).bad=0):s.bad=0:=Decidable.byContradiction fun hx=>by rw [fQ hx] at h;exact hx h
theorem EU {L:List Tk} {n:Nat} {s:RS} (h:(dF L (l7 L n s)).2.bad=0):n<4:=by
 have h1:(l7 L n s).bad=0:=Decidable.byContradiction fun hx=>by rw [qV hx] at h;exact hx h
 unfold l7 at h1;have h2:=Iu h1;have:=(j2 (by decide) h2).1;simpa using this
abbrev GC (n:Nat) (wa:Option Addr) (b:Nat):Prop:=n<=b/\wa ≠ some ⟨b,0,none⟩
structure OCW (ts:List Tk) (rb:Nat) (a:Option Addr) (c:Nat) (w:World) (acc:List CD) (wa:Option Addr) (wc:Nat) (qs:List QC) (s:RS) (V:World):Prop where
 r:PS ts rb a c s V
 k:aL (· = rb) w V
 own:V.ownsRow w.heap.size 98 9 (.slice wa acc.length wc) acc.length (cdL acc qs)
 ql:qs.length=acc.length
 kd:lZ (GC w.heap.size wa) V acc qs
 h:rb<w.heap.size
section
variable {ts:List Tk} {rb:Nat} {a:Option Addr} {c:Nat} {w V V':World} {acc:List CD} {wa:Option Addr} {wc:Nat} {qs:List QC} {s s':RS}
theorem OCW.lo (h:OCW ts rb a c w acc wa wc qs s V) {b:Nat} (hb:(Value.slice wa acc.length wc).ownBlock=some b):w.heap.size<=b/\b<V.heap.size:=h.own.lt b hb
theorem OCW.own' (h:OCW ts rb a c w acc wa wc qs s V) {b:Nat} (hb:(Value.slice wa acc.length wc).ownBlock=some b):wa=some ⟨b,0,none⟩:=by
 rcases h.own.2 with ⟨q1,_⟩ | ⟨g,cap,cur,q1,_⟩
 · rw [q1] at hb;cases hb
 · rw [q1] at hb
   cases hb;simp only [Value.slice.injEq] at q1;exact q1.1
theorem OCW.step (h:OCW ts rb a c w acc wa wc qs s V) (hp:PS ts rb a c s' V') (hk:aL (· = rb) V V'):OCW ts rb a c w acc wa wc qs s' V':=by
 have h1:=h.h;exact ⟨hp,h.k.trans hk (fun i hi _=>hi),dY (row:=some rb) h.own (hk.mono (fun i hi _=>by rw [hi])) (fun b hb he=>by have:=(h.lo hb).1;have:=Option.some.inj he;omega),h.ql,h.kd.keptS hk (fun k hk hg=>by have:=hg.1;omega),h1⟩
theorem OCW.below (h:OCW ts rb a c w acc wa wc qs s V) (hb:Below V.heap.size V V'):OCW ts rb a c w acc wa wc qs s V':=h.step (h.r.below hb) (aE hb _)
theorem OCW.drewN (h:OCW ts rb a c w acc wa wc qs s V) (n:Nat):OCW ts rb a c w acc wa wc qs s (V.drewN n):=h.step (h.r.drewN n) ((aL.refl _ V).drewN n)
theorem OCW.push (h:OCW ts rb a c w acc wa wc qs s V) {d:CD} {q:QC} {a':Option Addr} {c':Nat} (hk:aL (fun b=>(Value.slice wa acc.length wc).ownBlock=some b) V V')
 (hrow:V'.ownsRow w.heap.size 98 9 (.slice a' (acc.length+1) c') (acc.length+1) (cdL acc qs++eT d q))
 (hnew:∀ b,(Value.slice a' (acc.length+1) c').ownBlock=some b->(Value.slice wa acc.length wc).ownBlock=some b\/V.heap.size<=b)
 (h1:aI (GC w.heap.size wa) V q.a1 d.a.ks) (h2:aI (GC w.heap.size wa) V q.a2 d.b.ks) :
 OCW ts rb a c w (acc++[d]) a' c' (qs++[q]) s V':=by
 have e1:=h.h;have own':∀ b,a'=some ⟨b,0,none⟩->(Value.slice a' (acc.length+1) c').ownBlock=some b:=fun b hb=>by rw [hb];rfl
 have len:(acc++[d]).length=acc.length+1:=by simp
 have kd:=h.kd.snoc h.ql h1 h2;refine ⟨h.r.kept hk (fun k hk=>by have:=(h.lo hk).1;omega),h.k.trans (hk.mono (T:=fun i=>w.heap.size<=i) (fun i hi _=>(h.lo hi).1)) (fun i hi hl=>by omega),?_,by rw [List.length_append,List.length_append,h.ql];rfl,?_,e1⟩
 · rw [len,xZ _ _ _ _ h.ql]
   have e:cdL [d] [q]=eT d q:=by simp [cdL]
   rw [e];exact hrow
 · exact ((kd.imp (H:=fun b=>GC w.heap.size wa b/\a' ≠ some ⟨b,0,none⟩) (fun b hb hg=>⟨hg,fun e=>by
    rcases hnew b (own' b e) with h' | h'
    · exact hg.2 (h.own' h')
    · omega⟩)).keptS hk (fun k hk hg=>hg.1.2 (h.own' hk))).imp (fun b _ hg=>⟨hg.1.1,hg.2⟩)
theorem OCW.fresh (h:OCW ts rb a c w acc wa wc qs s V) {b:Nat} (hb:V.heap.size<=b):GC w.heap.size wa b:=by
 have:=h.k.size;refine ⟨by omega,fun e=>?_⟩;have:=(h.own.lt b (by rw [e];rfl)).2;omega
end
def JW:Value->Nat
 | .slice _ n _=>n
 | _=>0
theorem Eb:∃ i z,Tryz.prog.info? 98=some i/\i.zero=some z/\i.size=9/\i.bytes=144/\z.cells.size=9:=by
 have h:(Tryz.prog.info? 98).map (fun i=>(i.zero.map (fun z=>z.cells.size),i.size,i.bytes))=some (some 9,9,144):=by kernel_rfl
 cases hx:Tryz.prog.info? 98 with
 | none=>rw [hx] at h;cases h
 | some i =>
   rw [hx] at h;simp only [Option.map_some,Option.some.injEq,Prod.mk.injEq] at h;obtain ⟨h1,h2,h3⟩:=h;cases hz:i.zero with
   | none=>rw [hz] at h1;cases h1
   | some z =>
     rw [hz] at h1;exact ⟨i,z,rfl,hz,h2,h3,by simpa using h1⟩
theorem DD (W:World) (d:CD) (q:QC):∀ j u,(eT d q)[j]? = some u->(W.alloc (.cells #[.string d.op,.string d.a.op,.string d.a.nm,.int .i64 d.a.n,.slice q.a1 d.a.ks.len q.c1,.string d.b.op,.string d.b.nm,.int .i64 d.b.n,.slice q.a2 d.b.ks.len q.c2] 98)).cell? ((⟨W.heap.size,0,none⟩:Addr).add j)=some u:=fun j u hu=>by
 obtain ⟨p0,p1,p2,p3,p4,p5,p6,p7,p8⟩:=kQ (heap_alloc_new W (cdP d q.a1 q.c1 q.a2 q.c2));rw [Addr.add_lit];match j,hu with
 | 0,h=>cases h;exact p0
 | 1,h=>cases h;exact p1
 | 2,h=>cases h;exact p2
 | 3,h=>cases h;exact p3
 | 4,h=>cases h;exact p4
 | 5,h=>cases h;exact p5
 | 6,h=>cases h;exact p6
 | 7,h=>cases h;exact p7
 | 8,h=>cases h;exact p8
 | n+9,h=>simp at h
def JJ (ts:List Tk) (rb:Nat) (a:Option Addr) (c:Nat) (R:Aw) (w:World) (e:Ending) (w':World):Prop :=
 ∃ (acc:List CD) (wa:Option Addr) (wc:Nat) (qs:List QC) (s:RS),e=.returned (.slice wa acc.length wc)/\OCW ts rb a c w acc wa wc qs s w'/\(match R with | .bad p er=>¬ s.bad=0/\atR s=p/\s.bad=er | .ok l=>s.bad=0/\acc=l)
def sF (n:Nat):ByteArray:=if n=0 then ⟨#[119,104,101,114,101]⟩ else ⟨#[97,110,100]⟩
theorem Ax (n:Nat):(sF n).data.toList=(if n=0 then fL else l8):=by unfold sF;split <;> rfl
theorem Bt (ts:List Tk) (hL:∀ t∈ts,cI t) (hO:∀ t∈ts,Au t) (rb:Nat) (a:Option Addr) (c:Nat) (s0:RS) (w:World) (h:PS ts rb a c s0 w) {R:Aw} (hR:d9 ts 6 [] s0=R) :
 Calls Tryz.prog 85 #[.pointer (some ⟨rb,0,none⟩)] w (JJ ts rb a c R w):=by
 have K0:=aA (show OCW ts rb a c w [] none 0 [] s0 w from ⟨h,aL.refl _ _,⟨rfl,.inl ⟨rfl,rfl⟩⟩,rfl,fun j d q h1 _=>by simp at h1,h.lt⟩);have HR:=aA (show d9 ts (6-([]:List CD).length) [] s0=R from hR);clear h hR;go_enter Tryz.func85,Tryz.ntmps85
 go_wp2_with fail
 go_loopw [3,4,5] (fun v3 v4 v5 wr=>∃ (acc:List CD) (wa:Option Addr) (wc':Nat) (qs:List QC) (s:RS) (y:Value),v3=.slice wa acc.length wc'/\v4=.string (sF acc.length)/\v5=y/\acc.length<=5/\Hid (s.bad=0->acc.length<=4)/\Hid (d9 ts (6-acc.length) acc s=R)/\Hid (OCW ts rb a c w acc wa wc' qs s wr)) (fun v3 _ _ _=>10-JW v3)
 case atStart=>exact ⟨[],none,0,[],s0,_,rfl,rfl,rfl,by decide,aA (fun _=>by decide),HR,K0⟩
 case round =>
  obtain ⟨acc,wa,wc',qs,s,y,rfl,rfl,rfl,h5,H4,HE,HK⟩:=hrel;clear K0 HR;obtain ⟨⟨c0,c1,c2⟩,f0,f1,f2⟩:=cS HK.out.r.r;have hnn:=HK.out.r.n;have hpp:=HK.out.r.p;by_cases hb:s.bad=0
  · have q:((s.bad:Int) == 0)=true:=by rw [hb];rfl
    have hat:=jW hb;obtain ⟨p,hp⟩:∃ p,atR s=p:=⟨_,rfl⟩;rw [hp] at c1 hpp;by_cases hlt:p<ts.length
    · have a1:(p:Int)<(ts.length:Int):=by omega
      have hps:s.pos=p:=by rw [<- hat,hp]
      have h4:=H4.out hb;have NX:=kR ts rb a c (atR s) s.bad;obtain ⟨t,ht⟩:∃ t,bE ts (atR s)=t:=⟨_,rfl⟩;have WT:=ET ts (sF acc.length).data.toList (atR s);rw [ht] at WT;rw [ht,oX] at NX;obtain ⟨X,hX⟩:∃ X:ByteArray,⟨t.text.toArray⟩=X:=⟨_,rfl⟩;have hXl:t.text=X.data.toList:=by rw [<- hX]
      rw [hX] at NX;rw [hXl, <- Lib.toList_data, <- Lib.toList_data] at WT;obtain ⟨k,s',nn,pp⟩:=t;simp only at NX WT;have TL:k=1->p<ts.length:=fun _=>hlt
      obtain ⟨wb,hwb⟩:∃ z,eQ ts (if acc.length=0 then fL else l8) s.pos=z:=⟨_,rfl⟩;have e0:eQ ts (sF acc.length).toList (atR s)=wb:=by rw [Lib.toList_data,Ax,hp, <- hps];exact hwb
      rw [e0] at WT;have HWT:=aA WT;have HWB:=aA hwb;have HN:=aA NX;have HB:=aA hb;have HLT:=aA (show s.pos<ts.length by omega);have HP:=aA hp;have H44:=aA h4;clear hat hp NX ht WT hX hXl hwb TL hb hps e0;go_upto_region 4 with (go_quiet (fail))
      have K1:=aA (HK.out.drewN nq);have N1:=aA (HN.out _ K1.out.r);clear HK c0 c1 c2 f0 f1 f2 HN;generalize wr.drewN nq=W0 at *;go_wp2_with fail
      refine N1.out.mono ?_;rintro e w1 ⟨rfl,hb1⟩;have K2:=K1.out.below hb1;have BA:=(Below.refl w1.heap.size w1).alloc (Nat.le_refl _) (tkO k X nn pp);have NA:=heap_alloc_new w1 (tkO k X nn pp);have K3:=aA (K2.below BA);obtain ⟨⟨x0,x1,x2,x3⟩, -⟩:=aO NA;clear hb1 K2 BA N1 K1 NA;go_upto_region 5 with fail
      generalize w1.alloc (tkO k X nn pp)=W1 at *;go_cut [] (fun wc=>Hid (OCW ts rb a c w acc wa wc' qs (bQ wb 2 s) wc))
      case first =>
       have CM:=aA (fun so=>fV ts rb a c s so 2 (by decide) W1 K3.out.r);cases hk1:(k == 1) with
       | true =>
         have q1:(k == 1)=true:=hk1;have hz:(X.toList == (sF acc.length).toList)=wb:=by rw [HWT.out,hk1,Bool.true_and]
         clear hk1;go_wp2_with fail
         refine (CM.out wb).mono ?_;rintro e w2 ⟨rfl,P,k5⟩;have K4:=aA (K3.out.step P k5);clear P k5;go_wp2_with fail
         go_meet;case rel=>exact K4
       | false =>
         have q1:(k == 1)=false:=hk1;have hz:wb=false:=by rw [HWT.out,hk1,Bool.false_and]
         subst hz;clear hk1;go_wp2_with fail
         refine (CM.out false).mono ?_;rintro e w2 ⟨rfl,P,k5⟩;have K4:=aA (K3.out.step P k5);clear P k5;go_wp2_with fail
         go_meet;case rel=>exact K4
      case rest =>
       have K4:=hcut;clear x0 x1 x2 x3 K3 hcut;obtain ⟨z4,hz4⟩:∃ z,decide (acc.length<4)=z:=⟨_,rfl⟩;have hz5:decide ((acc.length:Int)<4)=z4:=by rw [<- hz4];exact decide_eq_decide.2 (by omega)
       have HS3:=aA (show goR (bQ z4 4 (bQ wb 2 s))=l7 ts acc.length s by unfold l7;rw [HWB.out,hz4]);have CM:=aA (fV ts rb a c (bQ wb 2 s) z4 4 (by decide) wc K4.out.r);go_wp2_with fail
       refine CM.out.mono ?_;rintro e w2 ⟨rfl,P,k5⟩;have K5:=aA (K4.out.step P k5);have CS:=aA (i7 ts rb a c (bQ z4 4 (bQ wb 2 s)) (fun _=>by rw [iH,iH];exact HLT.out) w2 P);clear P k5 CM K4 hz4 hz5;go_wp2_with fail
       refine CS.out.mono ?_;rintro e w3 ⟨rfl,P,k5⟩;rw [HS3.out] at P;have K6:=aA (K5.out.step P k5);have CO:=aA (Ew ts hL hO rb a c (l7 ts acc.length s) w3 P);clear P k5 CS K5;have HCS:=aA (fun d hd=>Br (d:=d) HB.out HLT.out H44.out HE.out hd);obtain ⟨⟨cd,s5⟩,hds⟩:∃ q:CD×RS,dF ts (l7 ts acc.length s)=q:=⟨_,rfl⟩;have HF:=aA (fun h:s5.bad=0=>EU (L:=ts) (n:=acc.length) (s:=s) (by rw [hds];exact h));rw [hds] at CO HCS;clear hds;go_wp2_with fail
       refine CO.out.mono ?_;rintro e v1 ⟨d,a1,c1,a2,c2,rfl,hp,hk,h1,h2,hd⟩;have BU:=(Below.refl v1.heap.size v1).alloc (Nat.le_refl _) (.cells #[.string d.op,.string d.a.op,.string d.a.nm,.int .i64 d.a.n,.slice a1 d.a.ks.len c1,.string d.b.op,.string d.b.nm,.int .i64 d.b.n,.slice a2 d.b.ks.len c2] 98);have K7:=K6.out.step hp hk;have K8:=aA (K7.below BU);have R1:=aA ((aI.imp (G:=fun b=>w3.heap.size<=b) h1 (fun b _ hb=>K6.out.fresh hb)).kept BU);have R2:=aA ((aI.imp (G:=fun b=>w3.heap.size<=b) h2 (fun b _ hb=>K6.out.fresh hb)).kept BU);have HE2:=aA (HCS.out d hd);have und:=Tryz.underlying26;obtain ⟨i,zv,hi,hz0,hz1,hz2,hz3⟩:=Eb;have OWN:=aA (show (v1.alloc (.cells #[.string d.op,.string d.a.op,.string d.a.nm,.int .i64 d.a.n,.slice a1 d.a.ks.len c1,.string d.b.op,.string d.b.nm,.int .i64 d.b.n,.slice a2 d.b.ks.len c2] 98)).ownsRow w.heap.size 98 9 (.slice wa acc.length wc') acc.length (cdL acc qs) from K8.out.own);have NEW:=aA (DD v1 d ⟨a1,c1,a2,c2⟩);have ONE:=aA (fun u (hu:u∈eT d ⟨a1,c1,a2,c2⟩)=>qA [d] [⟨a1,c1,a2,c2⟩] u (by simpa [cdL] using hu));have HBS:=aA (show w.heap.size<=(v1.alloc (.cells #[.string d.op,.string d.a.op,.string d.a.nm,.int .i64 d.a.n,.slice a1 d.a.ks.len c1,.string d.b.op,.string d.b.nm,.int .i64 d.b.n,.slice a2 d.b.ks.len c2] 98)).heap.size from K8.out.k.size);clear hp hk h1 h2 hd BU K7 CO K6 HCS
       go_upto_region 9 with (first
        | (at_builtin
           refine aY rfl _ _ 26 rfl (base:=w.heap.size) und hi hz0 hz1 hz2 hz3 (by decide) (.slice wa acc.length wc') acc.length 1 1 ⟨v1.heap.size,0,none⟩ (cdL acc qs) (eT d ⟨a1,c1,a2,c2⟩) rfl rfl OWN.out rfl NEW.out ONE.out (by unfold maxLen;omega) (by omega) HBS.out ?_;intro v4 w4 ho hg hn;obtain ⟨a',c',hv⟩:=cY ho;subst hv;have KA:=(aL.refl (fun b=>(Value.slice wa acc.length wc').ownBlock=some b) _).grown hg (fun k hk=>.inl hk);have K11:=aA (K8.out.push KA ho hn R1.out R2.out);clear ho hg hn KA K8 R1 R2 OWN NEW ONE HBS)
        | fail)
       have l1:(acc++[d]).length=acc.length+1:=by simp
       go_wp2_with fail
       go_roundw
       case rel =>
        refine ⟨acc++[d],a',c',qs++[⟨a1,c1,a2,c2⟩],s5,_,by rw [l1],by rw [l1];unfold sF;rw [if_neg (by omega)],rfl,by omega,aA (fun h=>by rw [l1];exact HF.out h),HE2,K11⟩
       case measure=>simp only [JW];omega
    · have a1:¬ (p:Int)<(ts.length:Int):=by omega
      have a2:decide (p<ts.length)=false:=decide_eq_false hlt
      have HX:=aA (show R=.ok acc by
       have:=HE.out;obtain ⟨f,hf⟩:∃ f,6-acc.length=f+1:=⟨5-acc.length,by omega⟩;rw [hf,d9,if_neg (not_not_intro hb),if_pos (show ts.length<=s.pos by omega)] at this;exact this.symm)
      have HB:=aA hb;clear hat hp hb;go_wp2_with (go_quiet (fail))
      go_ret;refine ⟨acc,wa,wc',qs,s,rfl,HK.out.drewN _,?_⟩;rw [HX.out];exact ⟨HB.out,rfl⟩
  · have q:((s.bad:Int) == 0)=false:=beq_eq_false_iff_ne.2 hb
    have HX:=aA (show R=.bad s.whr s.bad by
     have:=HE.out;obtain ⟨f,hf⟩:∃ f,6-acc.length=f+1:=⟨5-acc.length,by omega⟩;rw [hf,eW hb] at this;exact this.symm)
    have HB:=aA hb;clear hb;go_wp2_with (go_quiet (fail))
    go_ret;refine ⟨acc,wa,wc',qs,s,rfl,HK.out.drewN _,?_⟩;rw [HX.out];exact ⟨HB.out,oN HB.out,rfl⟩
theorem Be {W:World} {B:Nat} {x:AG} {p:PA} (h:W.heap[B]? = some (agP x p)) (t:TN) (ad:Option Addr) (cc:Nat):(putE W B t ad cc).heap[B]? = some (agP { x with e:=t } { p with ea:=ad,ec:=cc }):=by
 have h0:=heap_setCell_same (W) B 2 _ 28 (.string t.op) h;have g0:((W).setCell ⟨B,2,none⟩ (.string t.op)).heap[B]? = some (.cells #[.string x.fn,.int .i64 x.k,.string t.op,.string x.e.nm,.int .i64 x.e.n,.slice p.ea x.e.ks.len p.ec,.string x.g.op,.string x.g.nm,.int .i64 x.g.n,.slice p.ga x.g.ks.len p.gc,.slice p.wa x.wh.length p.wc] 28 (0,0)):=by simpa using h0
 have h1:=heap_setCell_same ((W).setCell ⟨B,2,none⟩ (.string t.op)) B 3 _ 28 (.string t.nm) g0;have g1:(((W).setCell ⟨B,2,none⟩ (.string t.op)).setCell ⟨B,3,none⟩ (.string t.nm)).heap[B]? = some (.cells #[.string x.fn,.int .i64 x.k,.string t.op,.string t.nm,.int .i64 x.e.n,.slice p.ea x.e.ks.len p.ec,.string x.g.op,.string x.g.nm,.int .i64 x.g.n,.slice p.ga x.g.ks.len p.gc,.slice p.wa x.wh.length p.wc] 28 (0,0)):=by simpa using h1
 have h2:=heap_setCell_same (((W).setCell ⟨B,2,none⟩ (.string t.op)).setCell ⟨B,3,none⟩ (.string t.nm)) B 4 _ 28 (.int .i64 t.n) g1;have g2:((((W).setCell ⟨B,2,none⟩ (.string t.op)).setCell ⟨B,3,none⟩ (.string t.nm)).setCell ⟨B,4,none⟩ (.int .i64 t.n)).heap[B]? = some (.cells #[.string x.fn,.int .i64 x.k,.string t.op,.string t.nm,.int .i64 t.n,.slice p.ea x.e.ks.len p.ec,.string x.g.op,.string x.g.nm,.int .i64 x.g.n,.slice p.ga x.g.ks.len p.gc,.slice p.wa x.wh.length p.wc] 28 (0,0)):=by simpa using h2
 have h3:=heap_setCell_same ((((W).setCell ⟨B,2,none⟩ (.string t.op)).setCell ⟨B,3,none⟩ (.string t.nm)).setCell ⟨B,4,none⟩ (.int .i64 t.n)) B 5 _ 28 (.slice ad t.ks.len cc) g2;have g3:(((((W).setCell ⟨B,2,none⟩ (.string t.op)).setCell ⟨B,3,none⟩ (.string t.nm)).setCell ⟨B,4,none⟩ (.int .i64 t.n)).setCell ⟨B,5,none⟩ (.slice ad t.ks.len cc)).heap[B]? = some (.cells #[.string x.fn,.int .i64 x.k,.string t.op,.string t.nm,.int .i64 t.n,.slice ad t.ks.len cc,.string x.g.op,.string x.g.nm,.int .i64 x.g.n,.slice p.ga x.g.ks.len p.gc,.slice p.wa x.wh.length p.wc] 28 (0,0)):=by simpa using h3
 exact g3
theorem Bc {W:World} {B:Nat} {x:AG} {p:PA} (h:W.heap[B]? = some (agP x p)) (t:TN) (ad:Option Addr) (cc:Nat):(putG W B t ad cc).heap[B]? = some (agP { x with g:=t } { p with ga:=ad,gc:=cc }):=by
 have h0:=heap_setCell_same (W) B 6 _ 28 (.string t.op) h;have g0:((W).setCell ⟨B,6,none⟩ (.string t.op)).heap[B]? = some (.cells #[.string x.fn,.int .i64 x.k,.string x.e.op,.string x.e.nm,.int .i64 x.e.n,.slice p.ea x.e.ks.len p.ec,.string t.op,.string x.g.nm,.int .i64 x.g.n,.slice p.ga x.g.ks.len p.gc,.slice p.wa x.wh.length p.wc] 28 (0,0)):=by simpa using h0
 have h1:=heap_setCell_same ((W).setCell ⟨B,6,none⟩ (.string t.op)) B 7 _ 28 (.string t.nm) g0;have g1:(((W).setCell ⟨B,6,none⟩ (.string t.op)).setCell ⟨B,7,none⟩ (.string t.nm)).heap[B]? = some (.cells #[.string x.fn,.int .i64 x.k,.string x.e.op,.string x.e.nm,.int .i64 x.e.n,.slice p.ea x.e.ks.len p.ec,.string t.op,.string t.nm,.int .i64 x.g.n,.slice p.ga x.g.ks.len p.gc,.slice p.wa x.wh.length p.wc] 28 (0,0)):=by simpa using h1
 have h2:=heap_setCell_same (((W).setCell ⟨B,6,none⟩ (.string t.op)).setCell ⟨B,7,none⟩ (.string t.nm)) B 8 _ 28 (.int .i64 t.n) g1;have g2:((((W).setCell ⟨B,6,none⟩ (.string t.op)).setCell ⟨B,7,none⟩ (.string t.nm)).setCell ⟨B,8,none⟩ (.int .i64 t.n)).heap[B]? = some (.cells #[.string x.fn,.int .i64 x.k,.string x.e.op,.string x.e.nm,.int .i64 x.e.n,.slice p.ea x.e.ks.len p.ec,.string t.op,.string t.nm,.int .i64 t.n,.slice p.ga x.g.ks.len p.gc,.slice p.wa x.wh.length p.wc] 28 (0,0)):=by simpa using h2
 have h3:=heap_setCell_same ((((W).setCell ⟨B,6,none⟩ (.string t.op)).setCell ⟨B,7,none⟩ (.string t.nm)).setCell ⟨B,8,none⟩ (.int .i64 t.n)) B 9 _ 28 (.slice ad t.ks.len cc) g2;have g3:(((((W).setCell ⟨B,6,none⟩ (.string t.op)).setCell ⟨B,7,none⟩ (.string t.nm)).setCell ⟨B,8,none⟩ (.int .i64 t.n)).setCell ⟨B,9,none⟩ (.slice ad t.ks.len cc)).heap[B]? = some (.cells #[.string x.fn,.int .i64 x.k,.string x.e.op,.string x.e.nm,.int .i64 x.e.n,.slice p.ea x.e.ks.len p.ec,.string t.op,.string t.nm,.int .i64 t.n,.slice ad t.ks.len cc,.slice p.wa x.wh.length p.wc] 28 (0,0)):=by simpa using h3
 exact g3
theorem Bb {W:World} {B:Nat} {x:AG} {p:PA} (h:W.heap[B]? = some (agP x p)) (k:Int):(W.setCell ⟨B,1,none⟩ (.int .i64 k)).heap[B]? = some (agP { x with k:=k } p):=by
 have h0:=heap_setCell_same W B 1 _ 28 (.int .i64 k) h;simpa using h0
structure AQ (ts:List Tk) (rb ab:Nat) (a:Option Addr) (c:Nat) (w:World) (x:AG) (p:PA) (s:RS) (V:World):Prop where
 r:PS ts rb a c s V
 n:V.heap[ab]? = some (agP x p)
 k:aL (fun b=>b=rb\/b=ab) w V
 e:cC w.heap.size V p.ea x.e.ks
 g:cC w.heap.size V p.ga x.g.ks
 wa:p.wa=none
 wc:p.wc=0
 h:rb<ab
 z:ab<w.heap.size
section
variable {ts:List Tk} {rb ab:Nat} {a:Option Addr} {c:Nat} {w V V':World} {x:AG} {p:PA} {s s':RS}
theorem AQ.step (h:AQ ts rb ab a c w x p s V) (hp:PS ts rb a c s' V') (hk:aL (· = rb) V V'):AQ ts rb ab a c w x p s' V':=by
 have h1:=h.h;have h2:=h.z;exact ⟨hp,hk.heap h.n (by omega),h.k.trans hk (fun i hi _=>.inl hi),h.e.keptS hk (fun k hk=>by omega),h.g.keptS hk (fun k hk=>by omega),h.wa,h.wc,h1,h2⟩
theorem AQ.below (h:AQ ts rb ab a c w x p s V) (hb:Below V.heap.size V V'):AQ ts rb ab a c w x p s V':=h.step (h.r.below hb) (aE hb _)
theorem AQ.setK (h:AQ ts rb ab a c w x p s V) (k:Int):AQ ts rb ab a c w { x with k:=k } p s (V.setCell ⟨ab,1,none⟩ (.int .i64 k)):=by
 have h1:=h.h;have h2:=h.z;have hk:=(aL.refl (· = ab) V).setCell (p:=⟨ab,1,none⟩) (.inl rfl) (.int .i64 k);exact ⟨h.r.kept hk (fun k hk=>by omega),Bb h.n k,h.k.trans hk (fun i hi _=>.inr hi),h.e.keptS hk (fun k hk=>by omega),h.g.keptS hk (fun k hk=>by omega),h.wa,h.wc,h1,h2⟩
theorem AQ.putE (h:AQ ts rb ab a c w x p s V) {t:TN} {ad:Option Addr} {cc:Nat} (hr:cC w.heap.size V ad t.ks):AQ ts rb ab a c w { x with e:=t } { p with ea:=ad,ec:=cc } s (putE V ab t ad cc):=by
 have h1:=h.h;have h2:=h.z;have hk:=vX V ab t ad cc;exact ⟨h.r.kept hk (fun k hk=>by omega),Be h.n t ad cc,h.k.trans hk (fun i hi _=>.inr hi),hr.keptS hk (fun k hk=>by omega),h.g.keptS hk (fun k hk=>by omega),h.wa,h.wc,h1,h2⟩
theorem AQ.putG (h:AQ ts rb ab a c w x p s V) {t:TN} {ad:Option Addr} {cc:Nat} (hr:cC w.heap.size V ad t.ks):AQ ts rb ab a c w { x with g:=t } { p with ga:=ad,gc:=cc } s (putG V ab t ad cc):=by
 have h1:=h.h;have h2:=h.z;have hk:=DU V ab t ad cc;exact ⟨h.r.kept hk (fun k hk=>by omega),Bc h.n t ad cc,h.k.trans hk (fun i hi _=>.inr hi),h.e.keptS hk (fun k hk=>by omega),hr.keptS hk (fun k hk=>by omega),h.wa,h.wc,h1,h2⟩
theorem AQ.box (h:AQ ts rb ab a c w x p s V) {B:Nat} {o:Obj} (hB:V.heap[B]? = some o) (hlo:w.heap.size<=B) {S:Nat->Prop} (hk:aL S V V') (hS:∀ k,S k->k=rb\/k=ab):V'.heap[B]? = some o:=by
 have h1:=h.h;have h2:=h.z;exact hk.heap hB (fun hs=>by rcases hS B hs with e | e <;> omega)
end
theorem JE {ts:List Tk} {rb ab:Nat} {a:Option Addr} {c:Nat} {w:World} {s:RS} {fn:ByteArray} (h:PS ts rb a c s w) (hn:w.heap[ab]? = some (agP ⟨fn,0,aR,aR,[]⟩ aW)) (hlt:rb<ab):AQ ts rb ab a c w ⟨fn,0,aR,aR,[]⟩ aW s w :=
 ⟨h,hn,aL.refl _ _,.inl rfl,.inl rfl,rfl,rfl,hlt,aC hn⟩
theorem EP (ts:List Tk) (hL:∀ t∈ts,cI t) (rb ab:Nat) (a:Option Addr) (c:Nat) (s:RS) (fn:ByteArray) (w:World) (h:PS ts rb a c s w) (hn:w.heap[ab]? = some (agP ⟨fn,0,aR,aR,[]⟩ aW)) (hlt:rb<ab) :
 Calls Tryz.prog 84 #[.pointer (some ⟨rb,0,none⟩),.pointer (some ⟨ab,0,none⟩)] w fun e w'=>e=.returned (.tuple #[]) /\
  ∃ p,AQ ts rb ab a c w ⟨fn,if kP fn.data.toList=true then (bE ts (atR s)).num else 0,(oO ts fn.data.toList (nZ ts fn.data.toList s)).1,(q9 ts fn.data.toList (oO ts fn.data.toList (nZ ts fn.data.toList s)).2).1,[]⟩ p (iT ts fn.data.toList s) w':=by
 have Q0:=aA (JE h hn hlt);have CP:=aA (i8 fn w);unfold iT;obtain ⟨F,hF⟩:∃ F,fn.data.toList=F:=⟨_,rfl⟩;rw [hF] at CP |-
 unfold ptV at CP;obtain ⟨kk,hk⟩:∃ b,kP F=b:=⟨_,rfl⟩;obtain ⟨ee,he⟩:∃ b,eP F=b:=⟨_,rfl⟩;obtain ⟨bb,hb⟩:∃ b,bP F=b:=⟨_,rfl⟩;obtain ⟨ff,hf⟩:∃ b,dD F=b:=⟨_,rfl⟩;rw [hk,he,hb,hf] at CP;have EK:∀ u,nZ ts F u=if kk=true then bK ts [44] (oV ts u) else u:=fun u=>by unfold nZ;rw [hk]
 have EE:∀ u,oO ts F u=if ee=true then bC ts u else (aR,u):=fun u=>by unfold oO;rw [he]
 have EB:∀ u,q9 ts F u=if bb=true then bC ts (bK ts [44] u) else (aR,u):=fun u=>by unfold q9;rw [hb]
 rw [hk];obtain ⟨s1,hs1⟩:∃ u,nZ ts F s=u:=⟨_,rfl⟩;obtain ⟨t1,s2,hs2⟩:∃ t u,oO ts F s1=(t,u):=⟨_,_,rfl⟩;obtain ⟨t2,s3,hs3⟩:∃ t u,q9 ts F s2=(t,u):=⟨_,_,rfl⟩;rw [hs1,hs2];simp only;rw [hs3];simp only;rw [EK] at hs1;rw [EE] at hs2;rw [EB] at hs3;obtain ⟨kn,hkn⟩:∃ n,(if kk=true then (bE ts (atR s)).num else 0)=n:=⟨_,rfl⟩;rw [hkn];have HS1:=aA hs1;have HS2:=aA hs2;have HS3:=aA hs3;have HKN:=aA hkn;clear EK EE EB hs1 hs2 hs3 hkn hk he hb hf hF h hn;have hal:=Q0.out.z;obtain ⟨m0,m1,m2,m3,m4,m5,m6,m7,m8,m9,m10⟩:=aD Q0.out.n;go_enter Tryz.func84,Tryz.ntmps84
 go_wp2_with fail
 refine CP.out.mono ?_;rintro e w1 ⟨rfl,hb1⟩;have Q1:=Q0.out.below hb1;have BA:=(Below.refl w1.heap.size w1).alloc (Nat.le_refl _) (ptO kk ee bb);have Q2:=aA (Q1.below BA);have NB:=heap_alloc_new w1 (ptO kk ee bb);have hlo:w.heap.size<=w1.heap.size:=hb1.size;clear hb1 Q1 BA CP Q0 m0 m1 m2 m3 m4 m5 m6 m7 m8 m9 m10;go_upto_region 1 with fail
 generalize w1.alloc (ptO kk ee bb)=W at *;generalize w1.heap.size=B at *;have HN:=aA NB;obtain ⟨⟨y0,y1,y2⟩, -⟩:=cS NB;clear NB;go_upto_if 15 with fail
 go_cut [] (fun wc=>∃ p,Hid (AQ ts rb ab a c w ⟨fn,kn,aR,aR,[]⟩ p s1 wc)/\Hid (wc.heap[B]? = some (ptO kk ee bb)))
 case first =>
  cases kk with
  | true =>
    have CK:=aA (Js ts rb a c s W Q2.out.r);have HE:(bE ts (atR s)).num=kn:=HKN.out;rw [HE] at CK;go_wp2_with fail
    refine CK.out.mono ?_;rintro e w2 ⟨rfl,hp,hk⟩;have N3:=Q2.out.box HN.out hlo hk (fun k h=>.inl h);have Q3:=(Q2.out.step hp hk).setK kn;have Q4:=aA Q3;have KS:=(aL.refl (· = ab) w2).setCell (p:=⟨ab,1,none⟩) (.inl rfl) (.int .i64 kn);have N4:=aA ((Q2.out.step hp hk).box (V:=w2) (V':=w2.setCell ⟨ab,1,none⟩ (.int .i64 kn)) N3 hlo KS (fun k h=>.inr h));obtain ⟨m0,m1,m2,m3,m4,m5,m6,m7,m8,m9,m10⟩:=aD (Q2.out.step hp hk).n;obtain ⟨z0,z1,z2,z3,z4,z5,z6,z7,z8,z9,z10⟩:=dX (Q2.out.step hp hk).n;clear hp hk N3 Q3 KS CK;go_upto_region 3 with fail
    clear m0 m1 m2 m3 m4 m5 m6 m7 m8 m9 m10 z0 z1 z2 z3 z4 z5 z6 z7 z8 z9 z10;obtain ⟨V,hV⟩:∃ V,w2.setCell ⟨ab,1,none⟩ (.int .i64 kn)=V:=⟨_,rfl⟩;rw [hV] at Q4 N4 |-
    clear hV;have CS:=aA (mZ ts rb a c (oV ts s) ⟨#[44]⟩ V Q4.out.r);go_wp2_with fail
    refine CS.out.mono ?_;rintro e w3 ⟨rfl,hp,hk⟩;have N5:=aA (Q4.out.box N4.out hlo hk (fun k h=>.inl h));have Q5:=aA (Q4.out.step hp hk);clear hp hk CS;go_wp2_with fail
    go_meet;case rel=>exact ⟨_,by have:=Q5;rw [<- HS1.out];exact this,N5⟩
  | false =>
    have HE:(0:Int)=kn:=HKN.out;have HZ:s=s1:=HS1.out;subst HE;subst HZ;go_wp2_with fail
    go_meet;case rel=>exact ⟨_,Q2,HN⟩
 case rest =>
  obtain ⟨p,Q3,N3⟩:=hcut;clear Q2 HN y0 y1 y2 HKN HS1;obtain ⟨⟨y0,y1,y2⟩, -⟩:=cS N3.out;go_upto_if 24 with fail
  go_cut [] (fun wc=>∃ p,Hid (AQ ts rb ab a c w ⟨fn,kn,t1,aR,[]⟩ p s2 wc)/\Hid (wc.heap[B]? = some (ptO kk ee bb)))
  case first =>
   cases ee with
   | true =>
     have CE:=aA (nI ts hL rb a c s1 wc Q3.out.r);have HE:bC ts s1=(t1,s2):=HS2.out;rw [HE] at CE;go_wp2_with fail
     refine CE.out.mono ?_;rintro e w2 ⟨ad,cc,rfl,hp,hk,hr⟩;have N4:=Q3.out.box N3.out hlo hk (fun k h=>.inl h);have Q4:=Q3.out.step hp hk;have hr2:cC w.heap.size w2 ad t1.ks:=aI.imp hr (fun b _ hb=>Nat.le_trans Q3.out.k.size hb);have Q5:=aA (Q4.putE (cc:=cc) hr2);have N5:=aA (Q4.box N4 hlo (vX w2 ab t1 ad cc) (fun k h=>.inr h));obtain ⟨m0,m1,m2,m3,m4,m5,m6,m7,m8,m9,m10⟩:=aD Q4.n;obtain ⟨z0,z1,z2,z3,z4,z5,z6,z7,z8,z9,z10⟩:=dX Q4.n;clear hp hk hr hr2 N4 Q4 CE;go_wp2_with fail
     go_meet;case rel=>exact ⟨_,Q5,N5⟩
   | false =>
     have HE:(aR,s1)=(t1,s2):=HS2.out;cases HE;go_wp2_with fail
     go_meet;case rel=>exact ⟨_,Q3,N3⟩
  case rest =>
   obtain ⟨p,Q4,N4⟩:=hcut;clear Q3 N3 y0 y1 y2 HS2;obtain ⟨⟨y0,y1,y2⟩, -⟩:=cS N4.out;cases bb with
   | true =>
     have CS:=aA (mZ ts rb a c s2 ⟨#[44]⟩ wc Q4.out.r);go_wp2_with fail
     refine CS.out.mono ?_;rintro e w3 ⟨rfl,hp,hk⟩;have Q5:=aA (Q4.out.step hp hk);clear hp hk CS Q4 N4;have CE:=aA (nI ts hL rb a c _ w3 Q5.out.r);have HE:bC ts (bK ts [44] s2)=(t2,s3):=HS3.out;rw [HE] at CE;go_wp2_with fail
     refine CE.out.mono ?_;rintro e w4 ⟨ad,cc,rfl,hp,hk,hr⟩;have Q6:=Q5.out.step hp hk;have hr2:cC w.heap.size w4 ad t2.ks:=aI.imp hr (fun b _ hb=>Nat.le_trans Q5.out.k.size hb);have Q7:=aA (Q6.putG (cc:=cc) hr2);obtain ⟨m0,m1,m2,m3,m4,m5,m6,m7,m8,m9,m10⟩:=aD Q6.n;obtain ⟨z0,z1,z2,z3,z4,z5,z6,z7,z8,z9,z10⟩:=dX Q6.n;clear hp hk hr hr2 Q6 CE;go_wp2_with fail
     go_end0
     exact ⟨rfl,_,Q7.out⟩
   | false =>
     have HE:(aR,s2)=(t2,s3):=HS3.out;cases HE;go_wp2_with fail
     go_end0
     exact ⟨rfl,_,Q4.out⟩
def mT (r:uO) (w0:World) (e:Ending) (w':World):Prop:=Below w0.heap.size w0 w' /\
 match r with
 | .bad p er=>e=.returned (.tuple #[agV aU aW,.int .i64 (p:Nat),.int .i64 er])
 | .ok a=>∃ p,e=.returned (.tuple #[agV a p,.int .i64 0,.int .i64 0])/\aJ (fun b=>w0.heap.size<=b) w' a p
section
variable {w:World} {ts:List Tk} {rb ab:Nat} {a:Option Addr} {c:Nat} {x:AG} {p:PA} {qs:List QC} {s s':RS} {V V':World}
end
theorem zK {ts:List Tk} {rb:Nat} {a:Option Addr} {c:Nat} {w V:World} {acc:List CD} {wa:Option Addr} {wc:Nat} {qs:List QC} {s:RS} (h:OCW ts rb a c w acc wa wc qs s V):eN (fun b=>w.heap.size<=b) V wa acc :=
 sW h.own h.ql (h.kd.imp (fun b _ hg=>hg.1)) (fun b hb=>(h.own.lt b (by rw [hb];rfl)).1)
def J8 (ts:List Tk) (rb:Nat) (a:Option Addr) (c:Nat) (R:uO) (w:World) (e:Ending) (w':World):Prop :=
 ∃ (x:AG) (p:PA) (pos:Nat) (er:Int),e=.returned (agV x p)/\PR ts rb a c pos er w'/\aL (· = rb) w w'/\(match R with | .bad q f=>¬ f=0/\pos=q/\er=f | .ok y=>er=0/\x=y/\aJ (fun b=>w.heap.size<=b) w' x p)
theorem Ec {W:World} {B:Nat} {x:AG} {p:PA} (h:W.heap[B]? = some (agP x p)) (l:List CD) (wa:Option Addr) (wc:Nat):(W.setCell ⟨B,10,none⟩ (.slice wa l.length wc)).heap[B]? = some (agP { x with wh:=l } { p with wa:=wa,wc:=wc }):=by
 have h0:=heap_setCell_same W B 10 _ 28 (.slice wa l.length wc) h;simpa using h0
theorem GD (ts:List Tk) (hL:∀ t∈ts,cI t) (hO:∀ t∈ts,Au t) (rb:Nat) (a:Option Addr) (c:Nat) (w:World) (h:PR ts rb a c 0 0 w) :
 Calls Tryz.prog 29 #[.pointer (some ⟨rb,0,none⟩)] w (J8 ts rb a c (agS ts) w):=by
 have hrb:=h.lt;have B1:=(Below.refl w.heap.size w).alloc (Nat.le_refl _) (agP aU aW);have NB:=heap_alloc_new w (agP aU aW);have hs0:(w.alloc (agP aU aW)).heap.size=w.heap.size+1:=World.size_alloc _ _;have P1:=aA (show PS ts rb a c ⟨0,0,0,0⟩ (w.alloc (agP aU aW)) from h.below B1);have K1:=aA (aE B1 (· = rb));generalize hW:w.alloc (agP aU aW)=W at *;have HW:=aA hW;have N0:=aA NB;have CN:=DF ts rb a c ⟨0,0,0,0⟩ W P1.out;have CN2:Calls Tryz.prog 82 #[.pointer (some ⟨rb,0,none⟩)] W fun e w'=>e=.returned (.string ⟨(bE ts 0).text.toArray⟩)/\PS ts rb a c (gC ts) w'/\aL (· = rb) W w':=CN
 obtain ⟨fn,hfn⟩:∃ fn:ByteArray,⟨(bE ts 0).text.toArray⟩=fn:=⟨_,rfl⟩;rw [hfn] at CN2;have HFN:=aA hfn;have C1:=aA CN2;clear h B1 NB hW CN CN2 hfn;go_enter Tryz.func29,Tryz.ntmps29
 go_upto_region 1 with fail
 rw [show w.alloc (.cells #[.string ⟨#[]⟩,.int .i64 0,.string ⟨#[]⟩,.string ⟨#[]⟩,.int .i64 0,.slice none 0 0,.string ⟨#[]⟩,.string ⟨#[]⟩,.int .i64 0,.slice none 0 0,.slice none 0 0] 28)=W from HW.out];go_wp2_with fail
 refine C1.out.mono ?_;rintro e w1 ⟨rfl,hp,hk⟩;have BA:=(Below.refl w1.heap.size w1).alloc (Nat.le_refl _) (agP ⟨fn,0,aR,aR,[]⟩ aW);have NA:=heap_alloc_new w1 (agP ⟨fn,0,aR,aR,[]⟩ aW);have hz1:=hk.size;have P2:=aA (hp.below BA);have K2:=aA ((K1.out.trans hk (fun i hi _=>hi)).trans (aE BA (· = rb)) (fun i hi _=>hi));have N1:=aA ((BA.block w.heap.size (by omega)).trans (hk.heap N0.out (by omega)));clear hp hk BA C1 P1 K1 N0;go_upto_region 2 with fail
 rw [show w1.alloc (.cells #[.string fn,.int .i64 0,.string ⟨#[]⟩,.string ⟨#[]⟩,.int .i64 0,.slice none 0 0,.string ⟨#[]⟩,.string ⟨#[]⟩,.int .i64 0,.slice none 0 0,.slice none 0 0] 28)=w1.alloc (agP ⟨fn,0,aR,aR,[]⟩ aW) from rfl];generalize w1.alloc (agP ⟨fn,0,aR,aR,[]⟩ aW)=W1 at *;generalize w1.heap.size=ab at *;have hab:w.heap.size<ab:=by omega
 have NA1:=aA NA;clear NA hz1 hs0;have C2:=aA (mZ ts rb a c (gC ts) ⟨#[40]⟩ W1 P2.out);go_wp2_with fail
 refine C2.out.mono ?_;rintro e w2 ⟨rfl,hp,hk⟩;have P3:=aA (show PS ts rb a c (pS ts) w2 from hp);have K3:=aA (K2.out.trans hk (fun i hi _=>hi));have N2:=aA (hk.heap N1.out (by omega));have NA2:=aA (hk.heap NA1.out (by omega));clear hp hk C2 P2 K2 N1 NA1;have C3:=aA (EP ts hL rb ab a c (pS ts) fn w2 P3.out NA2.out (by omega));go_wp2_with fail
 refine C3.out.mono ?_;rintro e w3 ⟨rfl,p,Q⟩;have hfl:fn.data.toList=(bE ts 0).text:=by rw [<- HFN.out]
 have Q2:=aA (show AQ ts rb ab a c w2 (vK ts []) p (iT ts (bE ts 0).text (pS ts)) w3 by
  rw [hfl, <- HFN.out] at Q;exact Q)
 have N3:=aA (Q.k.heap N2.out (by omega));clear Q hfl C3 NA2 N2;have C4:=aA (mZ ts rb a c (iT ts (bE ts 0).text (pS ts)) ⟨#[41]⟩ w3 Q2.out.r);go_wp2_with fail
 refine C4.out.mono ?_;rintro e w4 ⟨rfl,hp,hk⟩;have Q3:=aA (show AQ ts rb ab a c w2 (vK ts []) p (mE ts) w4 from Q2.out.step hp hk);have N4:=aA (hk.heap N3.out (by omega));clear hp hk C4 N3 Q2;have C5:=aA (Bt ts hL hO rb a c (mE ts) w4 Q3.out.r (R:=d9 ts 6 [] (mE ts)) rfl);go_wp2_with fail
 refine C5.out.mono ?_;rintro e w5 ⟨acc,wa,wc,qs,s,rfl,CW5,hres⟩;have Q4:=aA (Q3.out.step CW5.r CW5.k);have RC:=aA (zK CW5);have N5:=aA (CW5.k.heap N4.out (by omega));have HR:=aA hres;have hz45:=CW5.k.size;have hz34:=Q3.out.k.size;clear CW5 C5 Q3 N4 hres;obtain ⟨m0,m1,m2,m3,m4,m5,m6,m7,m8,m9,m10⟩:=aD Q4.out.n;obtain ⟨z0,z1,z2,z3,z4,z5,z6,z7,z8,z9,z10⟩:=dX Q4.out.n;go_upto_region 6 with fail
 clear m0 m1 m2 m3 m4 m5 m6 m7 m8 m9 m10 z0 z1 z2 z3 z4 z5 z6 z7 z8 z9 z10;have KS:=(aL.refl (· = ab) w5).setCell (p:=⟨ab,10,none⟩) (.inl rfl) (.slice wa acc.length wc);have NW:=Ec Q4.out.n acc wa wc;have hl1:=Q4.out.z;have P6:=aA (Q4.out.r.kept KS (fun k hk=>by omega));have K6:=aA ((K3.out.trans Q4.out.k (fun i hi hlt=>by rcases hi with h | h <;> omega)).trans (KS.mono (T:=fun i=>w.heap.size<=i) (fun i hi _=>by omega)) (fun i hi hl=>by omega));have N6:=aA (KS.heap N5.out (by omega));have RE:=aA (Q4.out.e.keptS KS (fun k hk=>by omega));have RG:=aA (Q4.out.g.keptS KS (fun k hk=>by omega));have hz24:=Q4.out.k.size;have XP:=aA (show ∃ (x:AG) (q:PA),vK ts acc=x/\{ p with wa:=wa,wc:=wc }=q from ⟨_,_,rfl,rfl⟩);obtain ⟨x,q,hx,hq⟩:=XP.out;have NW2:=aA (show (w5.setCell ⟨ab,10,none⟩ (.slice wa acc.length wc)).heap[ab]? = some (agP x q) by rw [<- hx, <- hq];exact NW);have RE2:=aA (show cC w2.heap.size (w5.setCell ⟨ab,10,none⟩ (.slice wa acc.length wc)) q.ea x.e.ks by rw [<- hx, <- hq];exact RE.out);have RG2:=aA (show cC w2.heap.size (w5.setCell ⟨ab,10,none⟩ (.slice wa acc.length wc)) q.ga x.g.ks by rw [<- hx, <- hq];exact RG.out);have RC2:=aA (show eN (fun b=>w4.heap.size<=b) (w5.setCell ⟨ab,10,none⟩ (.slice wa acc.length wc)) q.wa x.wh by rw [<- hx, <- hq];exact RC.out.keptS KS (fun k hk=>by omega));have HX:=aA hx;have hz2w:=K3.out.size;clear hx hq XP NW RE RG RC KS Q4 K3 P3;obtain ⟨Y,hY⟩:∃ Y,w5.setCell ⟨ab,10,none⟩ (.slice wa acc.length wc)=Y:=⟨_,rfl⟩;rw [hY] at P6 K6 N6 NW2 RE2 RG2 RC2
 try rw [hY]
 clear hY;obtain ⟨m0,m1,m2,m3,m4,m5,m6,m7,m8,m9,m10⟩:=aD NW2.out;obtain ⟨b0,b1,b2,b3,b4,b5,b6,b7,b8,b9,b10⟩:=aD N6.out;obtain ⟨z0,z1,z2,z3,z4,z5,z6,z7,z8,z9,z10⟩:=dX N6.out;go_wp2_with fail
 have KP:=eG Y w.heap.size x q;obtain ⟨y0,y1,y2,y3,y4,y5,y6,y7,y8,y9,y10⟩:=aD (gU (t:=28) N6.out x q)
 have P:J8 ts rb a c (agS ts) w (.returned (agV x q)) (f8 Y w.heap.size x q):=by
  refine ⟨x,q,atR s,s.bad,rfl,P6.out.kept KP (fun k hk=>by omega),K6.out.trans (KP.mono (T:=fun i=>w.heap.size<=i) (fun i hi _=>by omega)) (fun i hi hl=>by omega),?_⟩;have hr:=HR.out;unfold agS;cases hc:d9 ts 6 [] (mE ts) with
  | bad pq eq =>
    rw [hc] at hr;simp only at hr |-
    exact ⟨fun h=>hr.1 (hr.2.2.trans h),hr.2.1,hr.2.2⟩
  | ok l =>
    rw [hc] at hr;simp only at hr |-
    refine ⟨hr.1,?_,?_⟩
    · rw [<- hr.2];exact HX.out.symm
    · exact ⟨(RE2.out.keptS KP (fun k hk=>by omega)).imp (fun b _ hb=>by omega),(RG2.out.keptS KP (fun k hk=>by omega)).imp (fun b _ hb=>by omega),(RC2.out.keptS KP (fun k hk=>by omega)).imp (fun b _ hb=>by omega)⟩
 exact bodyPost_ret (v:=agV x q) (by simp [results,Tryz.results29,go_sem,y0,y1,y2,y3,y4,y5,y6,y7,y8,y9,y10]) rfl P
def agQ (n:Nat) (L:List Tk):uO->uO
 | .bad p e=>.bad (j8 n L p) e
 | .ok a=>.ok a
theorem wP {X:World} {p:Addr} {v:Option Value} (h:X.cell? p=v):X.drew.cell? p=v:=h
theorem Ed {X:World} {B:Nat} {v:Option Obj} (h:X.heap[B]? = v):X.drew.heap[B]? = v:=h
theorem BH {B:Nat} {w w':World} (h:Below B w w'):Below B w w'.drew:=⟨h.os,h.tape,h.output,h.size,h.block⟩
section
variable {w:World} {ts:List Tk} {rb ab:Nat} {a:Option Addr} {c:Nat} {x:AG} {p:PA} {qs:List QC} {s:RS} {V:World}
theorem F3:∃ i z,Tryz.prog.info? 90=some i/\i.zero=some z/\i.size=9/\i.bytes=144/\z.cells.size=9:=by
 have h:(Tryz.prog.info? 90).map (fun i=>(i.zero.map (fun z=>z.cells.size),i.size,i.bytes))=some (some 9,9,144):=by kernel_rfl
 cases hx:Tryz.prog.info? 90 with
 | none=>rw [hx] at h;cases h
 | some i =>
   rw [hx] at h;simp only [Option.map_some,Option.some.injEq,Prod.mk.injEq] at h;obtain ⟨h1,h2,h3⟩:=h;cases hz:i.zero with
   | none=>rw [hz] at h1;cases h1
   | some z =>
     rw [hz] at h1;exact ⟨i,z,rfl,hz,h2,h3,by simpa using h1⟩
theorem tG (W:World) (d:CD) (q:QC):∀ j u,(eT d q)[j]? = some u->(W.alloc (.cells #[.string d.op,.string d.a.op,.string d.a.nm,.int .i64 d.a.n,.slice q.a1 d.a.ks.len q.c1,.string d.b.op,.string d.b.nm,.int .i64 d.b.n,.slice q.a2 d.b.ks.len q.c2] 90)).cell? ((⟨W.heap.size,0,none⟩:Addr).add j)=some u:=fun j u hu=>by
 obtain ⟨p0,p1,p2,p3,p4,p5,p6,p7,p8⟩:=kQ (heap_alloc_new W (cdO d q.a1 q.c1 q.a2 q.c2));rw [Addr.add_lit];match j,hu with
 | 0,h=>cases h;exact p0
 | 1,h=>cases h;exact p1
 | 2,h=>cases h;exact p2
 | 3,h=>cases h;exact p3
 | 4,h=>cases h;exact p4
 | 5,h=>cases h;exact p5
 | 6,h=>cases h;exact p6
 | 7,h=>cases h;exact p7
 | 8,h=>cases h;exact p8
 | n+9,h=>simp at h
theorem JN {w1:World} {n m:Nat} {a:Option Addr} {c:Nat} {ts:List Tk} (h:gZ w1 a ts) (hq:∀ q,(Value.slice a m c).ownBlock=some q->n<q):ts=[]\/∃ b off,a=some ⟨b,off,none⟩/\n<b:=by
 rcases h with h | ⟨b,off,e, -, -⟩
 · exact .inl h
 · exact .inr ⟨b,off,e,hq b (by rw [e];rfl)⟩
end
theorem EG (s:ByteArray) (ts:List Tk) (a:Option Addr) (c p:Nat) (hp:p<=ts.length) (w:World) (hr:gZ w a ts) :
 Calls Tryz.prog 30 #[.string s,.slice a ts.length c,.int .i64 p] w fun e w'=>e=.returned (.int .i64 ((j8 s.size ts p:Nat):Int))/\w=w':=by
 by_cases hlt:p<ts.length
 · obtain ⟨b,off,ha, -,hc⟩:=hr.resolve_left (by intro e;rw [e] at hlt;simp at hlt)
   obtain ⟨-, -, -,p3⟩:=hc p hlt;subst ha;have e:j8 s.size ts p=ts[p].place:=by unfold j8;rw [List.getElem?_eq_getElem hlt]
   rw [e];have a1:((p:Int) == (ts.length:Int))=false:=by rw [beq_eq_false_iff_ne];omega
   have a2:(p:Int)<(ts.length:Int):=by omega
   have a3:(0:Int)<=(p:Int):=by omega
   have a4:((p:Int)).toNat=p:=by omega
   clear hc;go_enter Tryz.func30,Tryz.ntmps30
   go_wp2_with fail
   go_ret;exact ⟨rfl,rfl⟩
 · have e:j8 s.size ts p=s.size:=by unfold j8;rw [List.getElem?_eq_none (by omega)]
   rw [e];have a1:((p:Int) == (ts.length:Int))=true:=by rw [beq_iff_eq];omega
   clear hr;go_enter Tryz.func30,Tryz.ntmps30
   go_wp2_with fail
   go_ret;exact ⟨rfl,rfl⟩
theorem PR.drew {ts:List Tk} {rb:Nat} {a:Option Addr} {c p:Nat} {er:Int} {w:World} (h:PR ts rb a c p er w):PR ts rb a c p er w.drew:=h.drewN 1
theorem Fq {ts:List Tk} {rb:Nat} {a:Option Addr} {c pos:Nat} {er:Int} {W:World} (h:PR ts rb a c pos er W) {B:Nat} (hB:B<rb) (ht:ts=[]\/∃ b off,a=some ⟨b,off,none⟩/\B<b) :
 (f8 W B aU aW).drew.cell? ⟨rb,1,none⟩=some (.int .i64 (pos:Nat))/\(f8 W B aU aW).drew.cell? ⟨rb,2,none⟩=some (.int .i64 er)/\gZ (f8 W B aU aW).drew a ts:=by
 have KP:=eG W B aU aW
 have P0:PR ts rb a c pos er (f8 W B aU aW):=by
  refine ⟨KP.heap h.r (by omega),?_,h.p,h.n⟩;rcases h.t with h0 | ⟨b,off,rfl,hlt,hc⟩
  · exact .inl h0
  · rcases ht with h0 | ⟨b',off',e,hb⟩
    · exact .inl h0
    · cases e
      refine .inr ⟨b,off,rfl,hlt,fun j hj=>?_⟩;obtain ⟨c0,c1,c2,c3⟩:=hc j hj;exact ⟨KP.cell c0 (by show ¬ b=B;omega),KP.cell c1 (by show ¬ b=B;omega),KP.cell c2 (by show ¬ b=B;omega),KP.cell c3 (by show ¬ b=B;omega)⟩
 obtain ⟨⟨u0,u1,u2⟩, -⟩:=cS P0.r;exact ⟨wP u1,wP u2,P0.drew.reads⟩
theorem Dx {W:World} {B:Nat} (h:W.heap[B]? = some (agP aU aW)):(f8 W B aU aW).drew.heap[B]? = some (agP aU aW):=Ed (gU (t:=28) h aU aW)
theorem Hk {ts:List Tk} {rb:Nat} {a:Option Addr} {c pos:Nat} {er:Int} {w W:World} {s:ByteArray} (_h:PR ts rb a c pos er W) (hb:Below w.heap.size w W) :
 mT (agQ s.size ts (.bad pos er)) w (.returned (.tuple #[agV aU aW,.int .i64 ((j8 s.size ts pos:Nat):Int),.int .i64 er])) (f8 W w.heap.size aU aW).drew :=
 ⟨BH (hb.trans ((eG W w.heap.size aU aW).below (B:=w.heap.size) (fun k hk=>by omega) hb.size)),rfl⟩
theorem Jg (s0:ByteArray) (hm:s0.size<=281474976710656) (w:World) (hw:gK w) {p:Nat} {er:Int} (hL:gR s0.data.toList=.bad p er):Calls Tryz.prog 9 #[.string s0] w (mT (.bad p er) w):=by
 obtain ⟨-,qe⟩:=zV hL;have B1:=(Below.refl w.heap.size w).alloc (Nat.le_refl _) (agP aU aW);have NB:=heap_alloc_new w (agP aU aW);have hs0:(w.alloc (agP aU aW)).heap.size=w.heap.size+1:=World.size_alloc _ _;have HL:=aA (hw.step B1);generalize hW:w.alloc (agP aU aW)=W at *;have HW:=aA hW;have C:=aA (rJ s0 hm W HL.out);rw [hL] at C;clear hW hw;go_enter Tryz.func9,Tryz.ntmps9
 go_upto_region 1 with fail
 rw [show w.alloc (.cells #[.string ⟨#[]⟩,.int .i64 0,.string ⟨#[]⟩,.string ⟨#[]⟩,.int .i64 0,.slice none 0 0,.string ⟨#[]⟩,.string ⟨#[]⟩,.int .i64 0,.slice none 0 0,.slice none 0 0] 28)=W from HW.out];go_wp2_with fail
 refine C.out.mono ?_;rintro e w1 ⟨hb,rfl⟩;have N1:=(hb.block w.heap.size (by omega)).trans NB;have hz:=hb.size;have B2:=aA (B1.trans (hb.mono (by omega)));obtain ⟨z0,z1,z2,z3,z4,z5,z6,z7,z8,z9,z10⟩:=dX N1;obtain ⟨b0,b1,b2,b3,b4,b5,b6,b7,b8,b9,b10⟩:=aD N1;have N2:=aA N1;clear hb N1 C HW;go_wp2_with fail
 have KP:=eG w1 w.heap.size aU aW;obtain ⟨y0,y1,y2,y3,y4,y5,y6,y7,y8,y9,y10⟩:=aD (gU (t:=28) N2.out aU aW);dsimp only [f8,aU,aW,aR,F.len,List.length_nil] at y0 y1 y2 y3 y4 y5 y6 y7 y8 y9 y10;exact bodyPost_ret (v:=.tuple #[agV aU aW,.int .i64 (p:Nat),.int .i64 er]) (by simp [results,Tryz.results9,go_sem,y0,y1,y2,y3,y4,y5,y6,y7,y8,y9,y10,aU,aW,aR,F.len]) rfl ⟨B2.out.trans (KP.below (B:=w.heap.size) (fun k hk=>by omega) (by omega)),rfl⟩
theorem Jf (s0:ByteArray) (hm:s0.size<=281474976710656) (w:World) (hw:gK w) {ts:List Tk} (hL:gR s0.data.toList=.ok ts):Calls Tryz.prog 9 #[.string s0] w (mT (agQ s0.size ts (agL ts)) w):=by
 rw [JF];have hlen:=FN hL;have B1:=(Below.refl w.heap.size w).alloc (Nat.le_refl _) (agP aU aW);have NB:=heap_alloc_new w (agP aU aW);have hs0:(w.alloc (agP aU aW)).heap.size=w.heap.size+1:=World.size_alloc _ _;have HL:=aA (hw.step B1);generalize hW:w.alloc (agP aU aW)=W at *;have HW:=aA hW;have C:=aA (rJ s0 hm W HL.out);rw [hL] at C;have HB1:=aA B1;have HNB:=aA NB;have HGT:=aA (qN hL);have HOT:=aA (H8 hL);obtain ⟨R,hR⟩:∃ R,agS ts=R:=⟨_,rfl⟩;rw [hR];have HRR:=aA hR;clear hW hw hR B1 NB HL hL;go_enter Tryz.func9,Tryz.ntmps9
 go_upto_region 1 with fail
 rw [show w.alloc (.cells #[.string ⟨#[]⟩,.int .i64 0,.string ⟨#[]⟩,.string ⟨#[]⟩,.int .i64 0,.slice none 0 0,.string ⟨#[]⟩,.string ⟨#[]⟩,.int .i64 0,.slice none 0 0,.slice none 0 0] 28)=W from HW.out];go_wp2_with fail
 refine C.out.mono ?_;rintro e w1 ⟨hb,a,c,rfl,ho⟩;have hz:=hb.size;have N1:=(hb.block w.heap.size (by omega)).trans HNB.out;have B2:=HB1.out.trans (hb.mono (by omega));have R1:=AH ho;have TK:=aA (JN (n:=w.heap.size) (m:=ts.length) (c:=c) R1 (fun q hq=>by have:=(ho.lt q hq).1;omega));have BA:=(Below.refl w1.heap.size w1).alloc (Nat.le_refl _) (.cells #[.slice a ts.length c,.int .i64 0,.int .i64 0] 75);have NA:=heap_alloc_new w1 (.cells #[.slice a ts.length c,.int .i64 0,.int .i64 0] 75);have hs1:(w1.alloc (.cells #[.slice a ts.length c,.int .i64 0,.int .i64 0] 75)).heap.size=w1.heap.size+1:=World.size_alloc _ _
 have P1:=aA (show PR ts w1.heap.size a c 0 0 (w1.alloc (.cells #[.slice a ts.length c,.int .i64 0,.int .i64 0] 75)) from
  ⟨NA,(Cb R1).kept (aE BA (fun _=>False)) (fun _ h=>h.elim),Nat.zero_le _,by omega⟩)
 have N2:=aA ((BA.block w.heap.size (by omega)).trans N1);have B3:=aA (B2.trans (BA.mono (by omega)));clear hb N1 B2 R1 BA NA ho C HW HB1 HNB;go_upto_region 5 with fail
 generalize w1.alloc (.cells #[.slice a ts.length c,.int .i64 0,.int .i64 0] 75)=W1 at *;generalize w1.heap.size=rb at *;have CA:=aA (GD ts HGT.out HOT.out rb a c W1 P1.out);rw [HRR.out] at CA;go_wp2_with fail
 refine CA.out.mono ?_;rintro e w2 ⟨x,q,pos,er,rfl,P2,K2,hres⟩;have BA:=(Below.refl w2.heap.size w2).alloc (Nat.le_refl _) (agP x q);have NA:=heap_alloc_new w2 (agP x q);have hs2:(w2.alloc (agP x q)).heap.size=w2.heap.size+1:=World.size_alloc _ _;have hz2:=K2.size;have P3:=aA (P2.below BA);have N3:=aA ((BA.block w.heap.size (by omega)).trans (K2.heap N2.out (by omega)));have B4:=aA ((B3.out.trans (K2.below (B:=w.heap.size) (fun k hk=>by omega) (by omega))).trans (BA.mono (by omega)));have HRE:=aA hres;have HBA:=aA BA;clear P2 K2 BA CA P1 N2 B3 hres;go_upto_region 6 with fail
 generalize w2.alloc (agP x q)=W2 at *;generalize hab:w2.heap.size=ab at *;have P4:=aA P3.out;obtain ⟨⟨c0,c1,c2⟩, -⟩:=cS P3.out.r;have HNA:=aA NA;clear P3 NA;have hh:=HRE.out;cases R with
 | bad pq eq =>
   simp only at hh;obtain ⟨hne,rfl,rfl⟩:=hh;have q1:((er:Int) != 0)=true:=by simpa using hne
   have RT:gZ W2.drew a ts:=P4.out.drew.reads;have HPP:=aA P4.out.p;have cch:=Fq P4.out (B:=w.heap.size) (by omega) TK.out;dsimp only [f8,aU,aW,aR,F.len,List.length_nil] at cch;have CCH:=aA cch;clear cch;have YY:=aA (Dx (W:=W2) N3.out);have pf:=Hk (s:=s0) (er:=er) P4.out B4.out;dsimp only [f8,aU,aW,aR,F.len,List.length_nil] at pf;have PF:=aA pf;clear pf;clear hne;go_upto_region 7 with fail
   obtain ⟨z0,z1,z2,z3,z4,z5,z6,z7,z8,z9,z10⟩:=dX N3.out;obtain ⟨b0,b1,b2,b3,b4,b5,b6,b7,b8,b9,b10⟩:=aD N3.out;dsimp only [aU,aW,aR,F.len,List.length_nil] at b0 b1 b2 b3 b4 b5 b6 b7 b8 b9 b10;refine wp_region_held_drew (S:=fun V=>V.cell? ⟨rb,1,none⟩=some (.int .i64 (pos:Nat))/\V.cell? ⟨rb,2,none⟩=some (.int .i64 er)/\gZ V a ts) (by kernel_rfl) ⟨c1,c2,RT⟩ (fun hHeld=>?_);refine aB (i:=0) (d:=some 27) (v:=.agg #[.string ⟨#[]⟩,.int .i64 0,.string ⟨#[]⟩,.string ⟨#[]⟩,.int .i64 0,.slice none 0 0,.string ⟨#[]⟩,.string ⟨#[]⟩,.int .i64 0,.slice none 0 0,.slice none 0 0]) rfl rfl (by kernel_rfl) (by kernel_rfl) (by kernel_rfl) (fun _ _ _ h=>h) (Or.inl ⟨by rfl,by rintro w ⟨c1,c2,rt⟩;go_simp⟩) hHeld ?_;simp only [Act.put,Kk,Kl,Km];refine aB (i:=1) (d:=some 28) (v:=.string s0) rfl rfl (by kernel_rfl) (by kernel_rfl) (by kernel_rfl) (fun _ _ _ h=>h) (Or.inl ⟨by rfl,by rintro w ⟨c1,c2,rt⟩;go_simp⟩) hHeld ?_;simp only [Act.put,Kk,Kl,Km];refine aB (i:=2) (d:=some 29) (v:=.slice a ts.length c) rfl rfl (by kernel_rfl) (by kernel_rfl) (by kernel_rfl) (fun _ _ _ h=>h) (Or.inl ⟨by rfl,by rintro w ⟨c1,c2,rt⟩;go_simp⟩) hHeld ?_;simp only [Act.put,Kk,Kl,Km];refine aB (i:=3) (d:=some 30) (v:=.pointer (some ⟨rb,1,none⟩)) rfl rfl (by kernel_rfl) (by kernel_rfl) (by kernel_rfl) (fun _ _ _ h=>h) (Or.inl ⟨by rfl,by rintro w ⟨c1,c2,rt⟩;go_simp⟩) hHeld ?_;simp only [Act.put,Kk,Kl,Km];refine aB (i:=4) (d:=some 31) (v:=.int .i64 (pos:Nat)) rfl rfl (by kernel_rfl) (by kernel_rfl) (by kernel_rfl) (fun _ _ _ h=>h) (Or.inl ⟨by rfl,by rintro w ⟨c1,c2,rt⟩;go_simp⟩) hHeld ?_
   simp only [Act.put,Kk,Kl,Km];refine aB (i:=6) (d:=some 33) (v:=.pointer (some ⟨rb,2,none⟩)) rfl rfl (by kernel_rfl) (by kernel_rfl) (by kernel_rfl) (fun _ _ _ h=>h) (Or.inl ⟨by rfl,by rintro w ⟨c1,c2,rt⟩;go_simp⟩) hHeld ?_;simp only [Act.put,Kk,Kl,Km];refine aB (i:=7) (d:=some 34) (v:=.int .i64 er) rfl rfl (by kernel_rfl) (by kernel_rfl) (by kernel_rfl) (fun _ _ _ h=>h) (Or.inl ⟨by rfl,by rintro w ⟨c1,c2,rt⟩;go_simp⟩) hHeld ?_;simp only [Act.put,Kk,Kl,Km];refine wpAnyH_ready (rs:=[5]) (by kernel_rfl) (by simp) ?_;refine AllReadyH.cons (o:=_) rfl (fun K hK=>?_) AllReadyH.nil;go_simp
   refine (EG s0 ts a c pos HPP.out W2.drew RT).mono ?_;rintro e w5 ⟨rfl,rfl⟩;refine hK.out _ _ hHeld (fun hHeld2=>?_);try simp only [Act.put,Kk,Kl,Km]
   clear hK K;have CC:=CCH.out;refine wpAnyH_ready (rs:=[8]) (by kernel_rfl) (by simp) ?_;refine AllReadyH.cons (o:=_) rfl (fun K hK=>?_) AllReadyH.nil;go_simp
   refine hK.out _ _ CC (fun hHeld3=>?_);try simp only [Act.put,Kk,Kl,Km]
   clear hK K;refine aB (i:=9) (d:=some 3) (v:=.int .i64 ((j8 s0.size ts pos:Nat):Int)) rfl rfl (by kernel_rfl) (by kernel_rfl) (by kernel_rfl) (fun _ _ _ h=>h) (Or.inl ⟨by rfl,by rintro w ⟨c1,c2,rt⟩;go_simp⟩) hHeld3 ?_;simp only [Act.put,Kk,Kl,Km];refine aB (i:=10) (d:=some 4) (v:=.int .i64 er) rfl rfl (by kernel_rfl) (by kernel_rfl) (by kernel_rfl) (fun _ _ _ h=>h) (Or.inl ⟨by rfl,by rintro w ⟨c1,c2,rt⟩;go_simp⟩) hHeld3 ?_;simp only [Act.put,Kk,Kl,Km];refine wpAnyH_done (by kernel_rfl) ?_ _;obtain ⟨y0,y1,y2,y3,y4,y5,y6,y7,y8,y9,y10⟩:=aD YY.out;dsimp only [f8,aU,aW,aR,F.len,List.length_nil] at y0 y1 y2 y3 y4 y5 y6 y7 y8 y9 y10;clear hHeld hHeld2 hHeld3 CC c0 c1 c2 RT z0 z1 z2 z3 z4 z5 z6 z7 z8 z9 z10 b0 b1 b2 b3 b4 b5 b6 b7 b8 b9 b10;go_wp2
   exact bodyPost_ret (v:=.tuple #[agV aU aW,.int .i64 ((j8 s0.size ts pos:Nat):Int),.int .i64 er]) (by simp [results,Tryz.results9,go_sem,y0,y1,y2,y3,y4,y5,y6,y7,y8,y9,y10,aU,aW,aR,F.len]) rfl PF.out
 | ok y =>
   simp only at hh;obtain ⟨rfl,rfl,rd⟩:=hh;obtain ⟨m0,m1,m2,m3,m4,m5,m6,m7,m8,m9,m10⟩:=aD HNA.out;obtain ⟨z0,z1,z2,z3,z4,z5,z6,z7,z8,z9,z10⟩:=dX N3.out;obtain ⟨b0,b1,b2,b3,b4,b5,b6,b7,b8,b9,b10⟩:=aD N3.out;have RD:=aA (rd.kept (by rw [hab];exact HBA.out));have hlt:w.heap.size<ab:=by have:=hz2;omega
   clear rd;go_wp2_with fail
   have KP:=eG W2 w.heap.size x q;obtain ⟨y0,y1,y2,y3,y4,y5,y6,y7,y8,y9,y10⟩:=aD (gU (t:=28) N3.out x q)
   have PF:=aA (show mT (agQ s0.size ts (.ok x)) w (.returned (.tuple #[agV x q,.int .i64 0,.int .i64 0])) (f8 W2 w.heap.size x q) from
    ⟨B4.out.trans (KP.below (B:=w.heap.size) (fun k hk=>by omega) B4.out.size),q,rfl,(RD.out.keptS KP (fun k hk=>by omega)).imp (fun b _ hb=>by omega)⟩)
   exact bodyPost_ret (v:=.tuple #[agV x q,.int .i64 0,.int .i64 0]) (by simp [results,Tryz.results9,go_sem,y0,y1,y2,y3,y4,y5,y6,y7,y8,y9,y10]) rfl PF.out
theorem iA (s0:ByteArray) (hm:s0.size<=281474976710656) (w:World) (hw:gK w):Calls Tryz.prog 9 #[.string s0] w (mT (agX s0.data.toList) w):=by
 have hl:s0.data.toList.length=s0.size:=by simp
 cases hL:gR s0.data.toList with
 | bad p er =>
   have e:agX s0.data.toList=.bad p er:=by unfold agX;rw [hL]
   rw [e];exact Jg s0 hm w hw hL
 | ok ts =>
   have e:agX s0.data.toList=agQ s0.size ts (agL ts):=by
    unfold agX agQ;rw [hL,hl];simp only;cases agL ts <;> rfl
   rw [e];exact Jf s0 hm w hw hL
end
end Go.Proofs.YtapcjnoaofmmiaaGreatDoor
