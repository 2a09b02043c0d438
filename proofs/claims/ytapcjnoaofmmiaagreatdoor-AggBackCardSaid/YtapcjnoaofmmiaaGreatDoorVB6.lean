/-
 No statement: what AggBackCard needs, of the texts OE10.
-/
import Derived.Test.YtapcjnoaofmmiaaGreatDoorVB5
set_option maxHeartbeats 40000000
set_option maxRecDepth 100000
namespace Go.Proofs.YtapcjnoaofmmiaaGreatDoor
section
section
structure iQ {K:Type} (less:K->K->Bool):Prop where
 irrefl:∀ a,less a a=false
 trans:∀ a b c,less a b=true->less b c=true->less a c=true
 total:∀ a b,less a b=false->less b a=false->a=b
section
variable {K:Type} {less:K->K->Bool}
def pos (less:K->K->Bool) (ks:List K) (x:K):Nat:=(ks.takeWhile (fun k=>less k x)).length
def cF (less:K->K->Bool) (ks:List K):Prop:=ks.Pairwise (fun a b=>less a b=true)
theorem iQ.asymm (o:iQ less) {a b:K} (h:less a b=true):less b a=false:=by
 cases hb:less b a with
 | false=>rfl
 | true=>have:=o.trans a b a h hb;rw [o.irrefl] at this;cases this
theorem sY (ks:List K) (x:K):pos less ks x<=ks.length:=(List.takeWhile_sublist _).length_le
theorem zQ (k:K) (r:List K) (x:K):pos less (k::r) x=if less k x=true then pos less r x+1 else 0:=by
 unfold pos;rw [List.takeWhile_cons];split <;> simp_all
theorem lH:∀ (ks:List K) (x:K) (t:Nat) (k:K),t<pos less ks x->ks[t]? = some k->less k x=true
 | [],x,t,k,h,hk=>by simp at hk
 | a :: r, x, t, k, h, hk => by
   rw [zQ] at h;by_cases ha:less a x=true
   · rw [if_pos ha] at h
     cases t with
     | zero=>simp at hk;rw [<- hk];exact ha
     | succ t=>exact lH r x t k (by omega) (by simpa using hk)
   · rw [if_neg ha] at h;omega
theorem AK:∀ (ks:List K) (x:K) (k:K),ks[pos less ks x]? = some k->less k x=false
 | [],x,k,hk=>by simp [pos] at hk
 | a :: r, x, k, hk => by
   rw [zQ] at hk;by_cases ha:less a x=true
   · rw [if_pos ha] at hk
     exact AK r x k (by simpa using hk)
   · rw [if_neg ha] at hk
     simp at hk;rw [<- hk];simpa using ha
theorem qF {ks:List K} (h:cF less ks) {i j:Nat} {a b:K} (hij:i<j) (ha:ks[i]? = some a) (hb:ks[j]? = some b):less a b=true:=by
 obtain ⟨hi,rfl⟩:=List.getElem?_eq_some_iff.1 ha;obtain ⟨hj,rfl⟩:=List.getElem?_eq_some_iff.1 hb;exact List.pairwise_iff_getElem.1 h i j hi hj hij
theorem vL (o:iQ less) {ks:List K} (h:cF less ks) {x:K} {t:Nat} {k:K} (ht:pos less ks x<=t) (hk:ks[t]? = some k):less k x=false:=by
 obtain ⟨hlt,_⟩:=List.getElem?_eq_some_iff.1 hk;have hp:pos less ks x<ks.length:=by omega
 have h0:ks[pos less ks x]? = some (ks[pos less ks x]):=List.getElem?_eq_getElem hp;have h1:=AK ks x _ h0;generalize ks[pos less ks x]=y at h0 h1;rcases Nat.lt_or_ge (pos less ks x) t with hlt' | hge
 · have h2:=qF h hlt' h0 hk
   cases hb:less k x with
   | false=>rfl
   | true=>have:=o.trans _ _ _ h2 hb;rw [h1] at this;cases this
 · have:pos less ks x=t:=by omega
   rw [this] at h0;rw [h0] at hk;cases hk;exact h1
theorem AJ {ks:List K} {x:K} {p:Nat} (hp:p<=ks.length) (h1:∀ t k,t<p->ks[t]? = some k->less k x=true) (h2:∀ k,ks[p]? = some k->less k x=false):pos less ks x=p:=by
 rcases Nat.lt_trichotomy (pos less ks x) p with hlt | heq | hgt
 · have hk:ks[pos less ks x]? = some (ks[pos less ks x]'(by omega)):=List.getElem?_eq_getElem (by omega)
   have:=h1 _ _ hlt hk;rw [AK ks x _ hk] at this;cases this
 · exact heq
 · have hl:=sY (less:=less) ks x
   have hk:ks[p]? = some (ks[p]'(by omega)):=List.getElem?_eq_getElem (by omega);have:=lH ks x p _ hgt hk;rw [h2 _ hk] at this;cases this
theorem iI (o:iQ less) {ks:List K} (h:cF less ks) {x:K}:x∈ks ↔ ks[pos less ks x]? = some x:=by
 constructor
 · intro hm
   obtain ⟨i,hi,rfl⟩:=List.mem_iff_getElem.1 hm;have hk:ks[i]? = some ks[i]:=List.getElem?_eq_getElem hi;have:pos less ks ks[i]=i:=AJ (Nat.le_of_lt hi) (fun t k ht hkt=>qF h ht hkt hk) (fun k hkk=>by rw [hk] at hkk;cases hkk;exact o.irrefl _);rw [this];exact hk
 · intro hk
   exact List.mem_of_getElem? hk
def has [DecidableEq K] (ks:List K) (x:K):Bool:=ks.any (fun k=>decide (k=x))
theorem lU [DecidableEq K] (ks:List K) (x:K):has ks x=true ↔ x∈ks:=by simp [has]
theorem F6 [DecidableEq K] {ks:List K} {x:K} (h:x ∉ ks):has ks x=false:=by
 cases hb:has ks x with
 | false=>rfl
 | true=>exact absurd ((lU ks x).1 hb) h
theorem wC [DecidableEq K] (o:iQ less) {ks:List K} (h:cF less ks) {x y:K} {p:Nat} (hp:pos less ks x=p) (hy:ks[p]? = some y):has ks x=decide (y=x):=by
 subst hp;by_cases hxy:y=x
 · subst hxy
   rw [(lU _ _).2 ((iI o h).2 hy)];simp
 · have:x ∉ ks:=fun hm=>hxy (by have:=(iI o h).1 hm;rw [hy] at this;exact Option.some.inj this)
   rw [F6 this];simp [hxy]
theorem tT [DecidableEq K] (o:iQ less) {ks:List K} (h:cF less ks) {x:K} {p:Nat} (hp:pos less ks x=p) (hl:ks.length<=p):has ks x=false:=by
 subst hp
 have:x ∉ ks:=fun hm=>by
  have:=(iI o h).1 hm;rw [List.getElem?_eq_none hl] at this;cases this
 exact F6 this
theorem sO (o:iQ less) {ks:List K} (h:cF less ks) (x:K) :
 Lib.bsGo (fun t=>less (ks.getD t x) x) ks.length 0 ks.length=pos less ks x:=by
 refine Lib.bsGo_spec _ _ (fun t ht=>?_) (fun t ht=>?_) _ _ _ (by omega) (Nat.zero_le _) (sY _ _)
 · have hl:=sY (less:=less) ks x
   have hk:ks[t]? = some (ks[t]'(by omega)):=List.getElem?_eq_getElem (by omega);show less (ks.getD t x) x=true;rw [List.getD_eq_getElem?_getD,hk];exact lH ks x t _ ht hk
 · show less (ks.getD t x) x=false
   rw [List.getD_eq_getElem?_getD];cases hk:ks[t]? with
   | none=>exact o.irrefl x
   | some k=>exact vL o h ht hk
theorem uS (o:iQ less) {ks:List K} (h:cF less ks) {x:K} (hx:x ∉ ks):cF less (ks.take (pos less ks x)++x::ks.drop (pos less ks x)):=by
 unfold cF at *;rw [List.pairwise_append,List.pairwise_cons];refine ⟨h.take,⟨fun a ha=>?_,h.drop⟩,fun a ha b hb=>?_⟩
 · obtain ⟨i,hi⟩:=List.mem_iff_getElem?.1 ha
   rw [List.getElem?_drop] at hi;have:=vL o h (x:=x) (by omega) hi;cases hb:less x a with
   | true=>rfl
   | false=>have e:=o.total _ _ this hb;rw [e] at hi;exact absurd (List.mem_of_getElem? hi) hx
 · obtain ⟨i,hi⟩:=List.mem_iff_getElem?.1 ha
   rw [List.getElem?_take] at hi;split at hi
   · rename_i hip
     have h1:=lH ks x i a hip hi;rcases List.mem_cons.1 hb with rfl | hb
     · exact h1
     · obtain ⟨j,hj⟩:=List.mem_iff_getElem?.1 hb
       rw [List.getElem?_drop] at hj;exact qF h (by omega) hi hj
   · cases hi
variable [DecidableEq K]
def f7 (less:K->K->Bool) (ks:List K) (x:K):List K:=if has ks x=true then ks else ks.take (pos less ks x)++x::ks.drop (pos less ks x)
theorem fT (o:iQ less) {ks:List K} (hr:cF less ks) (x:K):cF less (f7 less ks x):=by
 unfold f7;split
 · exact hr
 · rename_i hb
   exact uS o hr (fun hm=>hb ((lU ks x).2 hm))
theorem kS (ks:List K) (x y:K):y∈f7 less ks x ↔ y∈ks\/y=x:=by
 unfold f7;split
 · rename_i hb
   have hx:=(lU ks x).1 hb;exact ⟨Or.inl,fun h=>h.elim id (fun e=>e ▸ hx)⟩
 · have e:y∈ks ↔ y∈ks.take (pos less ks x)\/y∈ks.drop (pos less ks x):=by
    rw [<- List.mem_append,List.take_append_drop]
   rw [List.mem_append,List.mem_cons,e];constructor
   · rintro (h | h | h)
     · exact Or.inl (Or.inl h)
     · exact Or.inr h
     · exact Or.inl (Or.inr h)
   · rintro ((h | h) | h)
     · exact Or.inl h
     · exact Or.inr (Or.inr h)
     · exact Or.inr (Or.inl h)
omit [DecidableEq K] in
theorem oH (o:iQ less):∀ {a b:List K},cF less a->cF less b->(∀ x,x∈a ↔ x∈b)->a=b
 | [],[],_,_,_=>rfl
 | [],y::_,_,_,h=>by have:=(h y).2 (List.Mem.head _);cases this
 | x::_,[],_,_,h=>by have:=(h x).1 (List.Mem.head _);cases this
 | x :: r, y :: s, ha, hb, h => by
   obtain ⟨ha1,ha2⟩:=List.pairwise_cons.1 ha;obtain ⟨hb1,hb2⟩:=List.pairwise_cons.1 hb
   have hxy:x=y:=by
    rcases List.mem_cons.1 ((h x).1 (List.Mem.head _)) with e | e
    · exact e
    · rcases List.mem_cons.1 ((h y).2 (List.Mem.head _)) with e' | e'
      · exact e'.symm
      · have h1:=hb1 x e
        have h2:=ha1 y e';rw [o.asymm h1] at h2;cases h2
   subst hxy;congr 1
   refine oH o ha2 hb2 (fun z=>⟨fun hz=>?_,fun hz=>?_⟩)
   · rcases List.mem_cons.1 ((h z).1 (List.Mem.tail _ hz)) with e | e
     · subst e;have:=ha1 z hz;rw [o.irrefl] at this;cases this
     · exact e
   · rcases List.mem_cons.1 ((h z).2 (List.Mem.tail _ hz)) with e | e
     · subst e;have:=hb1 z hz;rw [o.irrefl] at this;cases this
     · exact e
end
def lsS (a b:ByteArray):Bool:=Op.bytesLess a.toList b.toList
def lsL (a b:Int):Bool:=decide (a<b)
theorem fZ:iQ lsL where
 irrefl a:=by simp [lsL]
 trans a b c h1 h2:=by simp [lsL] at *;omega
 total a b h1 h2:=by simp [lsL] at *;omega
theorem gY:∀ l:List UInt8,Op.bytesLess l l=false
 | []=>rfl
 | a::r=>by simp [Op.bytesLess,gY r]
theorem jT (a b:UInt8) (x y:List UInt8):Op.bytesLess (a::x) (b::y)=true ↔ a.toNat<b.toNat\/(a.toNat=b.toNat/\Op.bytesLess x y=true):=by
 rw [Op.bytesLess];simp only [Bool.or_eq_true,Bool.and_eq_true,decide_eq_true_eq,beq_iff_eq,UInt8.lt_iff_toNat_lt,UInt8.toNat_inj]
theorem lY:∀ a b c:List UInt8,Op.bytesLess a b=true->Op.bytesLess b c=true->Op.bytesLess a c=true
 | _,[],_,h,_=>by simp [Op.bytesLess] at h
 | _,_::_,[],_,h=>by simp [Op.bytesLess] at h
 | [],_::_,_::_,_,_=>by simp [Op.bytesLess]
 | a :: x, b :: y, c :: z, h1, h2 => by
   rw [jT] at *;rcases h1 with h1 | ⟨h1,h1'⟩ <;> rcases h2 with h2 | ⟨h2,h2'⟩
   · exact Or.inl (by omega)
   · exact Or.inl (by omega)
   · exact Or.inl (by omega)
   · exact Or.inr ⟨by omega,lY x y z h1' h2'⟩
theorem iP:∀ a b:List UInt8,Op.bytesLess a b=false->Op.bytesLess b a=false->a=b
 | [],[],_,_=>rfl
 | [],_::_,h,_=>by simp [Op.bytesLess] at h
 | _::_,[],_,h=>by simp [Op.bytesLess] at h
 | a :: x, b :: y, h1, h2 => by
   have n1:=mt (jT a b x y).2 (by rw [h1];simp);have n2:=mt (jT b a y x).2 (by rw [h2];simp);simp only [not_or,not_and,Bool.not_eq_true] at n1 n2;have e:a.toNat=b.toNat:=by omega
   have:=iP x y (n1.2 e) (n2.2 e.symm);rw [this,UInt8.toNat_inj.1 e]
theorem uG {a b:ByteArray} (h:a.toList=b.toList):a=b:=by
 rw [Lib.toList_data,Lib.toList_data] at h;cases a with
 | mk ad => cases b with
   | mk bd=>exact congrArg ByteArray.mk (Array.toList_inj.1 h)
theorem oZ:iQ lsS where
 irrefl _:=gY _
 trans _ _ _ h1 h2:=lY _ _ _ h1 h2
 total _ _ h1 h2:=uG (iP _ _ h1 h2)
end
section
open Go.RowKit
def bT:F->List TN
 | .nil=>[]
 | .cons o m n ks r=>⟨o,m,n,ks⟩::((if a7 o=0 then [] else bT ks)++bT r)
def lV (a b:TN):Bool:=(a.op.data.toList == b.op.data.toList) && (if bD a.op=true then a.n == b.n else if aV a.op=true then a.nm.data.toList == b.nm.data.toList else a.ks.len == b.ks.len)
def dS:List TN->List TN->Bool
 | [],[]=>true
 | a::x,b::y=>lV a b && dS x y
 | _,_=>false
theorem uI {o:ByteArray}:a7 o=0 ↔ (bD o || aV o)=true:=by
 unfold a7;by_cases h:(bD o || aV o)=true
 · simp [h]
 · rw [if_neg h]
   constructor
   · intro h2
     split at h2
     · cases h2
     · split at h2 <;> cases h2
   · intro h2;exact absurd h2 h
theorem Cx {o m:ByteArray} {n:Int} {k:Nat} (h:iX o m n k=0):a7 o=(k:Int):=by
 unfold iX at h;by_cases h1:(a7 o != (k:Int))=true
 · rw [if_pos h1] at h;cases h
 · simpa using h1
theorem JU {o o':ByteArray} (h:o.data.toList=o'.data.toList):o=o':=dO h
theorem wO {o m:ByteArray} {n:Int} {ks r:F} (h:aT (.cons o m n ks r)=0):iX o m n ks.len=0/\aT ks=0/\aT r=0:=by
 rw [aT] at h;by_cases h1:iX o m n ks.len=0
 · rw [if_pos h1] at h
   by_cases h2:aT ks=0
   · rw [if_pos h2] at h;exact ⟨h1,h2,h⟩
   · rw [if_neg h2] at h;exact absurd h h2
 · rw [if_neg h1] at h;exact absurd h h1
theorem tN {f:F} (h:f.len=0):f=.nil:=by
 cases f with
 | nil=>rfl
 | cons o m n k r=>simp [F.len] at h
theorem sX:∀ (f g:F) (X Y:List TN),aT f=0->aT g=0->f.len=g.len->dS (bT f++X) (bT g++Y)=(eC f g && dS X Y)
 | .nil,.nil,X,Y,_,_,_=>by simp [bT,eC]
 | .nil,.cons _ _ _ _ _,_,_,_,_,h=>by simp [F.len] at h
 | .cons _ _ _ _ _,.nil,_,_,_,_,h=>by simp [F.len] at h
 | .cons o m n ks r, .cons o' m' n' ks' r', X, Y, hf, hg, hl => by
   obtain ⟨e1,c1,r1⟩:=wO hf;obtain ⟨e2,c2,r2⟩:=wO hg;have hr:r.len=r'.len:=by simp [F.len] at hl;exact hl
   have a1:=Cx e1;have a2:=Cx e2;rw [bT,bT,eC];simp only [List.cons_append,dS];by_cases ho:o.data.toList=o'.data.toList
   · obtain rfl:=JU ho
     have hk:ks.len=ks'.len:=by rw [a1] at a2;exact_mod_cast a2
     have ihr:=sX r r' X Y r1 r2 hr;by_cases hz:a7 o=0
     · rw [if_pos hz,if_pos hz,List.nil_append,List.nil_append,ihr]
       obtain rfl:=tN (f:=ks) (by rw [hz] at a1;exact_mod_cast a1.symm);obtain rfl:=tN (f:=ks') (by rw [hz] at a2;exact_mod_cast a2.symm);rw [eC];have hz':=uI.1 hz;unfold lV;simp only;by_cases hn:bD o=true
       · have hnn:aV o=false:=by rw [FB hn];rfl
         rw [if_pos hn,hn,hnn];simp [bne,Bool.and_assoc]
       · have hm:aV o=true:=by simpa [hn] using hz'
         rw [if_neg hn,if_pos hm,hm];simp [hn,bne,Bool.and_assoc]
     · rw [if_neg hz,if_neg hz,List.append_assoc,List.append_assoc,sX ks ks' _ _ c1 c2 hk,ihr]
       have h1:bD o=false/\aV o=false:=by
        have:¬ (bD o || aV o)=true:=fun h=>hz (uI.2 h)
        simpa using this
       unfold lV;simp only;rw [h1.1,h1.2,hk];simp [Bool.and_assoc]
   · unfold lV
     have:(o.data.toList == o'.data.toList)=false:=by simpa using ho
     simp only [this,Bool.false_and]
theorem Dy {a b:TN} (ha:OkT a) (hb:OkT b):dS (bT a.f) (bT b.f)=bW a b:=by
 have h:=sX a.f b.f [] [] ha hb rfl;rw [List.append_nil,List.append_nil] at h;rw [h];simp [dS,bW]
theorem pI:∀ (f:F),(bT f).length<=bL f
 | .nil=>Nat.le_refl _
 | .cons o m n ks r => by
   have h1:=pI ks;have h2:=pI r;rw [bT,bL,List.length_cons,List.length_append];split
   · simp;omega
   · omega
theorem kT:∀ (f:F),f.len<=bL f
 | .nil=>Nat.le_refl _
 | .cons o m n ks r => by
   have h2:=kT r;rw [F.len,bL];omega
end
section
open Go.RowKit
theorem aH (w:World):Below w.heap.size w w.drew:=⟨rfl,rfl,rfl,Nat.le_refl _,fun _ _=>rfl⟩
theorem dV.at {P:TN->Prop}:∀ {f:F} {j:Nat} {t:TN},dV P f->f.at j=some t->P t
 | .nil,_,_,_,h=>by cases h
 | .cons o m n ks r, 0, t, hp, h => by
   have:(⟨o,m,n,ks⟩:TN)=t:=Option.some.inj h;rw [<- this];exact hp.1
 | .cons _ _ _ _ r,j+1,t,hp,h=>dV.at (f:=r) hp.2 h
theorem xV {P:TN->Prop} (step:∀ t:TN,dV P t.ks->P t):∀ f:F,dV P f
 | .nil=>trivial
 | .cons o m n ks r=>⟨step ⟨o,m,n,ks⟩ (xV step ks),xV step r⟩
theorem jZ {P:TN->Prop} (step:∀ t:TN,dV P t.ks->P t) (t:TN):P t:=step t (xV step t.ks)
theorem bR {G:Nat->Prop} {w:World} {a:Option Addr} {ks:F} {j:Nat} {t:TN} (h:aI G w a ks) (hj:ks.at j=some t) :
 ∃ b off a2 c2,a=some ⟨b,off,none⟩/\G b/\b<w.heap.size/\(w.cell? ⟨b,off+j*4,none⟩=some (.string t.op)/\w.cell? ⟨b,off+j*4+1,none⟩=some (.string t.nm)/\w.cell? ⟨b,off+j*4+2,none⟩=some (.int .i64 t.n)/\w.cell? ⟨b,off+j*4+3,none⟩=some (.slice a2 t.ks.len c2))/\aI G w a2 t.ks:=by
 rcases h with rfl | ⟨b,off,ha,h⟩
 · cases hj
 · have hlt:j<ks.len:=by
    rcases Nat.lt_or_ge j ks.len with h' | h'
    · exact h'
    · exfalso
      have:∀ (f:F) (j:Nat),f.len<=j->f.at j=none:=by
       intro f;induction f with
       | nil=>intro j _;rfl
       | cons o m n k r _ ih => intro j hj; cases j with
         | zero=>simp [F.len] at hj
         | succ j=>exact ih j (by simp [F.len] at hj;omega)
      rw [this ks j h'] at hj;cases hj
   obtain ⟨t',h1,h2⟩:=F.drop_at ks j hlt;rw [hj] at h1;obtain rfl:=Option.some.inj h1;have hd:=h.drop j;rw [h2] at hd;obtain ⟨g1,g2,⟨a2,c2,hc,hk⟩,_⟩:=hd;exact ⟨b,off,a2,c2,ha,g1,g2,hc,hk⟩
theorem dC {ks:F} {j:Nat} (h:j<ks.len):∃ t,ks.at j=some t/\ks.drop j=.cons t.op t.nm t.n t.ks (ks.drop (j+1)):=F.drop_at ks j h
theorem FV (o:ByteArray) (w:World):Calls Tryz.prog 139 #[.string o] w fun e w'=>e=.returned (.int .i64 (a7 o))/\w=w':=by
 have E:a7 o=if (o.toList == [110,117,109] || o.toList == [110,97,109,101])=true then 0 else if (o.toList == [110,101,103])=true then 1 else if (o.toList == [43] || o.toList == [45] || o.toList == [42] || o.toList == [47] || o.toList == [37])=true then 2 else -1:=by
  unfold a7 bD aV eL jR jV fX gJ;rw [Lib.toList_data]
 cases h0:(o.toList == [110,117,109]) with
 | true =>
   have R:=aA (show a7 o=0 by rw [E];simp [h0]);clear E;go_enter Tryz.func139,Tryz.ntmps139
   go_wp2_with fail
   go_ret;rw [R.out];exact ⟨rfl,rfl⟩
 | false =>
   cases h1:(o.toList == [110,97,109,101]) with
   | true =>
     have R:=aA (show a7 o=0 by rw [E];simp [h0,h1]);clear E;go_enter Tryz.func139,Tryz.ntmps139
     go_wp2_with fail
     go_ret;rw [R.out];exact ⟨rfl,rfl⟩
   | false =>
     cases h2:(o.toList == [110,101,103]) with
     | true =>
       have R:=aA (show a7 o=1 by rw [E];simp [h0,h1,h2]);clear E;go_enter Tryz.func139,Tryz.ntmps139
       go_wp2_with fail
       go_ret;rw [R.out];exact ⟨rfl,rfl⟩
     | false =>
       cases h3:(o.toList == [43]) with
       | true =>
         have R:=aA (show a7 o=2 by rw [E];simp [h0,h1,h2,h3]);clear E;go_enter Tryz.func139,Tryz.ntmps139
         go_wp2_with fail
         go_ret;rw [R.out];exact ⟨rfl,rfl⟩
       | false =>
         cases h4:(o.toList == [45]) with
         | true =>
           have R:=aA (show a7 o=2 by rw [E];simp [h0,h1,h2,h3,h4]);clear E;go_enter Tryz.func139,Tryz.ntmps139
           go_wp2_with fail
           go_ret;rw [R.out];exact ⟨rfl,rfl⟩
         | false =>
           cases h5:(o.toList == [42]) with
           | true =>
             have R:=aA (show a7 o=2 by rw [E];simp [h0,h1,h2,h3,h4,h5]);clear E;go_enter Tryz.func139,Tryz.ntmps139
             go_wp2_with fail
             go_ret;rw [R.out];exact ⟨rfl,rfl⟩
           | false =>
             cases h6:(o.toList == [47]) with
             | true =>
               have R:=aA (show a7 o=2 by rw [E];simp [h0,h1,h2,h3,h4,h5,h6]);clear E;go_enter Tryz.func139,Tryz.ntmps139
               go_wp2_with fail
               go_ret;rw [R.out];exact ⟨rfl,rfl⟩
             | false =>
               cases h7:(o.toList == [37]) with
               | true =>
                 have R:=aA (show a7 o=2 by rw [E];simp [h0,h1,h2,h3,h4,h5,h6,h7]);clear E;go_enter Tryz.func139,Tryz.ntmps139
                 go_wp2_with fail
                 go_ret;rw [R.out];exact ⟨rfl,rfl⟩
               | false =>
                 have R:=aA (show a7 o= -1 by rw [E];simp [h0,h1,h2,h3,h4,h5,h6,h7]);clear E;go_enter Tryz.func139,Tryz.ntmps139
                 go_wp2_with fail
                 go_ret;rw [R.out];exact ⟨rfl,rfl⟩
def mS:F->Prop
 | .nil=>True
 | .cons _ _ _ ks r=>ks.len<=9223372036854775807/\mS ks/\mS r
theorem mS.at:∀ {f:F} {j:Nat} {t:TN},mS f->f.at j=some t->mS t.f
 | .nil,_,_,_,h=>by cases h
 | .cons o m n ks r, 0, t, hp, h => by
   have:(⟨o,m,n,ks⟩:TN)=t:=Option.some.inj h;rw [<- this];exact ⟨hp.1,hp.2.1,trivial⟩
 | .cons _ _ _ _ r,j+1,t,hp,h=>mS.at (f:=r) hp.2.2 h
theorem Bw:∀ (f:F) (l:Int), -1<=l -> -1<=gX f l
 | .nil,l,h=>h
 | .cons _ _ _ ks r, l, h => by
   rw [gX];split
   · exact h
   · exact Bw r _ (Bw ks _ (by omega))
def GY (t:TN):Prop:=∀ (G:Nat->Prop) (w:World) (a:Option Addr) (c:Nat) (l:Int),0<=l->l<=1000->mS t.f->aI G w a t.ks->Calls Tryz.prog 92 #[bI t.op t.nm t.n a t.ks.len c,.int .i64 l] w fun e w'=>e=.returned (.int .i64 (gX t.ks (l-1)))/\Below w.heap.size w w'
theorem Gs (t:TN) (ih:dV GY t.ks):GY t:=by
 intro G w a c l hl0 hl1 hL hr;have R:=aA hr;have IH:=aA ih;obtain ⟨hm,hL2, -⟩:=hL;have LK:=aA hL2;obtain ⟨r,hR⟩:∃ r,gX t.ks (l-1)=r:=⟨_,rfl⟩;rw [hR];have H0:=aA (show gX (t.ks.drop 0) (l-1)=r by rw [F.drop_zero];exact hR);have NB:=aA (heap_alloc_new w (ndO t.op t.nm t.n a t.ks.len c));have B0:=aA ((Below.refl w.heap.size w).alloc (Nat.le_refl _) (ndO t.op t.nm t.n a t.ks.len c));clear hr ih hR hL2;go_enter Tryz.func92,Tryz.ntmps92
 go_wp2_with fail
 generalize w.alloc (ndO t.op t.nm t.n a t.ks.len c)=W at NB B0 |-
 go_loopw [1,5] (fun v i wr=>∃ (k:Nat) (x:Int),i=.int .i64 k/\v=.int .i64 x/\k<=t.ks.len /\ -1<=x/\x<=1000/\Hid (gX (t.ks.drop k) x=r)/\Hid (Below w.heap.size w wr)/\Hid (wr.heap[w.heap.size]? = some (ndO t.op t.nm t.n a t.ks.len c))) (fun _ i _=>t.ks.len-(intOf i).toNat)
 case atStart=>exact ⟨0,l-1,rfl,rfl,Nat.zero_le _,by omega,by omega,H0,B0,NB⟩
 case round =>
  obtain ⟨k,x,rfl,rfl,hk,hx0,hx1,hE,hB,hN⟩:=hrel;obtain ⟨⟨m0,m1,m2,m3⟩, -⟩:=aO hN.out;by_cases hlt:k<t.ks.len
  · obtain ⟨t2,hat,hdr⟩:=dC hlt
    by_cases hx:x<0
    · have RR:=aA (show x=r by rw [<- hE.out,hdr,gX,if_pos hx])
      have g0:¬ (0:Int)<=x:=by omega
      clear hat hdr hx;go_wp2_with fail
      go_ret;rw [RR.out];exact ⟨rfl,hB.out⟩
    · have g0:(0:Int)<=x:=by omega
      obtain ⟨b,off,a2,c2,ha,hG,hbl,⟨p0,p1,p2,p3⟩,hr2⟩:=bR (R.out.kept hB.out) hat;have EN:=aA (show gX (t.ks.drop (k+1)) (gX t2.ks (x-1))=r by rw [<- hE.out,hdr,gX,if_neg hx]);have C:=aA ((dV.at IH.out hat) G wr a2 c2 x g0 hx1 (LK.out.at hat) hr2);have h1:=Bw t2.ks (x-1) (by omega);have h2:=qW t2.ks (x-1);subst ha;obtain ⟨y,hy⟩:∃ y,gX t2.ks (x-1)=y:=⟨_,rfl⟩;rw [hy] at C EN h1 h2;clear hat hdr hx hr2 hy;go_wp2_with fail
      refine C.out.mono ?_;rintro e w1 ⟨rfl,hb⟩;have hz:=hB.out.size;have B1:=aA (hB.out.trans (hb.mono hz));have N1:=aA ((hb.block _ (aC hN.out)).trans hN.out);clear hb C m0 m1 m2 m3;go_wp2_with fail
      go_roundw
      case rel=>exact ⟨k+1,y,by go_num,rfl,by omega,h1,by omega,EN,B1,N1⟩
      case measure=>simp [intOf];omega
  · have RR:=aA (show x=r by rw [<- hE.out,F.drop_len _ _ (by omega)];rfl)
    go_wp2_with fail
    go_ret;rw [RR.out];exact ⟨rfl,hB.out⟩
theorem IF (t:TN):GY t:=jZ Gs t
end
section
open Go.RowKit
def SzF:F->Prop
 | .nil=>True
 | .cons _ m _ ks r=>m.size<=281474976710656/\ks.len<=9223372036854775807/\SzF ks/\SzF r
theorem SzF.at:∀ {f:F} {j:Nat} {t:TN},SzF f->f.at j=some t->SzF t.f
 | .nil,_,_,_,h=>by cases h
 | .cons o m n ks r, 0, t, hp, h => by
   have:(⟨o,m,n,ks⟩:TN)=t:=Option.some.inj h;rw [<- this];exact ⟨hp.1,hp.2.1,hp.2.2.1,trivial⟩
 | .cons _ _ _ _ r,j+1,t,hp,h=>SzF.at (f:=r) hp.2.2.2 h
theorem SzF.lens:∀ {f:F},SzF f->mS f
 | .nil,_=>trivial
 | .cons _ _ _ _ _,h=>⟨h.2.1,h.2.2.1.lens,h.2.2.2.lens⟩
theorem uF {f:F} {t:TN} {r:F} (h:f=.cons t.op t.nm t.n t.ks r):aT f=if aT t.f=0 then aT r else aT t.f:=by
 rw [h,aT,mQ];by_cases h1:iX t.op t.nm t.n t.ks.len=0
 · rw [if_pos h1,if_pos h1]
 · rw [if_neg h1,if_neg h1,if_neg h1]
def GZ (t:TN):Prop:=∀ (G:Nat->Prop) (w:World) (a:Option Addr) (c:Nat),SzF t.f->aI G w a t.ks->Calls Tryz.prog 93 #[bI t.op t.nm t.n a t.ks.len c] w fun e w'=>e=.returned (.int .i64 (aT t.f))/\Below w.heap.size w w'
theorem Gt (t:TN) (ih:dV GZ t.ks):GZ t:=by
 intro G w a c hS hr;have R:=aA hr;have IH:=aA ih;obtain ⟨hn,hm,hL2, -⟩:=hS;have LK:=aA hL2;obtain ⟨r,hR⟩:∃ r,aT t.f=r:=⟨_,rfl⟩;rw [hR];rw [mQ] at hR;have NB:=aA (heap_alloc_new w (ndO t.op t.nm t.n a t.ks.len c));have B0:=aA ((Below.refl w.heap.size w).alloc (Nat.le_refl _) (ndO t.op t.nm t.n a t.ks.len c))
 have hE:iX t.op t.nm t.n t.ks.len=if (a7 t.op != (t.ks.len:Int))=true then 2 else if ((t.op.toList == [110,97,109,101]) && !dQ t.nm.data.toList)=true then 5 else if ((t.op.toList == [110,117,109]) && decide (t.n<0))=true then 1 else 0:=by
  unfold iX aV bD jV fX;rw [Lib.toList_data]
 obtain ⟨ar,har⟩:∃ ar,a7 t.op=ar:=⟨_,rfl⟩;have KC:=aA (fun V=>FV t.op V);rw [har] at KC hE;obtain ⟨gd,hgd⟩:∃ gd,dQ t.nm.data.toList=gd:=⟨_,rfl⟩;have NC:=aA (fun V=>Dt t.nm hn V);rw [hgd] at NC hE;clear hr ih hL2 hgd har;obtain ⟨p,hp⟩:∃ p,(t.op.toList == [110,97,109,101])=p:=⟨_,rfl⟩;obtain ⟨q,hq⟩:∃ q,(t.op.toList == [110,117,109])=q:=⟨_,rfl⟩;rw [hp,hq] at hE;by_cases h1:ar=(t.ks.len:Int)
 · subst h1
   rw [if_neg (by simp)] at hE;cases p with
   | true =>
     obtain rfl:q=false:=by
      rw [<- hq,eq_of_beq hp];rfl
     cases gd with
     | false =>
       have RR:=aA (show (5:Int)=r by rw [<- hR,hE];rfl);clear hR hE;go_enter Tryz.func93,Tryz.ntmps93
       go_wp2_with fail
       generalize w.alloc (ndO t.op t.nm t.n a t.ks.len c)=W at NB B0 |-
       obtain ⟨⟨m0,m1,m2,m3⟩, -⟩:=aO NB.out;go_wp2_with (go_quiet ((first | (go_at_call 139;refine (KC.out _).mono ?_;rintro e w1 ⟨he,rfl⟩;exact ⟨he,_,rfl⟩) | fail)))
       have N1:=aA (show (W.drewN nq).heap[w.heap.size]? = some (ndO t.op t.nm t.n a t.ks.len c) from NB.out);have B1:=aA (eY B0.out nq);generalize W.drewN nq=W1 at N1 B1 |-
       clear NB B0 m0 m1 m2 m3;obtain ⟨⟨m0,m1,m2,m3⟩, -⟩:=aO N1.out;go_wp2_with fail
       refine (NC.out _).mono ?_;rintro e w1 ⟨rfl,rfl⟩;go_wp2_with fail
       go_ret;rw [RR.out];exact ⟨rfl,B1.out⟩
     | true =>
       have H0:=aA (show aT (t.ks.drop 0)=r by rw [F.drop_zero, <- hR,hE];rfl);clear hR hE;go_enter Tryz.func93,Tryz.ntmps93
       go_wp2_with fail
       generalize w.alloc (ndO t.op t.nm t.n a t.ks.len c)=W at NB B0 |-
       obtain ⟨⟨m0,m1,m2,m3⟩, -⟩:=aO NB.out;go_wp2_with (go_quiet ((first | (go_at_call 139;refine (KC.out _).mono ?_;rintro e w1 ⟨he,rfl⟩;exact ⟨he,_,rfl⟩) | fail)))
       have N1:=aA (show (W.drewN nq).heap[w.heap.size]? = some (ndO t.op t.nm t.n a t.ks.len c) from NB.out);have B1:=aA (eY B0.out nq);generalize W.drewN nq=W1 at N1 B1 |-
       clear NB B0 m0 m1 m2 m3;obtain ⟨⟨m0,m1,m2,m3⟩, -⟩:=aO N1.out;go_wp2_with fail
       refine (NC.out _).mono ?_;rintro e w1 ⟨rfl,rfl⟩;go_wp2_with fail
       go_loopw [3] (fun i wr=>∃ (k:Nat),i=.int .i64 k/\k<=t.ks.len/\Hid (aT (t.ks.drop k)=r)/\Hid (Below w.heap.size w wr)/\Hid (wr.heap[w.heap.size]? = some (ndO t.op t.nm t.n a t.ks.len c))) (fun i _=>t.ks.len-(intOf i).toNat)
       case atStart=>exact ⟨0,rfl,Nat.zero_le _,H0,B1,N1⟩
       case round =>
        obtain ⟨k,rfl,hk,hE,hB,hN⟩:=hrel;clear m0 m1 m2 m3;obtain ⟨⟨m0,m1,m2,m3⟩, -⟩:=aO hN.out;by_cases hlt:k<t.ks.len
        · obtain ⟨t2,hat,hdr⟩:=dC hlt
          obtain ⟨b,off,a2,c2,ha,hG,hbl,⟨p0,p1,p2,p3⟩,hr2⟩:=bR (R.out.kept hB.out) hat;have EN:=aA (show (if aT t2.f=0 then aT (t.ks.drop (k+1)) else aT t2.f)=r from (uF hdr).symm.trans hE.out);have C:=aA ((dV.at IH.out hat) G wr a2 c2 (LK.out.at hat) hr2);subst ha;obtain ⟨y,hy⟩:∃ y,aT t2.f=y:=⟨_,rfl⟩;rw [hy] at C EN;clear hat hdr hr2 hy;go_wp2_with fail
          refine C.out.mono ?_;rintro e w2 ⟨rfl,hb⟩;have hz:=hB.out.size;have B2:=aA (hB.out.trans (hb.mono hz));have N2:=aA ((hb.block _ (aC hN.out)).trans hN.out);clear hb C m0 m1 m2 m3;by_cases hy:y=0
          · subst hy
            have EN2:=aA (EN.out.symm.trans (if_pos rfl)).symm;clear EN;go_wp2_with fail
            go_roundw
            case rel=>exact ⟨k+1,by go_num,by omega,EN2,B2,N2⟩
            case measure=>simp [intOf];omega
          · have RR:=aA (show y=r by rw [<- EN.out,if_neg hy])
            clear EN;go_wp2_with fail
            go_ret;rw [RR.out];exact ⟨rfl,B2.out⟩
        · have RR:=aA (show (0:Int)=r by rw [<- hE.out,F.drop_len _ _ (by omega)];rfl)
          go_wp2_with fail
          go_ret;rw [RR.out];exact ⟨rfl,hB.out⟩
   | false =>
     by_cases h2:(q && decide (t.n<0))=true
     · obtain ⟨rfl,h3⟩:q=true/\t.n<0:=by simpa using h2
       have RR:=aA (show (1:Int)=r by rw [<- hR,hE,if_neg (show ¬ (false && !gd)=true by simp),if_pos h2,if_neg (by decide)]);clear hR hE h2;go_enter Tryz.func93,Tryz.ntmps93
       go_wp2_with fail
       generalize w.alloc (ndO t.op t.nm t.n a t.ks.len c)=W at NB B0 |-
       obtain ⟨⟨m0,m1,m2,m3⟩, -⟩:=aO NB.out;go_wp2_with (go_quiet ((first | (go_at_call 139;refine (KC.out _).mono ?_;rintro e w1 ⟨he,rfl⟩;exact ⟨he,_,rfl⟩) | fail)))
       have N1:=aA (show (W.drewN nq).heap[w.heap.size]? = some (ndO t.op t.nm t.n a t.ks.len c) from NB.out);have B1:=aA (eY B0.out nq);generalize W.drewN nq=W1 at N1 B1 |-
       clear NB B0 m0 m1 m2 m3;obtain ⟨⟨m0,m1,m2,m3⟩, -⟩:=aO N1.out;go_wp2_with fail
       go_ret;rw [RR.out];exact ⟨rfl,B1.out⟩
     · rw [if_neg (show ¬ (false && !gd)=true by simp),if_neg h2] at hE
       have H0:=aA (show aT (t.ks.drop 0)=r by rw [F.drop_zero, <- hR,hE];rfl);cases q with
       | false =>
         clear hR hE h2;go_enter Tryz.func93,Tryz.ntmps93
         go_wp2_with fail
         generalize w.alloc (ndO t.op t.nm t.n a t.ks.len c)=W at NB B0 |-
         obtain ⟨⟨m0,m1,m2,m3⟩, -⟩:=aO NB.out;go_wp2_with (go_quiet ((first | (go_at_call 139;refine (KC.out _).mono ?_;rintro e w1 ⟨he,rfl⟩;exact ⟨he,_,rfl⟩) | fail)))
         have N1:=aA (show (W.drewN nq).heap[w.heap.size]? = some (ndO t.op t.nm t.n a t.ks.len c) from NB.out);have B1:=aA (eY B0.out nq);generalize W.drewN nq=W1 at N1 B1 |-
         clear NB B0 m0 m1 m2 m3;obtain ⟨⟨m0,m1,m2,m3⟩, -⟩:=aO N1.out;go_wp2_with fail
         go_loopw [3] (fun i wr=>∃ (k:Nat),i=.int .i64 k/\k<=t.ks.len/\Hid (aT (t.ks.drop k)=r)/\Hid (Below w.heap.size w wr)/\Hid (wr.heap[w.heap.size]? = some (ndO t.op t.nm t.n a t.ks.len c))) (fun i _=>t.ks.len-(intOf i).toNat)
         case atStart=>exact ⟨0,rfl,Nat.zero_le _,H0,B1,N1⟩
         case round =>
          obtain ⟨k,rfl,hk,hE,hB,hN⟩:=hrel;clear m0 m1 m2 m3;obtain ⟨⟨m0,m1,m2,m3⟩, -⟩:=aO hN.out;by_cases hlt:k<t.ks.len
          · obtain ⟨t2,hat,hdr⟩:=dC hlt
            obtain ⟨b,off,a2,c2,ha,hG,hbl,⟨p0,p1,p2,p3⟩,hr2⟩:=bR (R.out.kept hB.out) hat;have EN:=aA (show (if aT t2.f=0 then aT (t.ks.drop (k+1)) else aT t2.f)=r from (uF hdr).symm.trans hE.out);have C:=aA ((dV.at IH.out hat) G wr a2 c2 (LK.out.at hat) hr2);subst ha;obtain ⟨y,hy⟩:∃ y,aT t2.f=y:=⟨_,rfl⟩;rw [hy] at C EN;clear hat hdr hr2 hy;go_wp2_with fail
            refine C.out.mono ?_;rintro e w2 ⟨rfl,hb⟩;have hz:=hB.out.size;have B2:=aA (hB.out.trans (hb.mono hz));have N2:=aA ((hb.block _ (aC hN.out)).trans hN.out);clear hb C m0 m1 m2 m3;by_cases hy:y=0
            · subst hy
              have EN2:=aA (EN.out.symm.trans (if_pos rfl)).symm;clear EN;go_wp2_with fail
              go_roundw
              case rel=>exact ⟨k+1,by go_num,by omega,EN2,B2,N2⟩
              case measure=>simp [intOf];omega
            · have RR:=aA (show y=r by rw [<- EN.out,if_neg hy])
              clear EN;go_wp2_with fail
              go_ret;rw [RR.out];exact ⟨rfl,B2.out⟩
          · have RR:=aA (show (0:Int)=r by rw [<- hE.out,F.drop_len _ _ (by omega)];rfl)
            go_wp2_with fail
            go_ret;rw [RR.out];exact ⟨rfl,hB.out⟩
       | true =>
         have h3:¬ t.n<0:=by simpa using h2
         clear hR hE h2;go_enter Tryz.func93,Tryz.ntmps93
         go_wp2_with fail
         generalize w.alloc (ndO t.op t.nm t.n a t.ks.len c)=W at NB B0 |-
         obtain ⟨⟨m0,m1,m2,m3⟩, -⟩:=aO NB.out;go_wp2_with (go_quiet ((first | (go_at_call 139;refine (KC.out _).mono ?_;rintro e w1 ⟨he,rfl⟩;exact ⟨he,_,rfl⟩) | fail)))
         have N1:=aA (show (W.drewN nq).heap[w.heap.size]? = some (ndO t.op t.nm t.n a t.ks.len c) from NB.out);have B1:=aA (eY B0.out nq);generalize W.drewN nq=W1 at N1 B1 |-
         clear NB B0 m0 m1 m2 m3;obtain ⟨⟨m0,m1,m2,m3⟩, -⟩:=aO N1.out;go_wp2_with fail
         go_loopw [3] (fun i wr=>∃ (k:Nat),i=.int .i64 k/\k<=t.ks.len/\Hid (aT (t.ks.drop k)=r)/\Hid (Below w.heap.size w wr)/\Hid (wr.heap[w.heap.size]? = some (ndO t.op t.nm t.n a t.ks.len c))) (fun i _=>t.ks.len-(intOf i).toNat)
         case atStart=>exact ⟨0,rfl,Nat.zero_le _,H0,B1,N1⟩
         case round =>
          obtain ⟨k,rfl,hk,hE,hB,hN⟩:=hrel;clear m0 m1 m2 m3;obtain ⟨⟨m0,m1,m2,m3⟩, -⟩:=aO hN.out;by_cases hlt:k<t.ks.len
          · obtain ⟨t2,hat,hdr⟩:=dC hlt
            obtain ⟨b,off,a2,c2,ha,hG,hbl,⟨p0,p1,p2,p3⟩,hr2⟩:=bR (R.out.kept hB.out) hat;have EN:=aA (show (if aT t2.f=0 then aT (t.ks.drop (k+1)) else aT t2.f)=r from (uF hdr).symm.trans hE.out);have C:=aA ((dV.at IH.out hat) G wr a2 c2 (LK.out.at hat) hr2);subst ha;obtain ⟨y,hy⟩:∃ y,aT t2.f=y:=⟨_,rfl⟩;rw [hy] at C EN;clear hat hdr hr2 hy;go_wp2_with fail
            refine C.out.mono ?_;rintro e w2 ⟨rfl,hb⟩;have hz:=hB.out.size;have B2:=aA (hB.out.trans (hb.mono hz));have N2:=aA ((hb.block _ (aC hN.out)).trans hN.out);clear hb C m0 m1 m2 m3;by_cases hy:y=0
            · subst hy
              have EN2:=aA (EN.out.symm.trans (if_pos rfl)).symm;clear EN;go_wp2_with fail
              go_roundw
              case rel=>exact ⟨k+1,by go_num,by omega,EN2,B2,N2⟩
              case measure=>simp [intOf];omega
            · have RR:=aA (show y=r by rw [<- EN.out,if_neg hy])
              clear EN;go_wp2_with fail
              go_ret;rw [RR.out];exact ⟨rfl,B2.out⟩
          · have RR:=aA (show (0:Int)=r by rw [<- hE.out,F.drop_len _ _ (by omega)];rfl)
            go_wp2_with fail
            go_ret;rw [RR.out];exact ⟨rfl,hB.out⟩
 · have RR:=aA (show (2:Int)=r by rw [<- hR,hE,if_pos (show (ar != (t.ks.len:Int))=true by simpa using h1),if_neg (by decide)])
   clear hR hE;go_enter Tryz.func93,Tryz.ntmps93
   go_wp2_with fail
   generalize w.alloc (ndO t.op t.nm t.n a t.ks.len c)=W at NB B0 |-
   obtain ⟨⟨m0,m1,m2,m3⟩, -⟩:=aO NB.out;go_wp2_with (go_quiet ((first | (go_at_call 139;refine (KC.out _).mono ?_;rintro e w1 ⟨he,rfl⟩;exact ⟨he,_,rfl⟩) | fail)))
   go_ret;rw [RR.out];exact ⟨rfl,eY B0.out _⟩
-- behind check
theorem IJ (t:TN):GZ t:=jZ Gt t
theorem dJ {G:Nat->Prop} {w:World} {a:Option Addr} {t:TN} (c:Nat) (hS:SzF t.f) (hr:aI G w a t.ks):Calls Tryz.prog 39 #[bI t.op t.nm t.n a t.ks.len c] w fun e w'=>e=.returned (.int .i64 (aF t))/\Below w.heap.size w w':=by
 have R:=aA hr;have C1:=aA (fun V (hV:Below w.heap.size w V)=>IF t G V a c 32 (by decide) (by decide) hS.lens (hr.kept hV));have C2:=aA (fun V (hV:Below w.heap.size w V)=>IJ t G V a c hS (hr.kept hV));obtain ⟨r,hR⟩:∃ r,aF t=r:=⟨_,rfl⟩;rw [hR];unfold aF at hR;obtain ⟨x,hx⟩:∃ x,gX t.ks 31=x:=⟨_,rfl⟩;obtain ⟨y,hy⟩:∃ y,aT t.f=y:=⟨_,rfl⟩;rw [show (32:Int)-1=31 from rfl,hx] at C1;rw [hx,hy] at hR;rw [hy] at C2;have B0:=aA ((Below.refl w.heap.size w).alloc (Nat.le_refl _) (ndO t.op t.nm t.n a t.ks.len c));have NB:=aA (heap_alloc_new w (ndO t.op t.nm t.n a t.ks.len c));clear hx hy hS hr;by_cases h:x<0
 · have RR:=aA (show (4:Int)=r by rw [<- hR,if_pos h])
   clear hR;go_enter Tryz.func39,Tryz.ntmps39
   go_wp2_with fail
   generalize w.alloc (ndO t.op t.nm t.n a t.ks.len c)=W at NB B0 |-
   obtain ⟨⟨m0,m1,m2,m3⟩, -⟩:=aO NB.out;go_wp2_with fail
   refine (C1.out W B0.out).mono ?_;rintro e w1 ⟨rfl,hb⟩;have B1:=aA (B0.out.trans (hb.mono B0.out.size));clear hb;go_wp2_with fail
   go_ret;rw [RR.out];exact ⟨rfl,B1.out⟩
 · have RR:=aA (show y=r by rw [<- hR,if_neg h])
   clear hR;go_enter Tryz.func39,Tryz.ntmps39
   go_wp2_with fail
   generalize w.alloc (ndO t.op t.nm t.n a t.ks.len c)=W at NB B0 |-
   obtain ⟨⟨m0,m1,m2,m3⟩, -⟩:=aO NB.out;go_wp2_with fail
   refine (C1.out W B0.out).mono ?_;rintro e w1 ⟨rfl,hb⟩;have B1:=aA (B0.out.trans (hb.mono B0.out.size));have N1:=aA ((hb.block _ (aC NB.out)).trans NB.out);clear hb m0 m1 m2 m3;obtain ⟨⟨m0,m1,m2,m3⟩, -⟩:=aO N1.out;go_wp2_with fail
   refine (C2.out w1 B1.out).mono ?_;rintro e w2 ⟨rfl,hb⟩;have B2:=aA (B1.out.trans (hb.mono B1.out.size));clear hb;go_wp2_with fail
   go_ret;rw [RR.out];exact ⟨rfl,B2.out⟩
end
section
open Go.RowKit
theorem kG {f:F} {j:Nat} {t:TN} (h:f.at j=some t):bL (f.drop j)=aM t+bL (f.drop (j+1)):=by
 have hlt:j<f.len:=by
  rcases Nat.lt_or_ge j f.len with h' | h'
  · exact h'
  · exfalso
    have:∀ (f:F) (j:Nat),f.len<=j->f.at j=none:=by
     intro f;induction f with
     | nil=>intro j _;rfl
     | cons o m n k r _ ih => intro j hj; cases j with
       | zero=>simp [F.len] at hj
       | succ j=>exact ih j (by simp [F.len] at hj;omega)
    rw [this f j h'] at h;cases h
 obtain ⟨t',h1,h2⟩:=F.drop_at f j hlt;rw [h] at h1;obtain rfl:=Option.some.inj h1;rw [h2,bL];rfl
theorem Gw {f:F} {j:Nat} {t:TN} (h:f.at j=some t):j<f.len:=by
 rcases Nat.lt_or_ge j f.len with h' | h'
 · exact h'
 · exfalso
   have:∀ (f:F) (j:Nat),f.len<=j->f.at j=none:=by
    intro f;induction f with
    | nil=>intro j _;rfl
    | cons o m n k r _ ih => intro j hj; cases j with
      | zero=>simp [F.len] at hj
      | succ j=>exact ih j (by simp [F.len] at hj;omega)
   rw [this f j h'] at h;cases h
theorem e7:∀ (f:F) (j:Nat),bL (f.drop j)<=bL f
 | f,0=>by rw [F.drop_zero];exact Nat.le_refl _
 | .nil,_+1=>Nat.le_refl _
 | .cons o m n k r, j + 1 => by
   have h:=e7 r j;rw [F.drop,bL];omega
theorem gB {w:World} {b:Nat} {v:Value} {t:TypeId} (h:w.heap[b]? = some (.cells #[v] t (0,0))):w.cell? ⟨b,0,none⟩=some v/\w.frozen? ⟨b,0,none⟩=false:=by
 constructor <;> simp [World.cell?,World.frozen?,h]
theorem xI {w:World} {b:Nat} {v:Value} {t:TypeId} (h:w.heap[b]? = some (.cells #[v] t (0,0))) (u:Value):(w.setCell ⟨b,0,none⟩ u).heap[b]? = some (.cells #[u] t (0,0)):=by
 have:=heap_setCell_same w b 0 _ t u h;simpa using this
end
section
open Go.RowKit
theorem JZ:(Tryz.prog.info? 23).map (fun i=>(i.zero,i.size,i.bytes))=some (some (.slice none 0 0),1,24):=by kernel_rfl
theorem F7 (n:Nat) (hn:n<=100000) (w:World):Calls Tryz.prog 174 #[.slice none 0 0,.int .i64 n] w fun e w'=>∃ v,e=.returned v/\w'.ownsRow w.heap.size 25 4 v 0 []/\Below w.heap.size w w':=by
 obtain ⟨i0,hi,hz0,hz1,hz2⟩:=info_parts qM;have und:Tryz.prog.underlying 23=some (.slice 25):=Tryz.underlying23;have undi:Tryz.prog.underlying 3=some (.int .i64):=Tryz.underlying3;by_cases h0:n=0
 · subst h0
   have O0:=aA (World.ownsRow_nil w w.heap.size 25 4);go_enter Tryz.func174,Tryz.ntmps174
   go_wp2_with fail
   go_ret;exact ⟨_,rfl,O0.out,Below.refl _ _⟩
 · have h1:¬ ((n:Int)<0):=by omega
   have h4:(0:Int)<(n:Int):=by omega
   have hold:(Builtin.firstCells i0.size 0 (.slice none 0 0)).run Tryz.prog w.drew=.ok #[] w.drew:=run_firstCells_none w.drew i0.size 0 0 0;have hge:n<=grownCap w (0+n) 0 25:=by have:=grownCap_ge w (0+n) 0 25;omega
   have hle:grownCap w (0+n) 0 25<=maxLen:=grownCap_le_maxLen w (0+n) 0 25 (by unfold maxLen;omega)
   have hrz:∀ ty,(Builtin.append_ #[23,3] ty #[.slice none 0 0,.int .i64 n]).run Tryz.prog w =
    .ok (.slice (some ⟨w.heap.size,0,none⟩) n (grownCap w (0+n) 0 25)) (w.drew.alloc (.cells ((#[]:Array Value)++Builtin.zeroCells (Value.agg #[.string ⟨#[]⟩,.string ⟨#[]⟩,.int .i64 0,.slice none 0 0]).cells n++Builtin.zeroCells (Value.agg #[.string ⟨#[]⟩,.string ⟨#[]⟩,.int .i64 0,.slice none 0 0]).cells (grownCap w (0+n) 0 25-(0+n))) 25)):=fun ty=>by
    have h:=Lib.run_append_grow_zeros w 23 3 ty 25 i0 _ .i64 .i64 und undi hi hz0 none 0 0 [] hold n (by omega) (by omega) (by omega) (by omega) (by rw [hz2];omega)
     (growslice_fits (by omega) (by rw [hz2];omega))
    rw [Nat.zero_add] at h |-
    exact h
   obtain ⟨Gc,hG⟩:∃ G,grownCap w (0+n) 0 25=G:=⟨_,rfl⟩;rw [hG] at hrz hge hle;obtain ⟨cur,hcur⟩:∃ cur,((#[]:Array Value)++Builtin.zeroCells (Value.agg #[.string ⟨#[]⟩,.string ⟨#[]⟩,.int .i64 0,.slice none 0 0]).cells n++Builtin.zeroCells (Value.agg #[.string ⟨#[]⟩,.string ⟨#[]⟩,.int .i64 0,.slice none 0 0]).cells (Gc-(0+n)))=cur:=⟨_,rfl⟩
   have hsz:cur.size=Gc*4:=by
    rw [<- hcur];simp only [Array.size_append,size_zeroCells];show 0+n*4+(Gc-(0+n))*4=Gc*4;omega
   rw [hcur] at hrz
   have O1:=aA (show (w.drew.alloc (.cells cur 25)).ownsRow w.heap.size 25 4 (.slice (some ⟨w.heap.size,0,none⟩) 0 Gc) 0 [] from
    ⟨rfl,.inr ⟨w.heap.size,Gc,cur,rfl,Nat.le_refl _,heap_alloc_new w.drew _,Nat.zero_le _,hle,hsz,by simp⟩⟩)
   have B1:=aA (show Below w.heap.size w (w.drew.alloc (.cells cur 25)) from ((Below.refl w.heap.size w.drew).alloc (Nat.le_refl _) _ |> fun b=>⟨b.os,b.tape,b.output,b.size,b.block⟩));clear hold hG hcur hsz;go_enter Tryz.func174,Tryz.ntmps174
   go_wp2_with (at_builtin;refine Lib.wpList_append_run _ rfl _ _ _ _ rfl _ _ rfl rfl _ _ (hrz _) ?_)
   go_ret;exact ⟨_,rfl,O1.out,B1.out⟩
def eF:List TN->List (Option Addr×Nat)->List Value
 | t::r,q::s=>ndL t q++eF r s
 | _,_=>[]
theorem pO:∀ {l:List TN} {q:List (Option Addr×Nat)},q.length=l.length->(eF l q).length=l.length*4
 | [],[],_=>rfl
 | [],_::_,h=>by simp at h
 | _::r,_::s,h=>by rw [eF,List.length_append,pO (by simpa using h),List.length_cons];simp [ndL];omega
 | _::_,[],h=>by simp at h
theorem pN:∀ (l:List TN) (q:List (Option Addr×Nat)),∀ u∈eF l q,u.oneCell'=true
 | [],_,u,h=>by rw [eF] at h;cases h;intro a b c d e;cases e
 | _::_,[],u,h=>by rw [eF] at h;cases h;intro a b c d e f;cases f
 | t :: r, q :: s, u, h => by
   rw [eF] at h;rcases List.mem_append.1 h with h | h
   · exact j1 t q u h
   · exact pN r s u h
theorem tI:∀ (l m:List TN) (q p:List (Option Addr×Nat)),q.length=l.length->eF (l++m) (q++p)=eF l q++eF m p
 | [],_,[],_,_=>rfl
 | [],_,_::_,_,h=>by simp at h
 | _::r,m,_::s,p,h=>by rw [List.cons_append,List.cons_append,eF,eF,tI r m s p (by simpa using h),List.append_assoc]
 | _::_,_,[],_,h=>by simp at h
structure lW (G:Nat->Prop) (w:World) (t:TN) (v:Value):Prop where
 h:∃ b off c qs,v=.slice (some ⟨b,off,none⟩) (bT t.f).length c/\G b/\b<w.heap.size/\qs.length=(bT t.f).length/\∀ j u,(eF (bT t.f) qs)[j]? = some u->w.cell? ⟨b,off+j,none⟩=some u
theorem kM {G H:Nat->Prop} {w:World} {t:TN} {v:Value} (h:lW G w t v) (hG:∀ b,b<w.heap.size->G b->H b):lW H w t v:=by
 obtain ⟨b,off,c,qs,h1,h2,h3,h4⟩:=h.h;exact ⟨b,off,c,qs,h1,hG b h3 h2,h3,h4⟩
theorem jM {S G:Nat->Prop} {w w':World} {t:TN} {v:Value} (h:lW G w t v) (hk:aL S w w') (hS:∀ k,S k->¬ G k):lW G w' t v:=by
 obtain ⟨b,off,c,qs,h1,h2,h3,h4,h5⟩:=h.h;exact ⟨b,off,c,qs,h1,h2,Nat.lt_of_lt_of_le h3 hk.size,h4,fun j u hj=>hk.cell (h5 j u hj) (fun hs=>hS b hs h2)⟩
theorem I6 {G:Nat->Prop} {w:World} {t:TN} {v:Value} (h:lW G w t v):∃ za zn zc,v=.slice za zn zc:=by
 obtain ⟨b,off,c,qs,h1,_⟩:=h.h;exact ⟨_,_,_,h1⟩
theorem Kb {G:Nat->Prop} {w:World} {t:TN} {v:Value} (h:lW G w t v):v.oneCell'=true:=by
 obtain ⟨b,off,c,qs,h1,_⟩:=h.h;rw [h1];rfl
theorem zP (t:TN) (r:F):bT (.cons t.op t.nm t.n t.ks r)=bT t.f++bT r:=by
 rw [TN.f,bT,bT];simp [bT]
theorem Bv (ks:F) (va:Option Addr) (vc:Nat) (vs:List Value) (base:Nat) (w:World) (ho:w.ownsRow base 23 1 (.slice va ks.len vc) ks.len vs) (hs:bL ks<=1000) {G:Nat->Prop}
 (hv:∀ j t2,ks.at j=some t2->∃ v,vs[j]? = some v/\lW G w t2 v) :
 Calls Tryz.prog 149 #[.slice va ks.len vc] w fun e w'=>∃ v qs,e=.returned v/\qs.length=(bT ks).length/\w'.ownsRow w.heap.size 25 4 v (bT ks).length (eF (bT ks) qs)/\Below w.heap.size w w':=by
 obtain ⟨i0,hi,hz0,hz1,hz2⟩:=info_parts qM;have und:Tryz.prog.underlying 23=some (.slice 25):=Tryz.underlying23;have hlen:=kT ks;have hpl:=pI ks;have HO:=aA ho;have HV:=aA hv
 have hbase:∀ k,k<ks.len->va ≠ none:=fun k hk e=>by
  rcases ho.2 with ⟨h1,h2⟩ | ⟨g,cap,cur,h1,_⟩
  · omega
  · rw [e] at h1;cases h1
 have HBN:=aA hbase
 have CELL:=aA (p:=∀ k v,k<ks.len->vs[k]? = some v->∃ g,va=some ⟨g,0,none⟩/\g<w.heap.size/\w.cell? ⟨g,k,none⟩=some v) (fun k v hk hv=>by
  obtain ⟨g,c',h1,_,_,h4⟩:=dB ho (by omega);simp only [Value.slice.injEq,true_and] at h1;exact ⟨g,h1.1,(ho.lt g (by rw [h1.1];rfl)).2,h4 k v hv⟩)
 clear ho hv hbase;go_enter Tryz.func149,Tryz.ntmps149
 go_wp2_with fail
 go_loop [3,11] (fun s i=>∃ (x k:Nat),s=.int .i64 x/\i=.int .i64 k/\k<=ks.len/\Hid (x+(bT (ks.drop k)).length=(bT ks).length)) (fun _ i=>ks.len-(intOf i).toNat)
 case atStart=>exact ⟨0,0,rfl,rfl,Nat.zero_le _,aA (by rw [F.drop_zero,Nat.zero_add])⟩
 case round =>
  obtain ⟨x,k,rfl,rfl,hk,hx⟩:=hrel;have hx9:x<=1000:=by have:=hx.out;omega
  by_cases hlt:k<ks.len
  · obtain ⟨t2,hat,hdr⟩:=dC hlt
    obtain ⟨v,hvj,hvr⟩:=HV.out k t2 hat;obtain ⟨b,off,c,qs,rfl,hG,hbl,hq,hc⟩:=hvr.h;obtain ⟨g,rfl,hg,hcell⟩:=CELL.out k _ hlt hvj;obtain ⟨m,hm⟩:∃ m,(bT t2.f).length=m:=⟨_,rfl⟩;rw [hm] at hcell;have X2:=aA (show (x+m)+(bT (ks.drop (k+1))).length=(bT ks).length by have:=hx.out;rw [hdr,zP,List.length_append,hm] at this;omega);have hxm:x+m<=1000:=by have:=X2.out;omega
    have a1:¬ ((x:Int)+(m:Int)<0):=by omega
    clear hat hdr hvj hvr hc hm;go_wp2_with fail
    go_round
    case rel=>exact ⟨x+m,k+1,by go_num,by go_num,by omega,X2⟩
    case measure=>simp [intOf];omega
  · obtain rfl:k=ks.len:=by omega
    have hx2:=aA (show x=(bT ks).length by have:=hx.out;rw [F.drop_len _ _ (Nat.le_refl _)] at this;simpa [bT] using this);have CG:=aA (F7 x (by omega) w);clear hx;go_wp2_with fail
    refine CG.out.mono ?_;rintro e w1 ⟨v0,rfl,ho0,hb0⟩;obtain ⟨a0,c0,rfl⟩:=fE ho0;have O0:=aA ho0;have B0:=aA hb0;clear ho0 hb0 CG;go_wp2_with fail
    go_loopw [6,27] (fun s i wr=>∃ (k:Nat) (xa:Option Addr) (xc:Nat) (done:List TN) (qs:List (Option Addr×Nat)),s=.slice xa done.length xc/\i=.int .i64 k/\k<=ks.len/\Hid (bT ks=done++bT (ks.drop k))/\Hid (qs.length=done.length)/\Hid (wr.ownsRow w.heap.size 25 4 (.slice xa done.length xc) done.length (eF done qs))/\Hid (Below w.heap.size w wr)) (fun _ i _=>ks.len-(intOf i).toNat)
    case atStart=>exact ⟨0,a0,c0,[],[],rfl,rfl,Nat.zero_le _,aA (by rw [F.drop_zero];rfl),aA rfl,O0,B0⟩
    case round =>
     obtain ⟨k,xa,xc,done,qs,rfl,rfl,hk2,hD,hQ,hO,hB⟩:=hrel;by_cases hlt2:k<ks.len
     · obtain ⟨t2,hat,hdr⟩:=dC hlt2
       obtain ⟨v,hvj,hvr⟩:=HV.out k t2 hat;obtain ⟨b,off,c,qs2,rfl,hG,hbl,hq,hc⟩:=hvr.h;obtain ⟨g,rfl,hg,hcell⟩:=CELL.out k _ hlt2 hvj;have hz:=hB.out.size;have hcell2:=(hB.out.cell (p:=⟨g,k,none⟩) hg).trans hcell
       have C2:=aA (p:=∀ j u,(eF (bT t2.f) qs2)[j]? = some u->wr.cell? ((⟨b,off,none⟩:Addr).add j)=some u) (fun j u hj=>by
        rw [Addr.add_lit];exact (hB.out.cell (p:=⟨b,off+j,none⟩) hbl).trans (hc j u hj))
       have hq2:=aA (pO hq);have HQ2:=aA hq;have HH:=aA (show bT ks=(done++bT t2.f)++bT (ks.drop (k+1)) by rw [hD.out,hdr,zP,List.append_assoc])
       have hb1:done.length+(bT t2.f).length<=1000:=by
        have:=congrArg List.length HH.out;simp only [List.length_append] at this;omega
       clear hat hdr hvj hvr hc hcell hq;go_wp2_with (at_builtin;refine aY rfl _ _ 23 rfl und hi hz0 hz1 hz2 rfl (by decide) (.slice xa done.length xc) done.length (bT t2.f).length c ⟨b,off,none⟩ (eF done qs) (eF (bT t2.f) qs2) rfl rfl hO.out hq2.out C2.out (pN _ _) (by unfold maxLen;omega) (by omega) hz ?_)
       intro v3 w3 ho hgr _;obtain ⟨xa3,xc3,rfl⟩:=fE ho;have e1:done.length+(bT t2.f).length=(done++bT t2.f).length:=by rw [List.length_append]
       rw [e1, <- tI _ _ _ _ hQ.out] at ho;have O3:=aA ho;have B3:=aA (hB.out.grown hgr hz (fun q hq=>(hO.out.lt q hq).1));have Q3:=aA (show (qs++qs2).length=(done++bT t2.f).length by rw [List.length_append,List.length_append,hQ.out,HQ2.out]);rw [e1];clear ho hgr e1;go_wp2_with fail
       go_roundw
       case rel=>exact ⟨k+1,xa3,xc3,done++bT t2.f,qs++qs2,rfl,by go_num,by omega,HH,Q3,O3,B3⟩
       case measure=>simp [intOf];omega
     · obtain rfl:k=ks.len:=by omega
       have hd:bT ks=done:=by have:=hD.out;rw [F.drop_len _ _ (Nat.le_refl _)] at this;simpa [bT] using this
       have P:=aA (show qs.length=(bT ks).length/\wr.ownsRow w.heap.size 25 4 (.slice xa done.length xc) (bT ks).length (eF (bT ks) qs) by rw [hd];exact ⟨hQ.out,hO.out⟩);clear hd;go_wp2_with fail
       go_ret;exact ⟨_,qs,rfl,P.out.1,P.out.2,hB.out⟩
end
end
end Go.Proofs.YtapcjnoaofmmiaaGreatDoor
