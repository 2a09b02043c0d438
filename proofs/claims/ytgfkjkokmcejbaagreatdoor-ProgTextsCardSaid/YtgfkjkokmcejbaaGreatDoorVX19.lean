/-
 No statement: what ProgTextsLift needs, of the texts OS.
-/
import Derived.Test.YtgfkjkokmcejbaaGreatDoorVX18
import Derived.Laws.ResultCell
import Derived.Laws.Rows
import Derived.Laws.OwnMore
set_option maxHeartbeats 40000000
set_option maxRecDepth 100000
open List renaming length_append -> Tb, length_cons -> Te, take_append_of_le_length -> Tf, length_eq_zero_iff -> Tg, length_take -> Th, mem_iff_getElem -> Tn
open Go.World renaming size_alloc -> Tc
open Nat renaming le_refl -> Td
open Array renaming length_toList -> Ti
open Go.Value renaming slice -> Tj
namespace Go.Proofs.YtgfkjkokmcejbaaGreatDoor.Wr
open Go.RowKit Tryz
theorem nU {w:World} {e:TypeId} {v:Value} {n:Nat} {xs:List Value} (h:w.ownsRow 0 e 1 v n xs) :
 (v=.slice none 0 0/\n=0/\xs=[]) \/
 ∃ g f j,v=.slice (some ⟨g,0,none⟩) n f/\v.ownBlock=some g/\w.heap[g]? = some (.cells j e (0,0))/\n<=f/\f<=maxLen/\j.size=f/\j.toList.take n=xs/\xs.length=n/\g<w.heap.size:=by
 obtain ⟨k,m⟩:=h;rw [Nat.mul_one] at k;rcases m with ⟨rfl,rfl⟩ | ⟨g,f,j,rfl,_,l,a,b,c,d⟩
 · exact .inl ⟨rfl,rfl,Tg.1 k⟩
 · rw [Nat.mul_one] at c d
   exact .inr ⟨g,f,j,rfl,rfl,l,a,b,c,d,k,lt_of_block l⟩
theorem Cu {w:World} {e:TypeId} {g a n:Nat} {b:Array Value} {xs:List Value} (f:w.heap[g]? = some (.cells b e (0,0))) (hn:n<=a) (d:a<=maxLen) (hs:b.size=a) (c:b.toList.take n=xs) :
 w.ownsRow 0 e 1 (.slice (some ⟨g,0,none⟩) n a) n xs:=by
 refine ⟨?_,.inr ⟨g,a,b,rfl,Nat.zero_le _,f,hn,d,by rw [Nat.mul_one];exact hs,by rw [Nat.mul_one];exact c⟩⟩;rw [<- c,Th,Ti,Nat.mul_one];omega
theorem cW (b:Nat):∀ (a:List Value) (o:Nat) (w:World),aC (· = b) w (w.setCells b o a)
 | [],_,w=>aC.refl _ w
 | v::r,o,w=>((aC.refl (fun i=>i=b) w).setCell (p:=⟨b,o,none⟩) (Or.inl rfl) v).trans (cW b r (o+1) _) (fun _ h _=>h)
def rJ (w w':World) (E:TypeId) (v:Value) (xs:List Value) (e:Ending):Prop :=
 ∃ v',e=.returned v'/\w'.ownsRow 0 E 1 v' xs.length xs/\w.grownBy w' v.ownBlock/\(v'.ownBlock=v.ownBlock\/∃ b,v'.ownBlock=some b/\w.heap.size<=b)
theorem Az {w:World} {e:TypeId} {g b n i:Nat} {a:Array Value} {xs:List Value} {x:Value} (m:w.heap[g]? = some (.cells a e (0,0))) (hs:a.size=b) (f:a.toList.take n=xs)
 (hx:xs.length=n) (u:i<n) (hr:n+1<=b) (j:b<=maxLen) (c:Ending) (o:c=.returned (.slice (some ⟨g,0,none⟩) (n+1) b)) :
 rJ w ((w.drew.setCells g (i+1) (xs.drop i)).setCells g i [x]) e (.slice (some ⟨g,0,none⟩) n b) (xs.take i++x::xs.drop i) c:=by
 obtain ⟨c1,q,t1⟩:=cN g e (xs.drop i) (i+1) w.drew a m (by rw [List.length_drop];omega)
 have s1:c1.size=b:=by
  rw [<- Ti,t1];simp [Th];omega
 obtain ⟨c2,p,t2⟩:=cN g e [x] i _ c1 q (by simp;omega)
 have d:c2.size=b:=by
  rw [<- Ti,t2];simp [Th];omega
 have hl:(xs.take i++x::xs.drop i).length=n+1:=by simp [Th];omega
 refine ⟨_,o,?_,cO (S:=(· = g)) (((aC.refl (· = g) w).drew.trans (cW g _ _ _) (fun _ h _=>h)).trans (cW g _ _ _) (fun _ h _=>h)) (fun k l=>by subst l;rfl),Or.inl rfl⟩;rw [hl];refine Cu p hr j d ?_;rw [t2,t1]
 have t:(a.toList.take (i+1)++xs.drop i++a.toList.drop (i+1+(xs.drop i).length)).take i=xs.take i:=by
  rw [List.append_assoc,Tf (by rw [Th,Ti];omega),List.take_take, <- f,List.take_take];congr 1;omega
 have s:(a.toList.take (i+1)++xs.drop i++a.toList.drop (i+1+(xs.drop i).length)).drop (i+[x].length)=xs.drop i++a.toList.drop (n+1):=by
  rw [List.append_assoc,List.drop_append_of_le_length (by rw [Th,Ti];simp;omega),List.drop_take];have:i+1+(xs.drop i).length=n+1:=by rw [List.length_drop];omega
  rw [this];simp
 rw [t,s];have r:xs.take i++[x]++(xs.drop i++a.toList.drop (n+1))=(xs.take i++x::xs.drop i)++a.toList.drop (n+1):=by simp
 rw [r, <- hl,Tf (Td _),List.take_length]
theorem CV {w:World} {e:TypeId} {g a n:Nat} {b:Array Value} {xs:List Value} {x:Value} (l:w.heap[g]? = some (.cells b e (0,0))) (hs:b.size=a) (f:b.toList.take n=xs)
 (hx:xs.length=n) (hr:n+1<=a) (h:a<=maxLen) (c:Ending) (m:c=.returned (.slice (some ⟨g,0,none⟩) (n+1) a)) :
 rJ w (w.setCells g n [x]) e (.slice (some ⟨g,0,none⟩) n a) (xs.take n++x::xs.drop n) c:=by
 obtain ⟨c2,o,t2⟩:=cN g e [x] n w b l (by simp;omega)
 have d:c2.size=a:=by
  rw [<- Ti,t2];simp [Th];omega
 have hl:(xs.take n++x::xs.drop n).length=n+1:=by simp [Th];omega
 refine ⟨_,m,?_,cO (S:=(· = g)) (cW g _ _ _) (fun k j=>by subst j;rfl),Or.inl rfl⟩;rw [hl];refine Cu o hr h d ?_;rw [t2,f,List.take_of_length_le (by omega:xs.length<=n),List.drop_of_length_le (by omega:xs.length<=n),Tf (by simp;omega),List.take_of_length_le (by simp;omega)]
theorem wA {w w':World} {e:TypeId} {G n i:Nat} {v:Value} {ROW:Array Value} {xs:List Value} {x:Value} (hx:xs.length=n) (k:i<=n) (j:n+1<=G) (f:G<=maxLen)
 (c:aC (fun _=>False) w w') (a:w'.heap[w.heap.size]? = some (.cells ROW e (0,0))) (hs:ROW.size=G) (d:ROW.toList.take (n+1)=xs.take i++x::xs.drop i) (b:Ending) (g:b=.returned (.slice (some ⟨w.heap.size,0,none⟩) (n+1) G)) :
 rJ w w' e v (xs.take i++x::xs.drop i) b:=by
 have hl:(xs.take i++x::xs.drop i).length=n+1:=by simp [Th];omega
 refine ⟨_,g,?_,cO c (fun _ h=>h.elim),Or.inr ⟨_,rfl,Td _⟩⟩;rw [hl];exact Cu a j f hs d
theorem wB {w:World} {e:TypeId} {G n:Nat} {v:Value} {Z:Array Value} {xs:List Value} {x:Value} (hx:xs.length=n) (d:n+1<=G) (b:G<=maxLen) (f:Z.size=G-(n+1))
 (a:Ending) (c:a=.returned (.slice (some ⟨w.heap.size,0,none⟩) (n+1) G)) :
 rJ w (w.drew.alloc (.cells ((xs++[x]).toArray++Z) e)) e v (xs.take n++x::xs.drop n) a:=by
 refine wA (i:=n) (ROW:=(xs++[x]).toArray++Z) hx (Td _) d b ((aC.refl _ w).drew.alloc _) (heap_alloc_new w.drew _) (by simp;omega) ?_ a c;rw [Array.toList_append,Tf (by simp;omega),List.take_of_length_le (by simp;omega),List.take_of_length_le (by omega:xs.length<=n),List.drop_of_length_le (by omega:xs.length<=n)]
theorem CY {w:World} {e:TypeId} {G n i:Nat} {v:Value} {Y Z:Array Value} {xs:List Value} {x:Value} (hx:xs.length=n) (j:i<n) (m:n+1<=G) (g:G<=maxLen) (z:Y.size=n+1-i) (y:Z.size=G-(n+1))
 (a:Ending) (l:a=.returned (.slice (some ⟨w.heap.size,0,none⟩) (n+1) G)) :
 rJ w ((((w.alloc (.cells ((xs.take i).toArray++Y++Z) e)).drew.setCells w.heap.size i [x]).drew).setCells w.heap.size (i+1) (xs.drop i)) e v (xs.take i++x::xs.drop i) a:=by
 have f:(xs.take i).length=i:=by rw [Th];omega
 have q:((w.alloc (.cells ((xs.take i).toArray++Y++Z) e)).drew).heap[w.heap.size]? = some (.cells ((xs.take i).toArray++Y++Z) e (0,0)):=heap_alloc_new w _;have c:((xs.take i).toArray++Y++Z).size=G:=by simp [Th];omega
 obtain ⟨c1,p,t1⟩:=cN w.heap.size e [x] i _ _ q (by rw [c];simp;omega)
 have s1:c1.size=G:=by
  rw [<- Ti,t1];simp [Th];omega
 obtain ⟨c2,o,t2⟩:=cN w.heap.size e (xs.drop i) (i+1) (((w.alloc (.cells ((xs.take i).toArray++Y++Z) e)).drew.setCells w.heap.size i [x]).drew) c1 p (by rw [s1,List.length_drop];omega)
 have b:c2.size=G:=by
  rw [<- Ti,t2];simp [Th];omega
 have d:aC (fun k=>k=w.heap.size) w ((((w.alloc (.cells ((xs.take i).toArray++Y++Z) e)).drew.setCells w.heap.size i [x]).drew).setCells w.heap.size (i+1) (xs.drop i)) :=
  ((((aC.refl (fun k=>k=w.heap.size) w).alloc _).drew.trans (cW w.heap.size _ _ _) (fun _ h _=>h)).drew).trans (cW w.heap.size _ _ _) (fun _ h _=>h)
 refine wA (ROW:=c2) hx (Nat.le_of_lt j) m g (d.mono (fun k u hl=>by omega)) o b ?_ a l;rw [t2,t1]
 have s:((((xs.take i).toArray++Y++Z).toList.take i++[x]++((xs.take i).toArray++Y++Z).toList.drop (i+[x].length))).take (i+1)=xs.take i++[x]:=by
  have t:((xs.take i).toArray++Y++Z).toList.take i=xs.take i:=by
   rw [Array.toList_append,Array.toList_append,List.append_assoc,Tf (by simp [Th];omega)];exact List.take_of_length_le (by simp [Th];omega)
  rw [t,Tf (by simp [Th];omega),List.take_of_length_le (by simp [Th];omega)]
 have hl:(xs.take i++x::xs.drop i).length=n+1:=by simp [Th];omega
 rw [s];have r:∀ R:List Value,xs.take i++[x]++xs.drop i++R=(xs.take i++x::xs.drop i)++R:=fun R=>by simp
 rw [r, <- hl,Tf (Td _),List.take_length]
section
variable {K : Type} {less : K -> K -> Bool}
variable [DecidableEq K]
def OP {V:Type} (less:K->K->Bool) (ks:List K) (vs:List V) (x:K) (v:V):List V:=if has ks x=true then vs.set (pos less ks x) v else vs.take (pos less ks x)++v::vs.drop (pos less ks x)
end
theorem nT {w:World} {e:TypeId} {v:Value} {n:Nat} {xs:List Value} (h:w.ownsRow 0 e 1 v n xs):∃ a c,v=.slice a n c:=by
 rcases nU h with ⟨rfl,rfl,_⟩ | ⟨g,b,d,rfl,_⟩
 · exact ⟨none,0,rfl⟩
 · exact ⟨some ⟨g,0,none⟩,b,rfl⟩
theorem FZ {w:World} {e:TypeId} {v:Value} {n:Nat} {xs:List Value} (h:w.ownsRow 0 e 1 v n xs) (l:0<n) :
 ∃ g c a,v=.slice (some ⟨g,0,none⟩) n c/\w.heap[g]? = some (.cells a e (0,0))/\a.size=c/\n<=c/\c<=maxLen/\a.toList.take n=xs/\xs.length=n:=by
 rcases nU h with ⟨rfl,rfl,_⟩ | ⟨g,d,a,rfl,_,k,b,j,hs,f,hx,_⟩
 · omega
 · exact ⟨g,d,a,rfl,k,hs,b,j,f,hx⟩
theorem iP {w:World} {p:Nat} {a b:Value} {T:TypeId} (h:w.heap[p]? = some (.cells #[a,b] T (0,0))):w.cell? ⟨p,0,none⟩=some a:=by simp [World.cell?,h]
theorem kD {w:World} {p:Nat} {a b:Value} {T:TypeId} (h:w.heap[p]? = some (.cells #[a,b] T (0,0))):w.cell? ⟨p,1,none⟩=some b:=by simp [World.cell?,h]
theorem wE {w:World} {p:Nat} {a b:Value} {T:TypeId} (h:w.heap[p]? = some (.cells #[a,b] T (0,0))) (i:Nat):w.frozen? ⟨p,i,none⟩=false:=by simp [World.frozen?,h]
theorem Mw {F:Nat->Prop} {w a:World} {v:Value} (d:w.grownBy a v.ownBlock) (f:∀ b,v.ownBlock=some b->F b):aC F w a :=
 (aC.refl F w).grown d (fun k c=>Or.inl (f k c))
theorem lP {w:World} {e:TypeId} {m:Nat} {v:Value} {n:Nat} {xs:List Value} (h:w.ownsRow 0 e m v n xs) :
 (v=.slice none 0 0/\n=0/\xs=[]) \/
 ∃ g f j,v=.slice (some ⟨g,0,none⟩) n f/\v.ownBlock=some g/\w.heap[g]? = some (.cells j e (0,0))/\n<=f/\f<=maxLen/\j.size=f*m/\j.toList.take (n*m)=xs/\xs.length=n*m:=by
 obtain ⟨k,o⟩:=h;rcases o with ⟨rfl,rfl⟩ | ⟨g,f,j,rfl,_,l,a,b,c,d⟩
 · exact .inl ⟨rfl,rfl,Tg.1 (by simpa using k)⟩
 · exact .inr ⟨g,f,j,rfl,rfl,l,a,b,c,d,k⟩
theorem mQ {w:World} {e:TypeId} {m g a n:Nat} {b:Array Value} {xs:List Value} (f:w.heap[g]? = some (.cells b e (0,0))) (hn:n<=a) (d:a<=maxLen) (hs:b.size=a*m) (c:b.toList.take (n*m)=xs) :
 w.ownsRow 0 e m (.slice (some ⟨g,0,none⟩) n a) n xs:=by
 refine ⟨?_,.inr ⟨g,a,b,rfl,Nat.zero_le _,f,hn,d,hs,c⟩⟩;have:=Nat.mul_le_mul_right m hn;rw [<- c,Th,Ti];omega
def NQ (w w':World) (E:TypeId) (m:Nat) (v:Value) (n:Nat) (xs:List Value) (e:Ending):Prop :=
 ∃ v',e=.returned v'/\w'.ownsRow 0 E m v' n xs/\w.grownBy w' v.ownBlock/\(v'.ownBlock=v.ownBlock\/∃ b,v'.ownBlock=some b/\w.heap.size<=b)
theorem GN {w:World} {e:TypeId} {g I N M C:Nat} {a:Array Value} {xs x:List Value} (d:w.heap[g]? = some (.cells a e (0,0))) (hs:a.size=C) (c:a.toList.take N=xs)
 (hx:xs.length=N) (o:I<=N) (h:x.length=M) (p:N+M<=C) :
 ∃ c2,((w.drew.setCells g (I+M) (xs.drop I)).setCells g I x).heap[g]? = some (.cells c2 e (0,0))/\c2.size=C/\c2.toList.take (N+M)=xs.take I++x++xs.drop I:=by
 have f:a.toList.length=C:=by rw [Ti,hs]
 obtain ⟨c1,k,t1⟩:=cN g e (xs.drop I) (I+M) w.drew a d (by rw [List.length_drop];omega);have s1:c1.size=C:=by rw [<- Ti,t1];simp only [Tb,Th,List.length_drop,Ti];omega
 obtain ⟨c2,j,t2⟩:=cN g e x I _ c1 k (by omega);have b:c2.size=C:=by rw [<- Ti,t2];simp only [Tb,Th,List.length_drop,Ti];omega
 refine ⟨c2,j,b,?_⟩;have hl:(xs.take I++x++xs.drop I).length=N+M:=by simp [Th];omega
 rw [t2,t1]
 have n:(a.toList.take (I+M)++xs.drop I++a.toList.drop (I+M+(xs.drop I).length)).take I=xs.take I:=by
  rw [List.append_assoc,Tf (by rw [Th];omega),List.take_take, <- c,List.take_take];congr 1;omega
 have m:(a.toList.take (I+M)++xs.drop I++a.toList.drop (I+M+(xs.drop I).length)).drop (I+x.length)=xs.drop I++a.toList.drop (N+M):=by
  rw [List.append_assoc,List.drop_append_of_le_length (by rw [Th];omega),List.drop_take,h,Nat.sub_self,List.take_zero,List.nil_append];have:I+M+(xs.drop I).length=N+M:=by rw [List.length_drop];omega
  rw [this]
 rw [n,m];have l:xs.take I++x++(xs.drop I++a.toList.drop (N+M))=(xs.take I++x++xs.drop I)++a.toList.drop (N+M):=by simp
 rw [l, <- hl,Tf (Td _),List.take_length]
theorem J9 {w:World} {e:TypeId} {g N M C:Nat} {a:Array Value} {xs x:List Value} (d:w.heap[g]? = some (.cells a e (0,0))) (hs:a.size=C) (c:a.toList.take N=xs)
 (hx:xs.length=N) (h:x.length=M) (j:N+M<=C) :
 ∃ c2,(w.setCells g N x).heap[g]? = some (.cells c2 e (0,0))/\c2.size=C/\c2.toList.take (N+M)=xs++x:=by
 obtain ⟨c2,f,t2⟩:=cN g e x N w a d (by omega);have b:c2.size=C:=by rw [<- Ti,t2];simp only [Tb,Th,List.length_drop,Ti];omega
 refine ⟨c2,f,b,?_⟩;rw [t2,c,Tf (by simp;omega),List.take_of_length_le (by simp;omega)]
theorem Ka {w:World} {e:TypeId} {I N M C:Nat} {Y Z:Array Value} {xs x:List Value} (hx:xs.length=N) (n:I<=N) (m:x.length=M) (o:N+M<=C) (l:Y.size=N+M-I) (k:Z.size=C-(N+M)) :
 ∃ c2,((((w.alloc (.cells ((xs.take I).toArray++Y++Z) e)).drew.setCells w.heap.size I x).drew).setCells w.heap.size (I+M) (xs.drop I)).heap[w.heap.size]? = some (.cells c2 e (0,0))/\c2.size=C/\c2.toList.take (N+M)=xs.take I++x++xs.drop I:=by
 have c:(xs.take I).length=I:=by rw [Th];omega
 have g:((w.alloc (.cells ((xs.take I).toArray++Y++Z) e)).drew).heap[w.heap.size]? = some (.cells ((xs.take I).toArray++Y++Z) e (0,0)):=heap_alloc_new w _;have b:((xs.take I).toArray++Y++Z).size=C:=by simp [Th];omega
 obtain ⟨c1,f,t1⟩:=cN w.heap.size e x I _ _ g (by rw [b];omega);have s1:c1.size=C:=by rw [<- Ti,t1];simp only [Tb,Th,List.length_drop,Ti];omega
 obtain ⟨c2,d,t2⟩:=cN w.heap.size e (xs.drop I) (I+M) (((w.alloc (.cells ((xs.take I).toArray++Y++Z) e)).drew.setCells w.heap.size I x).drew) c1 f (by rw [s1,List.length_drop];omega);have a:c2.size=C:=by rw [<- Ti,t2];simp only [Tb,Th,List.length_drop,Ti];omega
 refine ⟨c2,d,a,?_⟩;rw [t2,t1]
 have h:((((xs.take I).toArray++Y++Z).toList.take I++x++((xs.take I).toArray++Y++Z).toList.drop (I+x.length))).take (I+M)=xs.take I++x:=by
  have j:((xs.take I).toArray++Y++Z).toList.take I=xs.take I:=by
   rw [Array.toList_append,Array.toList_append,List.append_assoc,Tf (by simp [Th];omega)];exact List.take_of_length_le (by simp [Th];omega)
  rw [j,Tf (by simp [Th];omega),List.take_of_length_le (by simp [Th];omega)]
 have hl:(xs.take I++x++xs.drop I).length=N+M:=by simp [Th];omega
 rw [h, <- hl,Tf (Td _),List.take_length]
section
variable {P : Program}
theorem nI (w:World) (q r ty d:TypeId) (m b o f l:Nat) (a:Addr) (c h:Nat) (g:List Value)
 (s:P.underlying q=some (.slice d)) (hs:(P.info? d).map (·.size)=some m) (hn:g.length=Nat.min c f*m)
 (k:∀ j v,g[j]? = some v->w.cell? (a.add j)=some v) (x:∀ j,j<g.length->(w.cell? ⟨b,o+j,none⟩).isSome=true) (u:∀ j,j<g.length->w.frozen? ⟨b,o+j,none⟩=false) (y:∀ v∈g,v.oneCell'=true) :
 (Builtin.copy_ #[q,r] ty #[.slice (some ⟨b,o,none⟩) f l,.slice (some a) c h]).run P w=.ok (goInt (Nat.min c f)) (w.setCells b o g):=by
 have hl:=run_loadCells_list (P:=P) w a g k;have n:=run_storeCells_cells (P:=P) b o g 0 w (by simpa using x) (by simpa using u) y;cases p:P.info? d with
 | none=>simp [p] at hs
 | some i =>
   have t:i.size=m:=by simpa [p] using hs
   simp [Builtin.copy_,run_underlying s,Builtin.lenOf,Builtin.firstCells,sizeOf,typeInfo,p,t, <- hn,hl,n]
end
theorem vR {w:World} {e:TypeId} {m:Nat} {v:Value} {n:Nat} {xs:List Value} (h:w.ownsRow 0 e m v n xs):∃ a c,v=.slice a n c:=by
 rcases lP h with ⟨rfl,rfl,_⟩ | ⟨g,b,d,rfl,_⟩
 · exact ⟨none,0,rfl⟩
 · exact ⟨some ⟨g,0,none⟩,b,rfl⟩
theorem vS {w:World} {e:TypeId} {m:Nat} {v:Value} {n:Nat} {xs:List Value} (h:w.ownsRow 0 e m v n xs) (l:0<n) :
 ∃ g c a,v=.slice (some ⟨g,0,none⟩) n c/\w.heap[g]? = some (.cells a e (0,0))/\a.size=c*m/\n<=c/\c<=maxLen/\a.toList.take (n*m)=xs/\xs.length=n*m:=by
 rcases lP h with ⟨rfl,rfl,_⟩ | ⟨g,d,a,rfl,_,k,b,j,hs,f,hx⟩
 · omega
 · exact ⟨g,d,a,rfl,k,hs,b,j,f,hx⟩
theorem gP.fields {m:Nat} {w:World} {T kE f:TypeId} {p:Nat} {F:Nat->Prop} {ks d:List Value} (h:gP m w T kE f p F ks d):∃ c b a vc,eG m w T kE f p F (.slice c ks.length b) (.slice a ks.length vc) ks.length ks.length ks d:=by
 obtain ⟨x,u,k,j,g,t,s,r,q,o,n,l⟩:=h;obtain ⟨c,b,rfl⟩:=nT j;obtain ⟨a,vc,rfl⟩:=vR g;exact ⟨c,b,a,vc,k,j,g,t,s,r,q,o,n,l⟩
theorem eG.mapIn {m:Nat} {w:World} {T kE b:TypeId} {p:Nat} {F:Nat->Prop} {f a:Value} {d c:Nat} {X Y:List Value} (h:eG m w T kE b p F f a d c X Y) (hn:d=c):gP m w T kE b p F X Y:=by
 subst hn;have:=Ej h.k;subst this;exact ⟨f,a,h.row,h.k,h.v,h.dk,h.dv,h.dkv,h.fp,h.fk,h.fv,h.lt⟩
theorem eG.plt {m:Nat} {w:World} {T kE b:TypeId} {p:Nat} {F:Nat->Prop} {f a:Value} {d c:Nat} {X Y:List Value} (h:eG m w T kE b p F f a d c X Y):p<w.heap.size:=h.lt p h.fp
theorem eG.store0 {m:Nat} {w f:World} {T kE s:TypeId} {p:Nat} {F:Nat->Prop} {l j c:Value} {A t n:Nat} {X Y z:List Value} (h:eG m w T kE s p F l j A t X Y)
 (y:w.grownBy f l.ownBlock) (ho:f.ownsRow 0 kE 1 c n z) (d:c.ownBlock=l.ownBlock\/∃ b,c.ownBlock=some b/\w.heap.size<=b) :
 eG m (f.setCell ⟨p,0,none⟩ c) T kE s p (NK F c) c j n t z Y/\aC F w (f.setCell ⟨p,0,none⟩ c)/\Fp w F (NK F c):=by
 have hK:aC F w f:=Mw y h.fk;have r:aC F w (f.setCell ⟨p,0,none⟩ c):=hK.setCell (Or.inl h.fp) _;have o:f.heap[p]? = some (.cells #[l,j] T (0,0)):=by rw [y.block p h.plt (fun e=>h.dk e.symm)];exact h.row
 have q:c.ownBlock ≠ some p:=by
  rcases d with d | ⟨b,d,hl⟩
  · rw [d];exact h.dk
  · rw [d];intro e;cases e;have:=h.plt;omega
 have x:f.ownsRow 0 s m j t Y:=by
  refine h.v.kept y ?_;cases u:j.ownBlock with
  | none=>exact Or.inl rfl
  | some b=>exact Or.inr (fun e=>h.dkv b e.symm u)
 refine ⟨⟨?_,ownsRow_setCell_other ho (a:=⟨p,0,none⟩) q _,ownsRow_setCell_other x (a:=⟨p,0,none⟩) h.dv _,q,h.dv,?_,Or.inl h.fp,fun b d=>Or.inr d,fun b d=>Or.inl (h.fv b d),?_⟩,r,?_⟩
 · rw [heap_setCell_same f p 0 #[l,j] T c o];rfl
 · intro b g e
   rcases d with d | ⟨B,d,hl⟩
   · rw [d] at g;exact h.dkv b g e
   · rw [d] at g;cases g;have:=h.lt _ (h.fv _ e);omega
 · intro k hk
   rcases hk with hk | hk
   · exact Nat.lt_of_lt_of_le (h.lt k hk) r.size
   · rw [World.size_setCell];exact (ho.lt k hk).2
 · intro k hk
   rcases hk with hk | hk
   · exact Or.inl hk
   · rcases d with d | ⟨B,d,hl⟩
     · rw [d] at hk;exact Or.inl (h.fk k hk)
     · rw [d] at hk;cases hk;exact Or.inr hl
theorem eG.store1 {m:Nat} {w f:World} {T kE s:TypeId} {p:Nat} {F:Nat->Prop} {g j c:Value} {t A n:Nat} {X Y z:List Value} (h:eG m w T kE s p F g j t A X Y)
 (y:w.grownBy f j.ownBlock) (ho:f.ownsRow 0 s m c n z) (d:c.ownBlock=j.ownBlock\/∃ b,c.ownBlock=some b/\w.heap.size<=b) :
 eG m (f.setCell ⟨p,1,none⟩ c) T kE s p (NK F c) g c t n X z/\aC F w (f.setCell ⟨p,1,none⟩ c)/\Fp w F (NK F c):=by
 have hK:aC F w f:=Mw y h.fv;have r:aC F w (f.setCell ⟨p,1,none⟩ c):=hK.setCell (Or.inl h.fp) _;have l:f.heap[p]? = some (.cells #[g,j] T (0,0)):=by rw [y.block p h.plt (fun e=>h.dv e.symm)];exact h.row
 have q:c.ownBlock ≠ some p:=by
  rcases d with d | ⟨b,d,hl⟩
  · rw [d];exact h.dv
  · rw [d];intro e;cases e;have:=h.plt;omega
 have x:f.ownsRow 0 kE 1 g t X:=by
  refine h.k.kept y ?_;cases u:g.ownBlock with
  | none=>exact Or.inl rfl
  | some b=>exact Or.inr (fun e=>h.dkv b u e.symm)
 refine ⟨⟨?_,ownsRow_setCell_other x (a:=⟨p,1,none⟩) h.dk _,ownsRow_setCell_other ho (a:=⟨p,1,none⟩) q _,h.dk,q,?_,Or.inl h.fp,fun b d=>Or.inl (h.fk b d),fun b d=>Or.inr d,?_⟩,r,?_⟩
 · rw [heap_setCell_same f p 1 #[g,j] T c l];rfl
 · intro b o e
   rcases d with d | ⟨B,d,hl⟩
   · rw [d] at e;exact h.dkv b o e
   · rw [d] at e;cases e;have:=h.lt _ (h.fk _ o);omega
 · intro k hk
   rcases hk with hk | hk
   · exact Nat.lt_of_lt_of_le (h.lt k hk) r.size
   · rw [World.size_setCell];exact (ho.lt k hk).2
 · intro k hk
   rcases hk with hk | hk
   · exact Or.inl hk
   · rcases d with d | ⟨B,d,hl⟩
     · rw [d] at hk;exact Or.inl (h.fv k hk)
     · rw [d] at hk;cases hk;exact Or.inr hl
theorem eG.during {m:Nat} {w b:World} {T kE f:TypeId} {p:Nat} {F:Nat->Prop} {d c v:Value} {j g:Nat} {X Y:List Value} (h:eG m w T kE f p F d c j g X Y) (k:w.grownBy b v.ownBlock) (hd:v.ownBlock ≠ some p) :
 b.cell? ⟨p,0,none⟩=some d/\b.cell? ⟨p,1,none⟩=some c/\b.frozen? ⟨p,0,none⟩=false/\b.frozen? ⟨p,1,none⟩=false/\p<b.heap.size:=by
 have a:b.heap[p]? = some (.cells #[d,c] T (0,0)):=by rw [k.block p h.plt (fun e=>hd e.symm)];exact h.row
 exact ⟨iP a,kD a,wE a 0,wE a 1,lt_of_block a⟩
def Dk (m:Nat) (w w':World) (T kE vE:TypeId) (p:Nat) (F:Nat->Prop) (X Y:List Value):Prop :=
 ∃ F',gP m w' T kE vE p F' X Y/\Fp w F F'/\aC F w w'
theorem eG.both {m:Nat} {w w0 g f d:World} {T kE l:TypeId} {p:Nat} {F:Nat->Prop} {o j a c:Value} {A z n:Nat} {X Y y x:List Value} (h:eG m w T kE l p F o j A z X Y)
 (r:aC (fun _=>False) w w0) (H:w0.grownBy g o.ownBlock) (ho:g.ownsRow 0 kE 1 a n y) (I:a.ownBlock=o.ownBlock\/∃ b,a.ownBlock=some b/\w0.heap.size<=b)
 (q:aC (fun _=>False) (g.setCell ⟨p,0,none⟩ a) f) (t:f.grownBy d j.ownBlock) (s:d.ownsRow 0 l m c n x) (u:c.ownBlock=j.ownBlock\/∃ b,c.ownBlock=some b/\f.heap.size<=b) :
 Dk m w (d.setCell ⟨p,1,none⟩ c) T kE l p F y x:=by
 obtain ⟨a1,a2,a3⟩:=(h.kept r (fun _ _ h=>h)).store0 H ho I;obtain ⟨N,M,L⟩:=(a1.kept q (fun _ _ h=>h)).store1 t s u;have D:=r.size;have C:=a2.size;have B:=q.size;refine ⟨_,N.mapIn rfl,fun k E=>?_,?_⟩
 · rcases L k E with h1 | h1
   · rcases a3 k h1 with h2 | h2
     · exact Or.inl h2
     · exact Or.inr (by omega)
   · exact Or.inr (by omega)
 · refine ((r.mono (T:=F) (fun _ h _=>h.elim)).trans a2 (fun _ h _=>h)).trans ((q.mono (T:=NK F a) (fun _ h _=>h.elim)).trans M (fun _ h _=>h)) (fun i G hl=>?_)
   rcases a3 i G with h2 | h2
   · exact h2
   · omega
theorem Qi (x:Tr) (w:World):Calls prog 235 #[.string x] w fun e w'=>e=.returned (.bool false)/\w=w':=by
 go_enter func235,ntmps235
 go_wp2
 go_ret;exact ⟨by simp,rfl⟩
theorem sW (x:Tr) (w:World):Calls prog 197 #[.string x] w fun e w'=>e=.returned (.bool false)/\w=w':=by
 go_enter func197,ntmps197
 go_wp2
 go_ret;exact ⟨by simp,rfl⟩
theorem Qw (x y:Tr) (b:Bool) (h:lsS x y=b) (w:World):Calls prog 196 #[.string x,.string y] w fun e w'=>e=.returned (.bool b)/\w=w':=by
 subst h;go_enter func196,ntmps196
 go_wp2_with (go_at_call 235;refine (Qi _ _).mono ?_;rintro e w' ⟨rfl,rfl⟩)
 go_ret;exact ⟨rfl,rfl⟩
theorem S3 {ks:List ByteArray} (hr:dI lsS ks) {x y:Tr} {p:Nat} (hp:pos lsS ks x=p) (a:ks[p]? = some y) (b:Bool) (c:decide (y=x)=b):b=has ks x:=by
 rw [Bz fT hr hp a,c]
/-- At a row that rises, of at least one element. -/
theorem Ch (g n H:Nat) (ks:List ByteArray) (x:Tr) (w:World) (hn:n<=1000000) (hl:ks.length=n) (hr:dI lsS ks) (L:∀ j v,(ks.map (Value.string))[j]? = some v->w.cell? ⟨g,j,none⟩=some v) :
 Calls prog 151 #[.slice (some ⟨g,0,none⟩) n H,.string x] w fun e w' =>
  e=.returned (.tuple #[.int .i64 (pos lsS ks x:Nat),.bool (has ks x)])/\∃ q,w'=w.drewN q:=by
 have z:=xP fT hr x;rw [hl] at z;obtain ⟨I,m⟩:∃ I,pos lsS ks x=I:=⟨_,rfl⟩;obtain ⟨B,A⟩:∃ B,B=has ks x:=⟨_,rfl⟩;have U:I<=n:=by rw [<- m, <- hl];exact uH _ _
 rw [m] at z;rw [m, <- A];have s:=aA (p:=∀ y b,ks[I]? = some y->decide (y=x)=b->b=B) (fun y b f l=>by rw [A];exact S3 hr m f b l);have C:=aA (p:=n<=I->false=B) (fun h=>by rw [A];exact (zH fT hr m (by omega)).symm);have u:=aA (p:=∀ t,t<n->w.cell? ⟨g,t,none⟩=some (.string (ks.getD t x))) (fun t R=>L t _ (by rw [List.getElem?_map,List.getD_eq_getElem?_getD,List.getElem?_eq_getElem (by omega)];rfl));have D:=aA (p:=∀ t,t<n->ks[t]? = some (ks.getD t x)) (fun t R=>by rw [List.getD_eq_getElem?_getD,List.getElem?_eq_getElem (by omega)];rfl);have N:=aA z;clear z m A L hr hl;go_enter func151,ntmps151
 go_wp2
 go_loopg [7,8] n (fun g P O wr=>∃ lo a q:Nat,P=.int .i64 lo/\O=.int .i64 a/\lo<=a/\a<=n/\a-lo<=g/\wr=w.drewN q/\Hid (Lib.bsGo (fun t=>lsS (ks.getD t x) x) g lo a=I))
 case atStart=>exact ⟨0,n,0,rfl,rfl,Nat.zero_le _,Td _,by omega,rfl,N⟩
 case round =>
  obtain ⟨lo,a,q,rfl,rfl,T,G,Y,rfl,l⟩:=hrel;by_cases E:lo<a
  · have V:=u.out ((lo+a) / 2) (by omega)
    obtain ⟨M,rfl⟩:∃ M,gk=M+1:=⟨gk-1,by omega⟩;have d:=l.out;clear l;simp only [Lib.bsGo,E,if_true] at d;obtain ⟨y,f⟩:∃ y,ks.getD ((lo+a) / 2) x=y:=⟨_,rfl⟩;rw [f] at V;simp only [f] at d;clear f;cases c:lsS y x <;> simp only [c,if_true,Bool.false_eq_true,if_false] at d
    · have k:=aA d
      have o:=aA c;clear d c;go_wp2_with (first | (go_at_call 196;refine (Qw _ _ _ o.out _).mono ?_;rintro e w' ⟨rfl,rfl⟩) | (go_at_call 197;refine (sW _ _).mono ?_;rintro e w' ⟨rfl,rfl⟩))
      go_roundg ((lo+a) / 2-lo)
      case measure=>omega
      case rel=>exact ⟨lo,(lo+a) / 2,_,rfl,by rw [show ((lo:Int)+(a:Int)) / 2=(((lo+a) / 2:Nat):Int) by omega],by omega,by omega,Td _,rfl,aA (by rw [<- k.out];exact Lib.bsGo_fuel _ _ _ _ _ (Td _) (by omega))⟩
    · have k:=aA d
      have o:=aA c;clear d c;go_wp2_with (first | (go_at_call 196;refine (Qw _ _ _ o.out _).mono ?_;rintro e w' ⟨rfl,rfl⟩) | (go_at_call 197;refine (sW _ _).mono ?_;rintro e w' ⟨rfl,rfl⟩))
      go_roundg (a-((lo+a) / 2+1))
      case measure=>omega
      case rel=>exact ⟨(lo+a) / 2+1,a,_,by rw [show ((lo:Int)+(a:Int)) / 2+1=(((lo+a) / 2+1:Nat):Int) by omega],rfl,by omega,G,Td _,rfl,aA (by rw [<- k.out];exact Lib.bsGo_fuel _ _ _ _ _ (Td _) (by omega))⟩
  · obtain rfl:a=lo:=by omega
    obtain rfl:a=I:=by
     rw [<- l.out];cases gk <;> simp [Lib.bsGo]
    clear l N;by_cases hn:a<n
    · have X:=u.out a hn
      have f:=D.out a hn;obtain ⟨y,r⟩:∃ y,ks.getD a x=y:=⟨_,rfl⟩;rw [r] at X f;clear r;have o:=aA f;clear f;by_cases c:y=x
      · subst c
        have k:=s.out y true o.out (by simp);subst k;clear s C u D;go_wp2_with (first | (go_at_call 197;refine (sW _ _).mono ?_;rintro e w' ⟨rfl,rfl⟩))
        go_ret2;exact ⟨rfl,_,rfl⟩
      · have S:(y.toList == x.toList)=false:=by
         rw [beq_eq_false_iff_ne];intro h;exact c (zZ h)
        have k:=s.out y false o.out (by simpa using c);subst k;have Z:=aA c;clear s C u D c;go_wp2_with (first | (go_at_call 197;refine (sW _ _).mono ?_;rintro e w' ⟨rfl,rfl⟩))
        all_goals (go_ret2;exact ⟨rfl,_,rfl⟩)
    · have k:=C.out (by omega)
      subst k;clear s C u D;go_wp2_with (first | (go_at_call 197;refine (sW _ _).mono ?_;rintro e w' ⟨rfl,rfl⟩))
      go_ret2;exact ⟨rfl,_,rfl⟩
theorem Ci (x:Tr) (w:World) :
 Calls prog 151 #[.slice none 0 0,.string x] w fun e w'=>e=.returned (.tuple #[.int .i64 (0:Nat),.bool false])/\w'=w:=by
 go_enter func151,ntmps151
 go_wp2
 go_loop [7,8] (fun b a=>b=.int .i64 0/\a=.int .i64 0) (fun _ _=>0)
 case atStart=>exact ⟨rfl,rfl⟩
 case round =>
  obtain ⟨rfl,rfl⟩:=hrel;go_wp2
  go_ret2;exact ⟨rfl,rfl⟩
theorem Oz (v:Value) (n:Nat) (ks:List ByteArray) (x:Tr) (w:World) (hn:n<=1000000) (ho:w.ownsRow 0 9 1 v n (ks.map (Value.string))) (hr:dI lsS ks) :
 Calls prog 151 #[v,.string x] w fun e w' =>
  e=.returned (.tuple #[.int .i64 (pos lsS ks x:Nat),.bool (has ks x)])/\∃ q,w'=w.drewN q:=by
 rcases nU ho with ⟨rfl,rfl,hx⟩ | ⟨g,a,l,rfl,c,h,d,m,hs,b,hx,_⟩
 · obtain rfl:ks=[]:=List.map_eq_nil_iff.1 hx
   refine (Ci x w).mono fun e w' ⟨k,hw⟩=>⟨k,0,hw⟩
 · exact Ch g n a ks x w hn (by simpa using hx) hr (fun j v f=>eD h b f)
section
open Go.RowKit Go.Lib
theorem qX:(prog.info? 60).map (fun i=>(i.zero,i.size,i.bytes))=some (some (.agg #[.int .i64 0,.int .i64 0,.string ⟨#[]⟩,.slice none 0 0]),4,56):=by kernel_rfl
theorem JD (w:World):(Go.sizeOf 60).run prog w=.ok 4 w:=by kernel_rfl
theorem MI:prog.underlying 3=some (.int .i64):=by kernel_rfl
theorem gS:prog.underlying 234=some (.slice 60):=by kernel_rfl
theorem tO:(prog.info? 60).map (·.size)=some 4:=by
 obtain ⟨c,a,f,b,d⟩:=info_parts qX;rw [a];simp [b]
theorem lT {w:World} {b:Nat} {a:Array Value} {e:TypeId} (c:w.heap[b]? = some (.cells a e (0,0))):∀ j v,a.toList[j]? = some v->w.cell? ⟨b,j,none⟩=some v:=fun j v h=>by
 rw [cell_of_row w b j a e (0,0) c];simpa using h
theorem AZ {w:World} {b N:Nat} {a:Array Value} {c:List Value} {e:TypeId} (f:w.heap[b]? = some (.cells a e (0,0))) (d:a.toList.take N=c):∀ j v,c[j]? = some v->w.cell? ⟨b,j,none⟩=some v:=fun _ _ h=>eD f d h
theorem AY {w:World} {b:Nat} {a:Array Value} {e:TypeId} (c:w.heap[b]? = some (.cells a e (0,0))):∀ j,j<a.size->(w.cell? ⟨b,j,none⟩).isSome=true:=fun j h=>by
 rw [cell_of_row w b j a _ (0,0) c,Array.getElem?_eq_getElem h];rfl
theorem Gq (b n c i g:Nat) (l:Array Value) (m:List Value) (r:Array Value) (w:World) (hi:i<n) (S:n+1<=c) (X:c<=9223372036854775807) (B:g ≠ b) (s:r.size=4)
 (L:w.heap[b]? = some (.cells l 60 (0,0))) (d:l.size=c*4) (I:m.length=n*4) (V:l.toList.take (n*4)=m) (t:w.heap[g]? = some (.cells r 60 (0,0))) (O:∀ v∈m,v.oneCell'=true) (N:∀ v∈r.toList,v.oneCell'=true) :
 Calls prog 153 #[.slice (some ⟨b,0,none⟩) n c,.int .i64 i,.slice (some ⟨g,0,none⟩) 1 1] w fun e w' =>
  e=.returned (.slice (some ⟨b,0,none⟩) (n+1) c)/\w'=(w.drew.setCells b (i*4+4) (m.drop (i*4))).setCells b (i*4) r.toList:=by
 have G:=AZ L V;have a:=AY L;rw [d] at a;have u:∀ j,w.frozen? ⟨b,j,none⟩=false:=fun j=>frozen_of_row w b j l _ L
 have A:=lT t;have z:r.toList.length=4:=by rw [Ti,s]
 have Y:¬ ((i:Int)=(n:Int)):=by omega
 have D:w.shape? g=some (60,4):=by simp [World.shape?,t,s]
 have C:w.shape? b=some (60,c*4):=by simp [World.shape?,L,d]
 have T:∀ lb cb,(callFunc 200 #[.slice (some ⟨g,0,none⟩) 1 1,.slice (some ⟨b,(i+1)*4,none⟩) lb cb]).run prog w=.ok (.value (.bool false)) w:=fun lb cb=>by
  rw [run_callFunc_extern func200 (by kernel_rfl) (by kernel_rfl) (by kernel_rfl) (e:=Extern.SlicesOverlaps.overlaps #[234,234] #[4]) (by kernel_rfl),
   Lib.run_overlaps_apart w 234 4 60 gS 4 JD ⟨g,0,none⟩ ⟨b,(i+1)*4,none⟩ 1 1 lb cb B 60 60 4 (c*4) D C (by omega) (frozen_of_row w g 0 _ _ t) (frozen_of_row w g 4 _ _ t)]
  rfl
 have E:(m.drop (i*4)).length=(n-i)*4:=by rw [List.length_drop,I];omega
 have Z:IntKind.i64.wrap ((i:Int)+1)=(i:Int)+1:=by rw [IntKind.wrap_i64];omega
 have jb:i<=n:=by omega
 have jf:(0:Int)<=(i:Int)+1:=by omega
 have ja:((i:Int)+1).toNat=i+1:=by omega
 have jd:(i:Int)<=(n:Int)+1:=by omega
 have je:¬ (c=i+1):=by omega
 have jc:¬ (c=i):=by omega
 have q:∀ ty y R,(Builtin.copy_ #[234,234] ty #[.slice (some ⟨b,(i+1)*4,none⟩) (n-i) y,.slice (some ⟨b,i*4,none⟩) (n+1-i) R]).run prog w.drew=.ok (goInt (Nat.min (n+1-i) (n-i))) (w.drew.setCells b (i*4+4) (m.drop (i*4))):=fun ty y R=>by
  rw [show (i+1)*4=i*4+4 by omega]
  exact nI w.drew _ _ ty 60 4 b (i*4+4) (n-i) y ⟨b,i*4,none⟩ (n+1-i) R (m.drop (i*4)) gS tO (by rw [E];simp only [Nat.min_def];split <;> omega)
   (fun j v p=>by rw [Addr.add_lit];exact G (i*4+j) v (by rwa [List.getElem?_drop] at p))
   (fun j p=>a _ (by omega)) (fun j p=>u _) (fun v t=>O v (List.mem_of_mem_drop t))
 obtain ⟨P,f⟩:∃ P,P=w.drew.setCells b (i*4+4) (m.drop (i*4)):=⟨_,rfl⟩
 have o:∀ k,k<c*4->(P.cell? ⟨b,k,none⟩).isSome=true:=fun k hk=>by
  rw [f];exact isSome_setCells b (m.drop (i*4)) (i*4+4) w.drew (fun j p=>a _ (by omega)) _ (a k hk)
 have H:∀ (W:World),(∀ x,W.cell? x=P.cell? x)->(∀ x,W.frozen? x=P.frozen? x)->∀ ty y,(Builtin.copy_ #[234,234] ty #[.slice (some ⟨b,i*4,none⟩) (n+1-i) y,.slice (some ⟨g,0,none⟩) 1 1]).run prog W=.ok (goInt (Nat.min 1 (n+1-i))) (W.setCells b (i*4) r.toList):=fun W M U ty y =>
  nI W _ _ ty 60 4 b (i*4) (n+1-i) y ⟨g,0,none⟩ 1 1 r.toList gS tO (by rw [z];simp only [Nat.min_def];split <;> omega)
   (fun j v p=>by
    rw [Addr.add_lit,Nat.zero_add,M,f,World.cell?_setCells_out b _ _ _ _ (fun h _=>absurd h B)];exact A j v p)
   (fun j p=>by rw [M];exact o _ (by omega)) (fun j p=>by rw [U,f,World.frozen?_setCells];exact u _) N
 rw [<- f] at q;clear G a u A D C E o L d V t O N z I s;go_enter func153,ntmps153
 go_wp2_with (simp only [T])
 go_region_law (refine step_copy_runI rfl _ _ 234 234 rfl _ _ (by simp [Act.eval,Act.put]) (by simp [Act.eval,Act.put]) (q _ _ _) ?_)
 go_wp2_with (at_builtin;refine wpList_copy_runI _ rfl _ _ 234 234 rfl _ _ rfl rfl (H _ (fun _=>rfl) (fun _=>rfl) _ _) ?_)
 go_ret;first | exact ⟨rfl,rfl⟩ | exact ⟨rfl,by rw [f]⟩
theorem JE (b n c q:Nat) (k:Array Value) (a:Array Value) (w:World) (g:n+1<=c) (C:c<=9223372036854775807) (l:a.size=4)
 (A:w.heap[b]? = some (.cells k 60 (0,0))) (f:k.size=c*4) (B:w.heap[q]? = some (.cells a 60 (0,0))) (p:∀ v∈a.toList,v.oneCell'=true) :
 Calls prog 153 #[.slice (some ⟨b,0,none⟩) n c,.int .i64 n,.slice (some ⟨q,0,none⟩) 1 1] w fun e w' =>
  e=.returned (.slice (some ⟨b,0,none⟩) (n+1) c)/\w'=w.setCells b (n*4) a.toList:=by
 obtain ⟨r,y,t,d,s⟩:=info_parts qX;have m:a.toList.length=4:=by rw [Ti,l]
 have o:Src prog r.size 234 (.slice (some ⟨q,0,none⟩) 1 1) 1 a.toList w:=by
  rw [d];exact Src.ofSlice w gS ⟨q,0,none⟩ 1 1 a.toList (by rw [m]) (fun j u D=>by rw [Addr.add_lit,Nat.zero_add];exact lT B j u D) p
 have x:∀ j,j<a.toList.length->(w.cell? ⟨b,0+n*r.size+j,none⟩).isSome=true:=fun j h=>AY A _ (by rw [f,d];omega)
 have z:∀ j,j<a.toList.length->w.frozen? ⟨b,0+n*r.size+j,none⟩=false:=fun j _=>frozen_of_row w b _ k _ A
 clear A f B p m l;have H:=aA d;clear d s t;go_enter func153,ntmps153
 go_wp2_with (at_builtin;refine wpList_append_room_src _ rfl _ _ 234 234 rfl 60 r gS y b 0 n c rfl _ rfl 1 a.toList o g x z ?_)
 go_ret;exact ⟨rfl,by rw [H.out]⟩
theorem EF (base:Tp) (n c m:Nat) (l:List Value) (d:Array Value) (w:World) (G:n<=c) (b:c<n+1) (t:(n+1)*56<=140737488355328) (p:d.size=4)
 (s:l.length=n*4) (k:base=none->n=0) (r:∀ a,base=some a->∀ j v,l[j]? = some v->w.cell? (a.add j)=some v) (E:w.heap[m]? = some (.cells d 60 (0,0))) (x:∀ v∈d.toList,v.oneCell'=true) :
 Calls prog 153 #[.slice base n c,.int .i64 n,.slice (some ⟨m,0,none⟩) 1 1] w fun e w' =>
  e=.returned (.slice (some ⟨w.heap.size,0,none⟩) (n+1) (grownCap w (n+1) c 60)) /\
  w'=w.drew.alloc (.cells ((l++d.toList).toArray++Builtin.zeroCells (.agg #[.int .i64 0,.int .i64 0,.string ⟨#[]⟩,.slice none 0 0]:Value).cells (grownCap w (n+1) c 60-(n+1))) 60):=by
 obtain ⟨y,C,A,o,z⟩:=info_parts qX;have q:d.toList.length=4:=by rw [Ti,p]
 have f:Src prog y.size 234 (.slice (some ⟨m,0,none⟩) 1 1) 1 d.toList w:=by
  rw [o];exact Src.ofSlice w gS ⟨m,0,none⟩ 1 1 d.toList (by rw [q]) (fun j u B=>by rw [Addr.add_lit,Nat.zero_add];exact lT E j u B) x
 have h:(Builtin.firstCells y.size n (.slice base n c)).run prog w.drew=.ok l.toArray w.drew:=by
  rw [o];cases base with
  | none =>
    have D:=k rfl;subst D;rw [Tg.1 (show l.length=0 by simpa using s)];exact run_firstCells_none w.drew 4 0 0 c
  | some a=>exact run_firstCells_some w.drew 4 n a n c l s (fun j v B=>r a rfl j v B)
 have g:∀ ty,(Builtin.append_ #[234,234] ty #[.slice base n c,.slice (some ⟨m,0,none⟩) 1 1]).run prog w=_:=fun ty =>
  run_append_grow_src w 234 234 ty 60 y _ gS C A base n c l h _ 1 d.toList f b (by omega) (by rw [z];exact growslice_fits b t)
 clear E x r h f q p;go_enter func153,ntmps153
 cases base with
 | none =>
   have D:=k rfl;subst D;go_wp2_with (at_builtin;refine Lib.wpList_append_run _ rfl _ _ _ _ rfl _ _ rfl rfl _ _ (g _) ?_)
   go_ret;exact ⟨rfl,rfl⟩
 | some a =>
   obtain ⟨ab,I,H⟩:=a;go_wp2_with (at_builtin;refine Lib.wpList_append_run _ rfl _ _ _ _ rfl _ _ rfl rfl _ _ (g _) ?_)
   all_goals (go_ret;exact ⟨rfl,rfl⟩)
theorem JF (b n c i p:Nat) (Y:Array Value) (g:List Value) (a:Array Value) (w:World) (hi:i<n) (jq:n<=c) (s:c<n+1) (S:(n+1)*56<=140737488355328) (H:a.size=4)
 (hb:w.heap[b]? = some (.cells Y 60 (0,0))) (R:g.length=n*4) (ht:Y.toList.take (n*4)=g) (M:w.heap[p]? = some (.cells a 60 (0,0))) (X:∀ v∈g,v.oneCell'=true) (V:∀ v∈a.toList,v.oneCell'=true) :
 Calls prog 153 #[.slice (some ⟨b,0,none⟩) n c,.int .i64 i,.slice (some ⟨p,0,none⟩) 1 1] w fun e w' =>
  e=.returned (.slice (some ⟨w.heap.size,0,none⟩) (n+1) (grownCap w (n+1) c 60)) /\
  w'=(((w.alloc (.cells ((g.take (i*4)).toArray++Builtin.zeroCells (.agg #[.int .i64 0,.int .i64 0,.string ⟨#[]⟩,.slice none 0 0]:Value).cells (n+1-i)++Builtin.zeroCells (.agg #[.int .i64 0,.int .i64 0,.string ⟨#[]⟩,.slice none 0 0]:Value).cells (grownCap w (n+1) c 60-(n+1))) 60)).drew.setCells w.heap.size (i*4) a.toList).drew).setCells w.heap.size (i*4+4) (g.drop (i*4)):=by
 have z:=AZ hb ht;have L:=lT M;have I:a.toList.length=4:=by rw [Ti,H]
 obtain ⟨i0,jc,ja,D,E⟩:=info_parts qX;have jn:¬ ((i:Int)=(n:Int)):=by omega
 have jm:(c:Int)<(n:Int)+1:=by omega
 have jd:b<w.heap.size:=lt_of_block hb;have jb:p<w.heap.size:=lt_of_block M;have N:(n:Int)+1-(i:Int)=((n+1-i:Nat):Int):=by omega
 have u:i+(n+1-i)=n+1:=by omega
 have q:(Builtin.firstCells i0.size i (.slice (some ⟨b,0,none⟩) i c)).run prog w.drew=.ok (g.take (i*4)).toArray w.drew:=by
  rw [D]
  exact run_firstCells_some w.drew 4 i ⟨b,0,none⟩ i c (g.take (i*4)) (by rw [Th];omega) (fun j v d=>by
   rw [Addr.add_lit,Nat.zero_add];rw [List.getElem?_take] at d;split at d
   · exact z j v d
   · cases d)
 have o:∀ ty,(Builtin.append_ #[234,3] ty #[.slice (some ⟨b,0,none⟩) i c,.int .i64 ((n:Int)+1-(i:Int))]).run prog w =
  .ok (.slice (some ⟨w.heap.size,0,none⟩) (n+1) (grownCap w (n+1) c 60)) (w.drew.alloc (.cells ((g.take (i*4)).toArray++Builtin.zeroCells (.agg #[.int .i64 0,.int .i64 0,.string ⟨#[]⟩,.slice none 0 0]:Value).cells (n+1-i)++Builtin.zeroCells (.agg #[.int .i64 0,.int .i64 0,.string ⟨#[]⟩,.slice none 0 0]:Value).cells (grownCap w (n+1) c 60-(n+1))) 60)):=fun ty=>by
  have h:=Lib.run_append_grow_zeros w 234 3 ty 60 i0 _ .i64 .i64 gS MI jc ja (some ⟨b,0,none⟩) i c (g.take (i*4)) q (n+1-i) (by omega) (by rw [D];omega) (by omega) (by omega) (by rw [E];omega) (by rw [E,u];exact growslice_fits s S);rw [u] at h;rw [N];exact h
 obtain ⟨G,hG⟩:∃ G,G=grownCap w (n+1) c 60:=⟨_,rfl⟩;obtain ⟨ROW,l⟩:∃ ROW:Array Value,ROW=(g.take (i*4)).toArray++Builtin.zeroCells (.agg #[.int .i64 0,.int .i64 0,.string ⟨#[]⟩,.slice none 0 0]:Value).cells (n+1-i)++Builtin.zeroCells (.agg #[.int .i64 0,.int .i64 0,.string ⟨#[]⟩,.slice none 0 0]:Value).cells (G-(n+1)):=⟨_,rfl⟩;rw [<- hG] at o |-
 rw [<- l] at o |-
 have jf:(n+1)*4<=ROW.size:=by
  rw [l];simp [Builtin.zeroCells,Value.cells];omega
 obtain ⟨m,f⟩:∃ m,m=w.drew.alloc (.cells ROW 60):=⟨_,rfl⟩;rw [<- f] at o
 have Z:∀ j,j<(n+1)*4->(m.cell? ⟨w.heap.size,j,none⟩).isSome=true:=fun j d=>by
  rw [f,World.cell?_alloc_at (w:=w.drew) ROW _ w.heap.size j rfl,Array.getElem?_eq_getElem (by omega)];rfl
 have B:∀ j,m.frozen? ⟨w.heap.size,j,none⟩=false:=fun j=>by rw [f];exact World.frozen?_alloc_at (w:=w.drew) ROW _ w.heap.size j rfl
 have U:∀ j v,w.cell? ⟨b,j,none⟩=some v->m.cell? ⟨b,j,none⟩=some v:=fun j v h=>by rw [f,World.cell?_alloc_past (w:=w.drew) _ b j jd];exact h
 have T:∀ j v,w.cell? ⟨p,j,none⟩=some v->m.cell? ⟨p,j,none⟩=some v:=fun j v h=>by rw [f,World.cell?_alloc_past (w:=w.drew) _ p j jb];exact h
 have P:∀ (W:World),(∀ x,W.cell? x=m.cell? x)->(∀ x,W.frozen? x=m.frozen? x)->∀ ty C,(Builtin.copy_ #[234,234] ty #[.slice (some ⟨w.heap.size,i*4,none⟩) (n+1-i) C,.slice (some ⟨p,0,none⟩) 1 1]).run prog W=.ok (goInt (Nat.min 1 (n+1-i))) (W.setCells w.heap.size (i*4) a.toList):=fun W k A ty C =>
  nI W _ _ ty 60 4 w.heap.size (i*4) (n+1-i) C ⟨p,0,none⟩ 1 1 a.toList gS tO (by rw [I];simp only [Nat.min_def];split <;> omega)
   (fun j v d=>by rw [Addr.add_lit,Nat.zero_add,k];exact T _ v (L j v d))
   (fun j d=>by rw [k];exact Z _ (by omega)) (fun j d=>by rw [A];exact B _) V
 have jw:n+1<=G:=by rw [hG];exact grownCap_ge w _ _ _
 have jl:G<=9223372036854775807:=by
  have:=grownCap_le_maxLen w (n+1) c 60 (by unfold maxLen;omega);rw [<- hG] at this;unfold maxLen at this;omega
 have jx:¬ (G=i):=by omega
 have jk:¬ (G=i+1):=by omega
 have js:¬ (c=i):=by omega
 have je:b ≠ w.heap.size:=by omega
 have O:(g.drop (i*4)).length=(n-i)*4:=by rw [List.length_drop,R];omega
 have r:∀ (W:World),(∀ y,W.cell? y=(m.setCells w.heap.size (i*4) a.toList).cell? y)->(∀ y,W.frozen? y=(m.setCells w.heap.size (i*4) a.toList).frozen? y)->∀ ty C sc,(Builtin.copy_ #[234,234] ty #[.slice (some ⟨w.heap.size,(i+1)*4,none⟩) (n-i) C,.slice (some ⟨b,i*4,none⟩) (n-i) sc]).run prog W=.ok (goInt (Nat.min (n-i) (n-i))) (W.setCells w.heap.size (i*4+4) (g.drop (i*4))):=fun W k A ty C sc=>by
  rw [show (i+1)*4=i*4+4 by omega]
  exact nI W _ _ ty 60 4 w.heap.size (i*4+4) (n-i) C ⟨b,i*4,none⟩ (n-i) sc (g.drop (i*4)) gS tO (by rw [O];simp only [Nat.min_def];split <;> omega)
   (fun j v d=>by
    rw [Addr.add_lit,k,World.cell?_setCells_out _ _ _ _ _ (fun h _=>absurd h je)];exact U _ v (z (i*4+j) v (by rwa [List.getElem?_drop] at d)))
   (fun j d=>by rw [k];exact isSome_setCells _ a.toList (i*4) m (fun t ht=>Z _ (by omega)) _ (Z _ (by omega)))
   (fun j d=>by rw [A,World.frozen?_setCells];exact B _) (fun v M=>X v (List.mem_of_mem_drop M))
 subst f;have jj:∀ x,((w.alloc (.cells ROW 60)).drew).cell? x=(w.drew.alloc (.cells ROW 60)).cell? x:=fun x=>rfl
 have ji:∀ x,((w.alloc (.cells ROW 60)).drew).frozen? x=(w.drew.alloc (.cells ROW 60)).frozen? x:=fun x=>rfl
 have jh:∀ y,(((w.alloc (.cells ROW 60)).drew.setCells w.heap.size (i*4) a.toList).drew).cell? y=((w.drew.alloc (.cells ROW 60)).setCells w.heap.size (i*4) a.toList).cell? y:=fun y=>rfl
 have jg:∀ y,(((w.alloc (.cells ROW 60)).drew.setCells w.heap.size (i*4) a.toList).drew).frozen? y=((w.drew.alloc (.cells ROW 60)).setCells w.heap.size (i*4) a.toList).frozen? y:=fun y=>rfl
 have jo:IntKind.i64.wrap ((i:Int)+1)=(i:Int)+1:=by rw [IntKind.wrap_i64];omega
 have jv:(0:Int)<=(i:Int)+1:=by omega
 have jr:i<=n:=by omega
 have jp:((i:Int)+1).toNat=i+1:=by omega
 have ju:(i:Int)<=(n:Int):=by omega
 have jt:(i:Int)<=(n:Int)+1:=by omega
 clear N u q l hG jf hb ht M X V z L Z B U T O I H R;go_enter func153,ntmps153
 go_wp2_with (first
  | (at_builtin;refine Lib.wpList_append_run _ rfl _ _ _ _ rfl _ _ rfl rfl _ _ (o _) ?_)
  | (at_builtin;refine wpList_copy_runI _ rfl _ _ 234 234 rfl _ _ rfl rfl (P _ jj ji _ _) ?_)
  | (at_builtin;refine wpList_copy_runI _ rfl _ _ 234 234 rfl _ _ rfl rfl (r _ (fun _=>rfl) (fun _=>rfl) _ _ _) ?_))
 go_region_law (refine step_copy_runI rfl _ _ 234 234 rfl (.slice (some ⟨w.heap.size,(i+1)*4,none⟩) (n-i) (G-(i+1))) (.slice (some ⟨b,i*4,none⟩) (n-i) (c-i)) (by simp [Act.eval,Act.put]) (by simp [Act.eval,Act.put]) (r _ jh jg 3 (G-(i+1)) (c-i)) ?_)
 go_wp2
 go_ret;exact ⟨rfl,rfl⟩
theorem SW (v:Value) (n i m:Nat) (xs:List Value) (f:Array Value) (w:World) (hn:n<=1000000) (V:i<=n) (ho:w.ownsRow 0 60 4 v n xs) (c:f.size=4) (x:w.heap[m]? = some (.cells f 60 (0,0))) (P:v.ownBlock ≠ some m)
 (H:∀ u∈xs,u.oneCell'=true) (l:∀ u∈f.toList,u.oneCell'=true) :
 Calls prog 153 #[v,.int .i64 i,.slice (some ⟨m,0,none⟩) 1 1] w fun e w'=>NQ w w' 60 4 v (n+1) (xs.take (i*4)++f.toList++xs.drop (i*4)) e:=by
 have d:f.toList.length=4:=by rw [Ti,c]
 have o:∀ k,(Builtin.zeroCells (.agg #[.int .i64 0,.int .i64 0,.string ⟨#[]⟩,.slice none 0 0]:Value).cells k).size=k*4:=fun k=>by simp [Builtin.zeroCells,Value.cells]
 rcases lP ho with ⟨rfl,rfl,rfl⟩ | ⟨g,b,r,rfl,O,s,A,R,hs,y,hx⟩
 · obtain rfl:i=0:=by omega
   refine (EF none 0 0 m [] f w (Td _) (by omega) (by omega) c rfl (fun _=>rfl) (fun a h=>by cases h) x l).mono fun e w' ⟨p,hw⟩=>?_
   subst hw;refine ⟨_,p,mQ (heap_alloc_new _ _) (grownCap_ge w (0+1) 0 60) (grownCap_le_maxLen w (0+1) 0 60 (by unfold maxLen;omega)) ?_ ?_,cO (S:=fun _=>False) (((aC.refl _ w).drew).alloc _) (fun _ h=>h.elim),.inr ⟨_,rfl,Td _⟩⟩
   · have:=grownCap_ge w (0+1) 0 60
     rw [Array.size_append,o,List.size_toArray,List.nil_append,d];omega
   · rw [Array.toList_append,Tf (by simp [c]),List.take_of_length_le (by simp [c])];simp
 · have z:m ≠ g:=fun h=>P (by rw [O,h])
   have B:b<=9223372036854775807:=by unfold maxLen at R;omega
   by_cases hr:n+1<=b
   · by_cases q:i=n
     · subst q
       refine (JE g i b m r f w hr B c s hs x l).mono fun e w' ⟨p,hw⟩=>?_
       subst hw;obtain ⟨c2,G,t,t2⟩:=J9 (C:=b*4) s hs y hx d (by omega);refine ⟨_,p,mQ G hr R t ?_,cO (S:=(· = g)) (cW g _ _ _) (fun k L=>by subst L;rfl),.inl rfl⟩;rw [show (i+1)*4=i*4+4 by omega,t2,List.take_of_length_le (by omega:xs.length<=i*4),List.drop_of_length_le (by omega:xs.length<=i*4),List.append_nil]
     · refine (Gq g n b i m r xs f w (by omega) hr B z c s hs hx y x H l).mono fun e w' ⟨p,hw⟩=>?_
       subst hw;obtain ⟨c2,G,t,t2⟩:=GN (I:=i*4) (C:=b*4) s hs y hx (by omega) d (by omega);refine ⟨_,p,mQ G hr R t ?_,cO (S:=(· = g)) (((aC.refl (· = g) w).drew.trans (cW g _ _ _) (fun _ h _=>h)).trans (cW g _ _ _) (fun _ h _=>h)) (fun k L=>by subst L;rfl),.inl rfl⟩;rw [show (n+1)*4=n*4+4 by omega,t2]
   · have E:=grownCap_ge w (n+1) b 60
     have D:=grownCap_le_maxLen w (n+1) b 60 (by unfold maxLen;omega);by_cases q:i=n
     · subst q
       refine (EF (some ⟨g,0,none⟩) i b m xs f w A (by omega) (by omega) c hx (fun h=>by cases h) (fun a ha j u U=>by cases ha;rw [Addr.add_lit,Nat.zero_add];exact eD s y U) x l).mono fun e w' ⟨p,hw⟩=>?_
       subst hw;refine ⟨_,p,mQ (heap_alloc_new _ _) E D ?_ ?_,cO (S:=fun _=>False) (((aC.refl _ w).drew).alloc _) (fun _ h=>h.elim),.inr ⟨_,rfl,Td _⟩⟩
       · rw [Array.size_append,o,List.size_toArray,Tb,hx,d];omega
       · have hl:(xs++f.toList).length=(i+1)*4:=by rw [Tb,hx,d];omega
         rw [Array.toList_append,Tf (by rw [<- hl];simp),List.take_of_length_le (by rw [<- hl];simp),List.take_of_length_le (by omega:xs.length<=i*4),List.drop_of_length_le (by omega:xs.length<=i*4),List.append_nil]
     · refine (JF g n b i m r xs f w (by omega) A (by omega) (by omega) c s hx y x H l).mono fun e w' ⟨p,hw⟩=>?_
       subst hw;obtain ⟨c2,G,t,t2⟩:=Ka (w:=w) (e:=60) (I:=i*4) (N:=n*4) (M:=4) (C:=grownCap w (n+1) b 60*4) (Y:=Builtin.zeroCells (.agg #[.int .i64 0,.int .i64 0,.string ⟨#[]⟩,.slice none 0 0]:Value).cells (n+1-i)) (Z:=Builtin.zeroCells (.agg #[.int .i64 0,.int .i64 0,.string ⟨#[]⟩,.slice none 0 0]:Value).cells (grownCap w (n+1) b 60-(n+1))) hx (by omega) d (by omega) (by rw [o];omega) (by rw [o];omega)
       have T:aC (fun k=>k=w.heap.size) w ((((w.alloc (.cells ((xs.take (i*4)).toArray++Builtin.zeroCells (.agg #[.int .i64 0,.int .i64 0,.string ⟨#[]⟩,.slice none 0 0]:Value).cells (n+1-i)++Builtin.zeroCells (.agg #[.int .i64 0,.int .i64 0,.string ⟨#[]⟩,.slice none 0 0]:Value).cells (grownCap w (n+1) b 60-(n+1))) 60)).drew.setCells w.heap.size (i*4) f.toList).drew).setCells w.heap.size (i*4+4) (xs.drop (i*4))) :=
        ((((aC.refl (fun k=>k=w.heap.size) w).alloc _).drew.trans (cW w.heap.size _ _ _) (fun _ h _=>h)).drew).trans (cW w.heap.size _ _ _) (fun _ h _=>h)
       refine ⟨_,p,mQ G E D t ?_,cO (S:=fun _=>False) (T.mono (fun k L hl=>by omega)) (fun _ h=>h.elim),.inr ⟨_,rfl,Td _⟩⟩;rw [show (n+1)*4=n*4+4 by omega,t2]
end
theorem AA (s:Tr) (t:s.size<=281474976710656) (w:World):Calls prog 148 #[.string s] w fun e w'=>e=.returned (.int .i64 (J6 s.data.toList))/\w=w':=by
 have b:s.data.toList.length=s.size:=by simp
 by_cases hl:64<s.size
 · have R:=aA (show J6 s.data.toList=4 by unfold J6;rw [b,if_pos hl])
   go_enter func148,ntmps148
   go_wp2
   go_ret;exact ⟨gU R.out.symm,rfl⟩
 · have R:=aA (show J6 s.data.toList=if s.data.toList.any Ad then 2 else 0 by unfold J6;rw [b,if_neg hl])
   clear b;go_enter func148,ntmps148
   go_wp2
   go_loop [10] (fun i=>∃ k:Nat,k<=s.size/\i=.int .i64 k/\Hid (∀ j (m:j<s.size),j<k->Ad s[j]=false)) (fun i=>s.size-(intOf i).toNat)
   case atStart=>exact ⟨0,Nat.zero_le _,rfl,aA (fun j _ h=>by omega)⟩
   case round =>
    obtain ⟨k,u,rfl,a⟩:=hrel;by_cases f:k<s.size
    · obtain ⟨c,r⟩:∃ c:Int,(s[k].toNat:Int)=c:=⟨_,rfl⟩
      have d:Ad s[k]=(decide (c<32) || decide (126<c) || decide (c=34)):=by unfold Ad;rw [r]
      have g:c<32\/126<c\/c=34\/(32<=c/\c<=126/\¬ c=34):=by omega
      rcases g with h1 | h1 | h1 | ⟨h1,p,o⟩
      · have p:=h1
        have n:=aA (R.out.trans (by rw [if_pos (Ag f (by rw [d];first | (simp;done) | (simp;omega)))]));clear d R a;go_wp2
        go_ret;exact ⟨gU n.out.symm,rfl⟩
      · have p:¬ c<32:=by omega
        have n:=aA (R.out.trans (by rw [if_pos (Ag f (by rw [d];first | (simp;done) | (simp;omega)))]));clear d R a;go_wp2
        go_ret;exact ⟨gU n.out.symm,rfl⟩
      · subst h1
        have n:=aA (R.out.trans (by rw [if_pos (Ag f (by rw [d];first | (simp;done) | (simp;omega)))]));clear d R a;go_wp2
        go_ret;exact ⟨gU n.out.symm,rfl⟩
      · have l:=aA (show ∀ j (m:j<s.size),j<k+1->Ad s[j]=false from fun j m q=>by
         by_cases e:j=k
         · subst e;rw [d];simp;omega
         · exact a.out j m (by omega))
        have x:(c == 34)=false:=by simpa using o
        clear d o;go_wp2
        go_round
        case rel=>exact ⟨k+1,by omega,by go_num,l⟩
        case measure=>simp [intOf];omega
    · go_wp2
      go_ret;exact ⟨gU (by rw [R.out,S4 fun j m=>a.out j m (by omega)];rfl),rfl⟩
theorem AB (a:Tp) (len p:Nat) (z:Nat->Int) (w:World) (hr:Reads w a len z) :
 Calls prog 149 #[.slice a len p] w fun e w'=>e=.returned (.int .i64 (errL (upTo z len)))/\∃ n,w'=w.drewN n:=by
 obtain ⟨g,hr⟩:=hr;unfold maxLen at g;have c:=Dw z len;by_cases hl:16<len
 · have R:=aA (show errL (upTo z len)=4 by unfold errL;rw [c,if_pos hl])
   clear hr c;go_enter func149,ntmps149
   go_wp2
   go_ret;exact ⟨gU R.out.symm,0,rfl⟩
 · have R:=aA (show errL (upTo z len)=if risesB (upTo z len) then 0 else 2 by unfold errL;rw [c,if_neg hl])
   clear c;rcases hr with rfl | ⟨b,off,rfl,s⟩
   · go_enter func149,ntmps149
     go_wp2
     go_loopw [3] (fun i wr=>i=.int .i64 1/\wr=w) (fun _ _=>0)
     case atStart=>exact ⟨rfl,rfl⟩
     case round =>
      obtain ⟨rfl,rfl⟩:=hrel;go_wp2
      go_ret;exact ⟨gU (by rw [R.out];rfl),0,rfl⟩
   · have l:=aA s
     clear s;go_enter func149,ntmps149
     go_wp2
     go_loopw [3] (fun i wr=>∃ k:Nat,1<=k/\(k<=len\/k=1)/\i=.int .i64 k/\Hid (∀ j,j+1<k->j+1<len->z j<z (j+1))/\Hid (∃ n,wr=w.drewN n)) (fun i _=>len-(intOf i).toNat)
     case atStart=>exact ⟨1,Td _,.inr rfl,rfl,aA (fun j h=>by omega),aA ⟨0,rfl⟩⟩
     case round =>
      obtain ⟨k,B,A,rfl,f,q⟩:=hrel;by_cases o:k<len
      · obtain ⟨n,rfl⟩:=q.out
        have c1:=l.out k o;have C:=l.out (k-1) (by omega);go_wp2
        have y:IntKind.i64.wrap ((k:Int)-1)=(k:Int)-1:=IntWalk.i64_in _ (by omega);have x:0<=(k:Int)-1:=by omega
        have u:((k:Int)-1).toNat=k-1:=by omega
        have t:(k:Int)-1<len:=by omega
        go_quiet (fail)
        clear y x u t;by_cases hz:z k<=z (k-1)
        · have m:=aA (show ¬ risesB (upTo z len)=true from fun h=>by
           have:=xR.1 h (k-1) (by omega);rw [show k-1+1=k by omega] at this;omega)
          go_wp2
          go_ret;exact ⟨gU (by rw [R.out,if_neg m.out]),_,World.drewN_drewN _ _ _⟩
        · have d:=aA (show ∀ j,j+1<k+1->j+1<len->z j<z (j+1) from fun j r hl=>by
           by_cases e:j+1=k
           · rw [e,show j=k-1 by omega];omega
           · exact f.out j (by omega) hl)
          go_wp2
          go_roundw
          case rel=>exact ⟨k+1,by omega,.inl (by omega),by go_num,d,aA ⟨_,rfl⟩⟩
          case measure=>simp [intOf];omega
      · go_wp2
        go_ret;exact ⟨gU (by rw [R.out,if_pos (xR.2 fun j r=>f.out j (by omega) r)]),q.out⟩
theorem Kf (k n:Int) (s:Tr) (j:s.size<=281474976710656) (a:Tp) (len c:Nat) (z:Nat->Int) (w:World) (hr:Reads w a len z) :
 Calls prog 93 #[val k n s (.slice a len c)] w fun e w'=>e=.returned (.int .i64 (errV k s len z))/\Below w.heap.size w w':=by
 unfold val;have b:∀ o,Reads (w.alloc o) a len z:=fun o=>hr.kept (bA0 _ _)
 have h:=aA b;clear b;by_cases g:k=1
 · subst g
   go_enter func93,ntmps93
   go_wp2_with fail
   go_ret;exact ⟨rfl,bA0 _ _⟩
 have p:(k == 1)=false:=by simpa using g
 by_cases f:k=2
 · subst f
   go_enter func93,ntmps93
   go_wp2_with (go_at_call 148;refine (AA s j _).mono ?_;rintro e w' ⟨rfl,rfl⟩)
   go_ret;exact ⟨rfl,bA0 _ _⟩
 have m:(k == 2)=false:=by simpa using f
 by_cases d:k=3
 · subst d
   go_enter func93,ntmps93
   go_wp2_with (go_at_call 149;refine (AB a len c z _ (h.out _)).mono ?_;rintro e w' ⟨rfl,q,rfl⟩)
   go_ret;exact ⟨rfl,(bA0 _ _).trans ⟨rfl,rfl,rfl,Td _,fun _ _=>rfl⟩⟩
 have l:(k == 3)=false:=by simpa using d
 have R:=aA (show errV k s len z=7 by unfold errV;rw [if_neg g,if_neg f,if_neg d]);clear g f d;go_enter func93,ntmps93
 go_wp2_with fail
 go_ret;exact ⟨gU R.out.symm,bA0 _ _⟩
def dL:List VC->List Value
 | []=>[]
 | v::r=>v.cs++dL r
theorem uV:∀ l:List VC,(dL l).length=l.length*4
 | []=>rfl
 | v::r=>by rw [dL,Tb,uV r];show 4+_=(r.length+1)*4;omega
theorem oD:∀ a b:List VC,dL (a++b)=dL a++dL b
 | [],b=>rfl
 | v::r,b=>by rw [List.cons_append,dL,oD r b,dL,List.append_assoc]
theorem zK:∀ (l:List VC) (i:Nat),dL (l.take i)=(dL l).take (i*4)
 | [],i=>by simp [dL]
 | v::r,0=>by simp [dL]
 | v :: r, i + 1 => by
   rw [List.take_succ_cons,dL,dL,zK r i,show (i+1)*4=i*4+1+1+1+1 by omega];rfl
theorem zL:∀ (l:List VC) (i:Nat),dL (l.drop i)=(dL l).drop (i*4)
 | [],i=>by simp [dL]
 | v::r,0=>by simp [dL]
 | v :: r, i + 1 => by
   rw [List.drop_succ_cons,dL,zL r i,show (i+1)*4=i*4+1+1+1+1 by omega];rfl
theorem MW {l:List VC} {i r:Nat} {v:VC} (h:l[i]? = some v) (hr:r<4):(dL l)[i*4+r]? = v.cs[r]? := by
 obtain ⟨b,a⟩:=List.getElem?_eq_some_iff.1 h;have e:l=l.take i++v::l.drop (i+1):=by rw [<- a];exact (List.take_append_drop i l).symm.trans (by rw [List.drop_eq_getElem_cons b])
 have hl:(dL (l.take i)).length=i*4:=by rw [uV,Th,Nat.min_eq_left (by omega)]
 conv=>lhs;rw [e,oD]
 rw [List.getElem?_append_right (by omega),hl,show i*4+r-i*4=r by omega,dL,List.getElem?_append_left (by show r<4;omega)]
theorem JY (l:List VC):∀ u∈dL l,u.oneCell'=true:=by
 induction l with
 | nil=>intro u hu;cases hu
 | cons v r ih =>
   intro u hu;rw [dL,List.mem_append] at hu;rcases hu with hu | hu
   · simp only [VC.cs,List.mem_cons,List.not_mem_nil,or_false] at hu
     rcases hu with rfl | rfl | rfl | rfl <;> rfl
   · exact ih u hu
def MSV (w:World) (p:Nat) (F:Nat->Prop) (ks:List ByteArray) (vs:List VC):Prop :=
 gP 4 w 236 9 60 p F (ks.map Value.string) (dL vs)
theorem MSV.kept {w w':World} {p:Nat} {F S:Nat->Prop} {ks:List ByteArray} {a:List VC} (h:MSV w p F ks a) (b:aC S w w') (c:∀ k,F k->¬ S k):MSV w' p F ks a:=gP.kept h b c
theorem MSV.lt {w:World} {p:Nat} {F:Nat->Prop} {ks:List ByteArray} {a:List VC} (h:MSV w p F ks a):∀ k,F k->k<w.heap.size:=gP.lt h
theorem MSV.len {w:World} {p:Nat} {F:Nat->Prop} {ks:List ByteArray} {a:List VC} (h:MSV w p F ks a):a.length=ks.length:=by
 have:=gP.len h;rw [uV,List.length_map] at this;omega
theorem Sm (w:World):Calls prog 150 #[] w fun e w' =>
 e=.returned (.pointer (some ⟨w.heap.size,0,none⟩))/\MSV w' w.heap.size (fun k=>k=w.heap.size) [] []/\aC (fun _=>False) w w':=by
 have H:Calls prog 150 #[] w fun e w'=>e=.returned (.pointer (some ⟨w.heap.size,0,none⟩))/\w'=w.alloc (.cells #[.slice none 0 0,.slice none 0 0] 236):=by
  go_enter func150,ntmps150
  go_wp2
  go_ret;exact ⟨rfl,rfl⟩
 refine H.mono ?_;rintro e w' ⟨rfl,rfl⟩;refine ⟨rfl,⟨_,_,heap_alloc_new w _,World.ownsRow_nil _ _ _ _,World.ownsRow_nil _ _ _ _,?_,?_,?_,rfl,?_,?_,?_⟩,(aC.refl _ w).alloc _⟩
 · simp [Value.ownBlock]
 · simp [Value.ownBlock]
 · simp [Value.ownBlock]
 · simp [Value.ownBlock]
 · simp [Value.ownBlock]
 · intro k a;subst a;simp
theorem Qx (w:World) (p:Nat) (F:Nat->Prop) (ks:List ByteArray) (c:List VC) (h:MSV w p F ks c):Calls prog 97 #[.pointer (some ⟨p,0,none⟩)] w fun e w' =>
 e=.returned (.int .i64 (ks.length:Nat))/\w=w':=by
 obtain ⟨j,g,b,a,d,_⟩:=h;obtain ⟨l,k,rfl⟩:=nT a;have f:=iP b;simp only [List.length_map] at f;clear b a d;go_enter func97,ntmps97
 go_wp2
 go_ret;exact ⟨rfl,rfl⟩
theorem Px (w:World) (p:Nat) (F:Nat->Prop) (ks:List ByteArray) (m:List VC) (i:Nat) (k:Tr) (hn:ks.length<=1000000) (b:ks[i]? = some k) (h:MSV w p F ks m) :
 Calls prog 202 #[.pointer (some ⟨p,0,none⟩),.int .i64 i] w fun e w'=>e=.returned (.tuple #[.string k,.bool true])/\w=w':=by
 obtain ⟨y,x,l,j,r,_⟩:=h;have z:=(List.getElem?_eq_some_iff.1 b).1;obtain ⟨g,c,t,rfl,f,hs,a,o,d,hx⟩:=FZ j (by simp;omega);have u:=iP l;simp only [List.length_map] at u;have A:w.cell? ⟨g,i,none⟩=some (.string k):=eD f d (by rw [List.getElem?_map,b];rfl);have q:(i:Int)<(ks.length:Int):=by omega
 generalize ks.length=n at *;have s:(0:Int)<=(i:Int):=by omega
 clear l j r b f hs d hx a o;go_enter func202,ntmps202
 go_wp2
 go_ret2;exact ⟨rfl,rfl⟩
theorem Mf {w:World} {p:Nat} {F:Nat->Prop} {ks:List ByteArray} {f:List VC} (h:MSV w p F ks f) (hn:ks.length<=1000000) (hr:dI lsS ks) (x:Tr) :
 ∃ b a, w.cell? ⟨p, 0, none⟩ = some (.slice b ks.length a) /\ ∀ (I : Nat) (B : Bool), pos lsS ks x = I -> has ks x = B ->
   Calls prog 151 #[.slice b ks.length a,.string x] w fun e w'=>e=.returned (.tuple #[.int .i64 I,.bool B])/\∃ q,w'=w.drewN q:=by
 obtain ⟨m,l,k,c,n,_⟩:=h;obtain ⟨b,a,rfl⟩:=nT c;have d:=iP k;simp only [List.length_map] at d c;exact ⟨b,a,d,fun I B g j=>by rw [<- g, <- j];exact Oz _ _ ks x w hn c hr⟩
theorem RM (w:World) (p:Nat) (F:Nat->Prop) (ks:List ByteArray) (q:List VC) (i:Nat) (k:Tr) (v:VC) (A:ks[i]? = some k) (H:q[i]? = some v) (hn:ks.length<=1000000) (h:MSV w p F ks q) :
 Calls prog 155 #[.pointer (some ⟨p,0,none⟩),.int .i64 i] w fun e w'=>e=.returned (.tuple #[.string k,.agg #[.int .i64 v.k,.int .i64 v.n,.string v.s,.slice v.y v.len v.c],.bool true])/\Below w.heap.size w w':=by
 have a:∀ o,aC (fun _=>False) w (w.alloc o):=fun o=>(aC.refl _ w).alloc o
 have U:=aA (fun o=>Px (w.alloc o) p F ks q i k hn A (h.kept (a o) (fun _ _ h=>h)));have hi:=(List.getElem?_eq_some_iff.1 A).1;have f:=h.lt;obtain ⟨kv,vv,M,h1,L,_,_,_,N,_,f2,_⟩:=h;obtain ⟨g,c,jc,rfl,B,hs,z,Y,I,t⟩:=vS L (by simp;omega);have c1:=kD M;simp only [List.length_map] at c1;have j:∀ r u,r<4->v.cs[r]? = some u->w.cell? ⟨g,i*4+r,none⟩=some u:=fun r u hr V=>eD B I (by rw [MW H hr];exact V)
 have T:=j 0 _ (by omega) rfl;have S:=j 1 _ (by omega) rfl;have R:=j 2 _ (by omega) rfl;have O:=j 3 _ (by omega) rfl;have Z:(i:Int)<(ks.length:Int):=by omega
 have jb:(0:Int)<=(i:Int):=by omega
 have x:=f p N;have b:=lt_of_block B;clear M h1 L H B hs I z Y hi t A j a f N f2;generalize ks.length=n at *;go_enter func155,ntmps155
 go_wp2_with (go_at_call 202;refine (U.out _).mono ?_;rintro e w' ⟨rfl,rfl⟩)
 generalize m:World.alloc w _=W;have hs:W.heap.size=w.heap.size+1:=by rw [<- m];simp
 have a:Below w.heap.size w W:=by rw [<- m];exact bA0 _ _
 have d:W.heap[w.heap.size]? = some (.cells #[.int .i64 0,.int .i64 0,.string ⟨#[]⟩,.slice none 0 0] 60 (0,0)):=by rw [<- m];exact heap_alloc_new w _
 have G:=(a.cell (p:=⟨p,1,none⟩) x).trans c1;have l:=(a.cell (p:=⟨g,i*4+0,none⟩) b).trans T;have E:=(a.cell (p:=⟨g,i*4+1,none⟩) b).trans S;have D:=(a.cell (p:=⟨g,i*4+2,none⟩) b).trans R;have C:=(a.cell (p:=⟨g,i*4+3,none⟩) b).trans O;rw [Nat.add_zero] at l;have BL:=aA a;obtain ⟨⟨y0,y1,y2,y3⟩,⟨z0,z1,z2,z3⟩⟩:=aL d;have X:p ≠ w.heap.size:=by omega
 have ja:g ≠ w.heap.size:=by omega
 have cc:W.drew.cell? ⟨p,1,none⟩=some (.slice (some ⟨g,0,none⟩) n c)/\W.drew.cell? ⟨g,i*4,none⟩=some (.int .i64 v.k)/\W.drew.cell? ⟨g,i*4+1,none⟩=some (.int .i64 v.n)/\W.drew.cell? ⟨g,i*4+2,none⟩=some (.string v.s)/\W.drew.cell? ⟨g,i*4+3,none⟩=some (.slice v.y v.len v.c):=⟨G,l,E,D,C⟩;clear m a c1 T S R O U d;clear cc;go_region_with (fail)
 all_goals
  have P:=aA (p:=Below w.heap.size w ((((W.drew.setCell ⟨w.heap.size,0,none⟩ (.int .i64 v.k)).setCell ⟨w.heap.size,1,none⟩ (.int .i64 v.n)).setCell ⟨w.heap.size,2,none⟩ (.string v.s)).setCell ⟨w.heap.size,3,none⟩ (.slice v.y v.len v.c))) (lS (W:=W.drew) (BL.out.trans (show Below w.heap.size W W.drew from ⟨rfl,rfl,rfl,Td _,fun _ _=>rfl⟩)) (Td _) _ _ _ _);go_wp2
  exact bodyPost_ret (v:=.tuple #[.string k,.agg #[.int .i64 v.k,.int .i64 v.n,.string v.s,.slice v.y v.len v.c],.bool true]) (by simp [results,results155,go_sem, *]) rfl ⟨rfl,P.out⟩
section
open Go.RowKit Go.Lib
theorem qY:(prog.info? 9).map (fun i=>(i.zero,i.size,i.bytes))=some (some (Value.string ⟨#[]⟩),1,16):=by kernel_rfl
theorem JG (w:World):(Go.sizeOf 9).run prog w=.ok 1 w:=by kernel_rfl
theorem MJ:prog.underlying 3=some (.int .i64):=by kernel_rfl
theorem gT:prog.underlying 55=some (.slice 9):=by kernel_rfl
theorem Gr (b n c i a:Nat) (f:Array Value) (g:List Value) (x:Value) (w:World) (hi:i<n) (O:n+1<=c) (V:c<=9223372036854775807) (z:a ≠ b)
 (G:w.heap[b]? = some (.cells f 9 (0,0))) (p:f.size=c) (S:g.length=n) (U:f.toList.take n=g) (r:w.heap[a]? = some (.cells #[x] 9 (0,0))) (L:∀ v∈g,v.oneCell'=true) (I:x.oneCell'=true) :
 Calls prog 152 #[.slice (some ⟨b,0,none⟩) n c,.int .i64 i,.slice (some ⟨a,0,none⟩) 1 1] w fun e w' =>
  e=.returned (.slice (some ⟨b,0,none⟩) (n+1) c)/\w'=(w.drew.setCells b (i+1) (g.drop i)).setCells b i [x]:=by
 have D:∀ j v,g[j]? = some v->w.cell? ⟨b,j,none⟩=some v:=fun j v h=>eD G U h
 have l:∀ j,j<n+1->(w.cell? ⟨b,j,none⟩).isSome=true:=fun j h=>by
  rw [cell_of_row w b j f _ (0,0) G,Array.getElem?_eq_getElem (by omega)];rfl
 have t:∀ j,w.frozen? ⟨b,j,none⟩=false:=fun j=>frozen_of_row w b j f _ G
 have y:∀ j v,[x][j]? = some v->w.cell? ⟨a,j,none⟩=some v:=fun j v h=>eD (n:=1) r rfl h
 have X:¬ ((i:Int)=(n:Int)):=by omega
 have s:(prog.info? 9).map (·.size)=some 1:=by
  obtain ⟨i0,R,h0,h1,h2⟩:=info_parts qY;rw [R];simp [h1]
 have B:w.shape? a=some (9,1):=by simp [World.shape?,r]
 have A:w.shape? b=some (9,c):=by simp [World.shape?,G,p]
 have P:∀ lb cb,(callFunc 198 #[.slice (some ⟨a,0,none⟩) 1 1,.slice (some ⟨b,i+1,none⟩) lb cb]).run prog w=.ok (.value (.bool false)) w:=fun lb cb=>by
  rw [run_callFunc_extern func198 (by kernel_rfl) (by kernel_rfl) (by kernel_rfl) (e:=Extern.SlicesOverlaps.overlaps #[55,55] #[4]) (by kernel_rfl),
   Lib.run_overlaps_apart w 55 4 9 gT 1 JG ⟨a,0,none⟩ ⟨b,i+1,none⟩ 1 1 lb cb z 9 9 1 c B A (by omega) (frozen_of_row w a 0 _ _ r) (frozen_of_row w a 1 _ _ r)]
  rfl
 have C:(g.drop i).length=n-i:=by rw [List.length_drop,S]
 have Y:IntKind.i64.wrap ((i:Int)+1)=(i:Int)+1:=by rw [IntKind.wrap_i64];omega
 have ja:i<=n:=by omega
 have je:(0:Int)<=(i:Int)+1:=by omega
 have Z:((i:Int)+1).toNat=i+1:=by omega
 have jc:(i:Int)<=(n:Int)+1:=by omega
 have jd:¬ (c=i+1):=by omega
 have jb:¬ (c=i):=by omega
 have q:∀ ty u N,(Builtin.copy_ #[55,55] ty #[.slice (some ⟨b,i+1,none⟩) (n-i) u,.slice (some ⟨b,i,none⟩) (n+1-i) N]).run prog w.drew=.ok (goInt (g.drop i).length) (w.drew.setCells b (i+1) (g.drop i)):=fun ty u N =>
  run_copy_cells w.drew _ _ ty 9 b (i+1) (n-i) u ⟨b,i,none⟩ (n+1-i) N (g.drop i) gT s (by rw [C];simp only [Nat.min_def];split <;> omega)
   (fun j v m=>by rw [Addr.add_lit];exact D (i+j) v (by rwa [List.getElem?_drop] at m))
   (fun j m=>l _ (by omega)) (fun j m=>t _) (fun v r=>L v (List.mem_of_mem_drop r))
 obtain ⟨M,d⟩:∃ M,M=w.drew.setCells b (i+1) (g.drop i):=⟨_,rfl⟩
 have o:∀ k,k<n+1->(M.cell? ⟨b,k,none⟩).isSome=true:=fun k hk=>by
  rw [d];exact isSome_setCells b (g.drop i) (i+1) w.drew (fun j m=>l _ (by omega)) _ (l k hk)
 have E:∀ (W:World),(∀ x,W.cell? x=M.cell? x)->(∀ x,W.frozen? x=M.frozen? x)->∀ ty u,(Builtin.copy_ #[55,55] ty #[.slice (some ⟨b,i,none⟩) (n+1-i) u,.slice (some ⟨a,0,none⟩) 1 1]).run prog W=.ok (goInt [x].length) (W.setCells b i [x]):=fun W H T ty u =>
  run_copy_cells W _ _ ty 9 b i (n+1-i) u ⟨a,0,none⟩ 1 1 [x] gT s (by simp only [List.length_singleton,Nat.min_def];split <;> omega)
   (fun j v m=>by
    rw [Addr.add_lit,Nat.zero_add,H,d,World.cell?_setCells_out b _ _ _ _ (fun h _=>absurd h z)];exact y j v m)
   (fun j m=>by rw [H];exact o _ (by simp at m;omega)) (fun j m=>by rw [T,d,World.frozen?_setCells];exact t _) (by simpa using I)
 rw [<- d] at q;clear D l t y s B A C o G p U r L I;go_enter func152,ntmps152
 go_wp2_with (simp only [P])
 go_region_law (refine step_copy_runI rfl _ _ 55 55 rfl _ _ (by simp [Act.eval,Act.put]) (by simp [Act.eval,Act.put]) (q _ _ _) ?_)
 go_wp2_with (at_builtin;refine wpList_copy_runI _ rfl _ _ 55 55 rfl _ _ rfl rfl (E _ (fun _=>rfl) (fun _=>rfl) _ _) ?_)
 go_ret;first | exact ⟨rfl,rfl⟩ | exact ⟨rfl,by rw [d]⟩
theorem JH (b n c l:Nat) (a:Array Value) (x:Value) (w:World) (d:n+1<=c) (r:c<=9223372036854775807)
 (p:w.heap[b]? = some (.cells a 9 (0,0))) (g:a.size=c) (q:w.heap[l]? = some (.cells #[x] 9 (0,0))) (k:x.oneCell'=true) :
 Calls prog 152 #[.slice (some ⟨b,0,none⟩) n c,.int .i64 n,.slice (some ⟨l,0,none⟩) 1 1] w fun e w' =>
  e=.returned (.slice (some ⟨b,0,none⟩) (n+1) c)/\w'=w.setCells b n [x]:=by
 have f:Src prog 1 55 (.slice (some ⟨l,0,none⟩) 1 1) 1 [x] w:=Src.ofSlice w gT ⟨l,0,none⟩ 1 1 [x] rfl (fun j u s=>by rw [Addr.add_lit,Nat.zero_add];exact eD (n:=1) q rfl s) (by simpa using k)
 have m:∀ j,j<1->(w.cell? ⟨b,0+n+j,none⟩).isSome=true:=fun j h=>by
  rw [cell_of_row w b _ a _ (0,0) p,Array.getElem?_eq_getElem (by omega)];rfl
 have o:∀ j,j<1->w.frozen? ⟨b,0+n+j,none⟩=false:=fun j _=>frozen_of_row w b _ a _ p
 clear p g q k;go_enter func152,ntmps152
 go_wp2_with (at_builtin;refine wpList_append_room1 _ rfl _ _ 55 55 rfl 9 _ _ gT qY b 0 n c rfl _ rfl 1 [x] f d m o ?_)
 go_ret;exact ⟨rfl,rfl⟩
theorem EG (base:Tp) (n c l:Nat) (k:List Value) (x:Value) (w:World) (D:n<=c) (b:c<n+1) (p:(n+1)*16<=140737488355328)
 (A:k.length=n) (h:base=none->n=0) (o:∀ a,base=some a->∀ j v,k[j]? = some v->w.cell? (a.add j)=some v) (C:w.heap[l]? = some (.cells #[x] 9 (0,0))) (q:x.oneCell'=true) :
 Calls prog 152 #[.slice base n c,.int .i64 n,.slice (some ⟨l,0,none⟩) 1 1] w fun e w' =>
  e=.returned (.slice (some ⟨w.heap.size,0,none⟩) (n+1) (grownCap w (n+1) c 9)) /\
  w'=w.drew.alloc (.cells ((k++[x]).toArray++Builtin.zeroCells (Value.string ⟨#[]⟩).cells (grownCap w (n+1) c 9-(n+1))) 9):=by
 obtain ⟨r,z,t,m,s⟩:=info_parts qY
 have d:Src prog r.size 55 (.slice (some ⟨l,0,none⟩) 1 1) 1 [x] w:=by
  rw [m];exact Src.ofSlice w gT ⟨l,0,none⟩ 1 1 [x] rfl (fun j u y=>by rw [Addr.add_lit,Nat.zero_add];exact eD (n:=1) C rfl y) (by simpa using q)
 have g:(Builtin.firstCells r.size n (.slice base n c)).run prog w.drew=.ok k.toArray w.drew:=by
  rw [m];cases base with
  | none =>
    have B:=h rfl;subst B;rw [Tg.1 A];exact run_firstCells_none w.drew 1 0 0 c
  | some a=>exact run_firstCells_some w.drew 1 n a n c k (by omega) (fun j v y=>o a rfl j v y)
 have f:∀ ty,(Builtin.append_ #[55,55] ty #[.slice base n c,.slice (some ⟨l,0,none⟩) 1 1]).run prog w=_:=fun ty =>
  run_append_grow_src w 55 55 ty 9 r _ gT z t base n c k g _ 1 [x] d b (by omega) (by rw [s];exact growslice_fits b p)
 clear C q o g d;go_enter func152,ntmps152
 cases base with
 | none =>
   have B:=h rfl;subst B;go_wp2_with (at_builtin;refine Lib.wpList_append_run _ rfl _ _ _ _ rfl _ _ rfl rfl _ _ (f _) ?_)
   go_ret;exact ⟨rfl,rfl⟩
 | some a =>
   obtain ⟨ab,G,E⟩:=a;go_wp2_with (at_builtin;refine Lib.wpList_append_run _ rfl _ _ _ _ rfl _ _ rfl rfl _ _ (f _) ?_)
   all_goals (go_ret;exact ⟨rfl,rfl⟩)
theorem JI (b n c i m:Nat) (U:Array Value) (a:List Value) (x:Value) (w:World) (hi:i<n) (jr:n<=c) (r:c<n+1) (O:(n+1)*16<=140737488355328)
 (hb:w.heap[b]? = some (.cells U 9 (0,0))) (jd:a.length=n) (V:U.toList.take n=a) (H:w.heap[m]? = some (.cells #[x] 9 (0,0))) (T:∀ v∈a,v.oneCell'=true) (S:x.oneCell'=true) :
 Calls prog 152 #[.slice (some ⟨b,0,none⟩) n c,.int .i64 i,.slice (some ⟨m,0,none⟩) 1 1] w fun e w' =>
  e=.returned (.slice (some ⟨w.heap.size,0,none⟩) (n+1) (grownCap w (n+1) c 9)) /\
  w'=(((w.alloc (.cells ((a.take i).toArray++Builtin.zeroCells (Value.string ⟨#[]⟩).cells (n+1-i)++Builtin.zeroCells (Value.string ⟨#[]⟩).cells (grownCap w (n+1) c 9-(n+1))) 9)).drew.setCells w.heap.size i [x]).drew).setCells w.heap.size (i+1) (a.drop i):=by
 have u:∀ j v,a[j]? = some v->w.cell? ⟨b,j,none⟩=some v:=fun j v h=>eD hb V h
 have E:∀ j v,[x][j]? = some v->w.cell? ⟨m,j,none⟩=some v:=fun j v h=>eD (n:=1) H rfl h
 obtain ⟨i0,M,ja,C,D⟩:=info_parts qY;have jo:¬ ((i:Int)=(n:Int)):=by omega
 have jn:(c:Int)<(n:Int)+1:=by omega
 have I:(prog.info? 9).map (·.size)=some 1:=by rw [M];simp [C]
 have je:b<w.heap.size:=lt_of_block hb;have jb:m<w.heap.size:=lt_of_block H;have L:(n:Int)+1-(i:Int)=((n+1-i:Nat):Int):=by omega
 have s:i+(n+1-i)=n+1:=by omega
 have p:(Builtin.firstCells i0.size i (.slice (some ⟨b,0,none⟩) i c)).run prog w.drew=.ok (a.take i).toArray w.drew:=by
  rw [C]
  exact run_firstCells_some w.drew 1 i ⟨b,0,none⟩ i c (a.take i) (by rw [Th];omega) (fun j v d=>by
   rw [Addr.add_lit,Nat.zero_add];rw [List.getElem?_take] at d;split at d
   · exact u j v d
   · cases d)
 have o:∀ ty,(Builtin.append_ #[55,3] ty #[.slice (some ⟨b,0,none⟩) i c,.int .i64 ((n:Int)+1-(i:Int))]).run prog w =
  .ok (.slice (some ⟨w.heap.size,0,none⟩) (n+1) (grownCap w (n+1) c 9)) (w.drew.alloc (.cells ((a.take i).toArray++Builtin.zeroCells (Value.string ⟨#[]⟩).cells (n+1-i)++Builtin.zeroCells (Value.string ⟨#[]⟩).cells (grownCap w (n+1) c 9-(n+1))) 9)):=fun ty=>by
  have h:=Lib.run_append_grow_zeros w 55 3 ty 9 i0 _ .i64 .i64 gT MJ M ja (some ⟨b,0,none⟩) i c (a.take i) p (n+1-i) (by omega) (by omega) (by omega) (by omega) (by rw [D];omega) (by rw [D,s];exact growslice_fits r O);rw [s] at h;rw [L];exact h
 obtain ⟨G,Y⟩:∃ G,G=grownCap w (n+1) c 9:=⟨_,rfl⟩;obtain ⟨ROW,k⟩:∃ ROW:Array Value,ROW=(a.take i).toArray++Builtin.zeroCells (Value.string ⟨#[]⟩).cells (n+1-i)++Builtin.zeroCells (Value.string ⟨#[]⟩).cells (G-(n+1)):=⟨_,rfl⟩;rw [<- Y] at o |-
 rw [<- k] at o |-
 have jg:n+1<=ROW.size:=by
  rw [k];simp [Builtin.zeroCells,Value.cells];omega
 obtain ⟨l,f⟩:∃ l,l=w.drew.alloc (.cells ROW 9):=⟨_,rfl⟩;rw [<- f] at o
 have X:∀ j,j<n+1->(l.cell? ⟨w.heap.size,j,none⟩).isSome=true:=fun j d=>by
  rw [f,World.cell?_alloc_at (w:=w.drew) ROW _ w.heap.size j rfl,Array.getElem?_eq_getElem (by omega)];rfl
 have A:∀ j,l.frozen? ⟨w.heap.size,j,none⟩=false:=fun j=>by rw [f];exact World.frozen?_alloc_at (w:=w.drew) ROW _ w.heap.size j rfl
 have R:∀ j v,w.cell? ⟨b,j,none⟩=some v->l.cell? ⟨b,j,none⟩=some v:=fun j v h=>by rw [f,World.cell?_alloc_past (w:=w.drew) _ b j je];exact h
 have P:∀ j v,w.cell? ⟨m,j,none⟩=some v->l.cell? ⟨m,j,none⟩=some v:=fun j v h=>by rw [f,World.cell?_alloc_past (w:=w.drew) _ m j jb];exact h
 have N:∀ (W:World),(∀ x,W.cell? x=l.cell? x)->(∀ x,W.frozen? x=l.frozen? x)->∀ ty B,(Builtin.copy_ #[55,55] ty #[.slice (some ⟨w.heap.size,i,none⟩) (n+1-i) B,.slice (some ⟨m,0,none⟩) 1 1]).run prog W=.ok (goInt [x].length) (W.setCells w.heap.size i [x]):=fun W g z ty B =>
  run_copy_cells W _ _ ty 9 w.heap.size i (n+1-i) B ⟨m,0,none⟩ 1 1 [x] gT I (by simp only [List.length_singleton,Nat.min_def];split <;> omega)
   (fun j v d=>by rw [Addr.add_lit,Nat.zero_add,g];exact P _ v (E j v d))
   (fun j d=>by rw [g];exact X _ (by simp at d;omega)) (fun j d=>by rw [z];exact A _) (by simpa using S)
 have jx:n+1<=G:=by rw [Y];exact grownCap_ge w _ _ _
 have jm:G<=9223372036854775807:=by
  have:=grownCap_le_maxLen w (n+1) c 9 (by unfold maxLen;omega);rw [<- Y] at this;unfold maxLen at this;omega
 have jy:¬ (G=i):=by omega
 have jl:¬ (G=i+1):=by omega
 have jt:¬ (c=i):=by omega
 have jf:b ≠ w.heap.size:=by omega
 have jc:(a.drop i).length=n-i:=by rw [List.length_drop,jd]
 have q:∀ (W:World),(∀ y,W.cell? y=(l.setCells w.heap.size i [x]).cell? y)->(∀ y,W.frozen? y=(l.setCells w.heap.size i [x]).frozen? y)->∀ ty B Z,(Builtin.copy_ #[55,55] ty #[.slice (some ⟨w.heap.size,i+1,none⟩) (n-i) B,.slice (some ⟨b,i,none⟩) (n-i) Z]).run prog W=.ok (goInt (a.drop i).length) (W.setCells w.heap.size (i+1) (a.drop i)):=fun W g z ty B Z =>
  run_copy_cells W _ _ ty 9 w.heap.size (i+1) (n-i) B ⟨b,i,none⟩ (n-i) Z (a.drop i) gT I (by rw [jc];simp only [Nat.min_def];split <;> omega)
   (fun j v d=>by
    rw [Addr.add_lit,g,World.cell?_setCells_out _ _ _ _ _ (fun h _=>absurd h jf)];exact R _ v (u (i+j) v (by rwa [List.getElem?_drop] at d)))
   (fun j d=>by rw [g];exact isSome_setCells _ [x] i l (fun t V=>X _ (by simp at V;omega)) _ (X _ (by omega)))
   (fun j d=>by rw [z,World.frozen?_setCells];exact A _) (fun v H=>T v (List.mem_of_mem_drop H))
 subst f;have jk:∀ x,((w.alloc (.cells ROW 9)).drew).cell? x=(w.drew.alloc (.cells ROW 9)).cell? x:=fun x=>rfl
 have jj:∀ x,((w.alloc (.cells ROW 9)).drew).frozen? x=(w.drew.alloc (.cells ROW 9)).frozen? x:=fun x=>rfl
 have ji:∀ y,(((w.alloc (.cells ROW 9)).drew.setCells w.heap.size i [x]).drew).cell? y=((w.drew.alloc (.cells ROW 9)).setCells w.heap.size i [x]).cell? y:=fun y=>rfl
 have jh:∀ y,(((w.alloc (.cells ROW 9)).drew.setCells w.heap.size i [x]).drew).frozen? y=((w.drew.alloc (.cells ROW 9)).setCells w.heap.size i [x]).frozen? y:=fun y=>rfl
 have jp:IntKind.i64.wrap ((i:Int)+1)=(i:Int)+1:=by rw [IntKind.wrap_i64];omega
 have jw:(0:Int)<=(i:Int)+1:=by omega
 have js:i<=n:=by omega
 have jq:((i:Int)+1).toNat=i+1:=by omega
 have jv:(i:Int)<=(n:Int):=by omega
 have ju:(i:Int)<=(n:Int)+1:=by omega
 clear L s p k Y jg hb V H T S u E X A R P;go_enter func152,ntmps152
 go_wp2_with (first
  | (at_builtin;refine Lib.wpList_append_run _ rfl _ _ _ _ rfl _ _ rfl rfl _ _ (o _) ?_)
  | (at_builtin;refine wpList_copy_runI _ rfl _ _ 55 55 rfl _ _ rfl rfl (N _ jk jj _ _) ?_)
  | (at_builtin;refine wpList_copy_runI _ rfl _ _ 55 55 rfl _ _ rfl rfl (q _ (fun _=>rfl) (fun _=>rfl) _ _ _) ?_))
 go_region_law (refine step_copy_runI rfl _ _ 55 55 rfl (.slice (some ⟨w.heap.size,i+1,none⟩) (n-i) (G-(i+1))) (.slice (some ⟨b,i,none⟩) (n-i) (c-i)) (by simp [Act.eval,Act.put]) (by simp [Act.eval,Act.put]) (q _ ji jh 3 (G-(i+1)) (c-i)) ?_)
 go_wp2
 go_ret;exact ⟨rfl,rfl⟩
theorem SX (v:Value) (n i d:Nat) (xs:List Value) (x:Value) (w:World) (hn:n<=1000000) (E:i<=n) (ho:w.ownsRow 0 9 1 v n xs) (o:w.heap[d]? = some (.cells #[x] 9 (0,0))) (B:v.ownBlock ≠ some d)
 (z:∀ u∈xs,u.oneCell'=true) (c:x.oneCell'=true) :
 Calls prog 152 #[v,.int .i64 i,.slice (some ⟨d,0,none⟩) 1 1] w fun e w'=>rJ w w' 9 v (xs.take i++x::xs.drop i) e:=by
 rcases nU ho with ⟨rfl,rfl,rfl⟩ | ⟨g,b,l,rfl,A,m,r,C,hs,p,hx,_⟩
 · obtain rfl:i=0:=by omega
   refine (EG none 0 0 d [] x w (Td _) (by omega) (by omega) rfl (fun _=>rfl) (fun a h=>by cases h) o c).mono fun e w' ⟨f,hw⟩=>?_
   subst hw;exact wB (xs:=[]) rfl (grownCap_ge w (0+1) 0 9) (grownCap_le_maxLen w (0+1) 0 9 (by unfold maxLen;omega)) (by simp [Builtin.zeroCells,Value.cells]) e f
 · have q:d ≠ g:=fun h=>B (by rw [A,h])
   have s:b<=9223372036854775807:=by unfold maxLen at C;omega
   by_cases hr:n+1<=b
   · by_cases k:i=n
     · subst k
       refine (JH g i b d l x w hr s m hs o c).mono fun e w' ⟨f,hw⟩=>?_
       subst hw;exact CV m hs p hx hr C e f
     · refine (Gr g n b i d l xs x w (by omega) hr s q m hs hx p o z c).mono fun e w' ⟨f,hw⟩=>?_
       subst hw;exact Az m hs p hx (by omega) hr C e f
   · have y:=grownCap_ge w (n+1) b 9
     have t:=grownCap_le_maxLen w (n+1) b 9 (by unfold maxLen;omega);by_cases k:i=n
     · subst k
       refine (EG (some ⟨g,0,none⟩) i b d xs x w r (by omega) (by omega) hx (fun h=>by cases h) (fun a ha j u D=>by cases ha;rw [Addr.add_lit,Nat.zero_add];exact eD m p D) o c).mono fun e w' ⟨f,hw⟩=>?_
       subst hw;exact wB hx y t (by simp [Builtin.zeroCells,Value.cells]) e f
     · refine (JI g n b i d l xs x w (by omega) r (by omega) (by omega) m hx p o z c).mono fun e w' ⟨f,hw⟩=>?_
       subst hw;exact CY hx (by omega) y t (by simp [Builtin.zeroCells,Value.cells]) (by simp [Builtin.zeroCells,Value.cells]) e f
end
def t6 (w w':World) (p:Nat) (F:Nat->Prop) (ks:List ByteArray) (vs:List VC):Prop :=
 Dk 4 w w' 236 9 60 p F (ks.map Value.string) (dL vs)
theorem QZ (ks:List ByteArray):∀ u∈ks.map Value.string,u.oneCell'=true:=by
 intro u a;obtain ⟨_,_,rfl⟩:=List.mem_map.1 a;rfl
theorem JZ (a:List VC) (v:VC) (I:Nat):dL (a.take I++v::a.drop I)=(dL a).take (I*4)++v.cs++(dL a).drop (I*4):=by
 rw [oD,dL,zK,zL,List.append_assoc]
/-- Put of a key that is new. -/
theorem Lr (w:World) (p:Nat) (F:Nat->Prop) (ks:List ByteArray) (j:List VC) (x:Tr) (v:VC) (hn:ks.length<=1000000) (hr:dI lsS ks) (hx:x ∉ ks) (h:MSV w p F ks j) :
 Calls prog 95 #[.pointer (some ⟨p,0,none⟩),.string x,.agg #[.int .i64 v.k,.int .i64 v.n,.string v.s,.slice v.y v.len v.c]] w fun e w'=>e=.returned (.bool true) /\
  t6 w w' p F (ks.take (pos lsS ks x)++x::ks.drop (pos lsS ks x)) (j.take (pos lsS ks x)++v::j.drop (pos lsS ks x)):=by
 obtain ⟨o,ho⟩:∃ o,Obj.cells #[.int .i64 v.k,.int .i64 v.n,.string v.s,.slice v.y v.len v.c] 60=o:=⟨_,rfl⟩;have A:aC (fun _=>False) w (w.alloc o):=(aC.refl _ w).alloc o;obtain ⟨jk,jj,D,hL⟩:=Mf (h.kept A (fun _ _ h=>h)) hn hr x;have L:=h.len;have hp:=uH (less:=lsS) ks x;obtain ⟨I,hI⟩:∃ I,pos lsS ks x=I:=⟨_,rfl⟩;have HL:=aA (hL I false hI (zD hx));rw [hI] at hp |-
 obtain ⟨ka,kc,va,vc,H⟩:=gP.fields h;have c0:=iP H.row;have c1:=kD H.row;have jl:=H.plt;simp only [List.length_map] at c0 c1 H;rw [A.cell c0 (fun h=>h)] at D;simp only [Option.some.injEq,Value.slice.injEq] at D;obtain ⟨rfl,_,rfl⟩:=D;have HP:=aA hp;have jr:=aA L;clear hI hL hr hx hp h L A;subst ho;generalize ks.length=n at *;have E:=aA H;clear H;go_enter func95,ntmps95
 go_wp2_with (go_at_call 151;refine HL.out.mono ?_;rintro e w' ⟨rfl,q,rfl⟩)
 obtain ⟨W,Y⟩:∃ W,w.alloc (.cells #[.int .i64 v.k,.int .i64 v.n,.string v.s,.slice v.y v.len v.c] 60)=W:=⟨_,rfl⟩;have R:aC (fun _=>False) w W:=by rw [<- Y];exact (aC.refl _ w).alloc _
 have T:W.heap[w.heap.size]? = some (.cells #[.int .i64 v.k,.int .i64 v.n,.string v.s,.slice v.y v.len v.c] 60 (0,0)):=by rw [<- Y];exact heap_alloc_new w _
 have O:W.heap.size=w.heap.size+1:=by rw [<- Y];simp
 rw [Y];have KW:=aA (And.intro R T);clear Y R T c0 c1;go_at_call 152
 have k0:aC (fun _=>False) w ((W.drewN q).alloc (.cells #[.string x] 9)):=(KW.out.1.drewN q).alloc _;have F0:=E.out.kept k0 (fun _ _ h=>h)
 have N:((W.drewN q).alloc (.cells #[.string x] 9)).heap[w.heap.size+1]? = some (.cells #[.string x] 9 (0,0)):=by
  have:=heap_alloc_new (W.drewN q) (.cells #[.string x] 9);rwa [show (W.drewN q).heap.size=w.heap.size+1 from O] at this
 refine (SX _ n I (w.heap.size+1) (ks.map Value.string) (.string x) _ hn HP.out F0.k N (fun e=>by have:=E.out.lt _ (E.out.fk _ e);omega) (QZ ks) rfl).mono ?_;clear N;obtain ⟨X1,C⟩:∃ X1,X1=(ks.map Value.string).take I++Value.string x::(ks.map Value.string).drop I:=⟨_,rfl⟩;obtain ⟨Y1,X⟩:∃ Y1,Y1=(dL j).take (I*4)++v.cs++(dL j).drop (I*4):=⟨_,rfl⟩;have jc:=aA C;have jb:=aA X
 have P:X1.length=n+1:=by
  have h1:=Ej E.out.k;have:=HP.out;rw [C];simp only [Tb,Th,Te,List.length_drop,h1];omega
 have jf:=aA P;clear C X P;rintro e g Z;rw [<- jc.out] at Z;obtain ⟨ji,rfl,ho,m,V⟩:=Z;rw [jf.out] at ho;obtain ⟨a1,a2, -⟩:=F0.store0 m ho V;obtain ⟨e0,e1,e2,e3,e4⟩:=F0.during m F0.dk;obtain ⟨t,r,rfl⟩:=nT ho
 have f:g.heap[w.heap.size]? = some (.cells #[.int .i64 v.k,.int .i64 v.n,.string v.s,.slice v.y v.len v.c] 60 (0,0)):=by
  rw [m.block w.heap.size (by simp;omega) (fun e=>by have:=E.out.lt _ (E.out.fk _ e.symm);omega)];exact (Below.heap_alloc _ _ _ (by show _<W.heap.size;omega)).trans KW.out.2
 have jd:=m.size;rw [Tc,show (W.drewN q).heap.size=w.heap.size+1 from O] at jd;have je:p ≠ w.heap.size:=by omega
 have S:=(heap_setCell_other g ⟨p,0,none⟩ w.heap.size (.slice t (n+1) r) (fun e=>je e.symm)).trans f;have HA:=aA (And.intro ho (And.intro m V));have A1:=aA a1;obtain ⟨⟨b0,b1,b2,b3⟩, -⟩:=aL f
 have M:∀ u∈(#[.int .i64 v.k,.int .i64 v.n,.string v.s,.slice v.y v.len v.c]:Array Value).toList,u.oneCell'=true:=by
  intro u hu;simp only [List.mem_cons,List.not_mem_nil,or_false] at hu;rcases hu with rfl | rfl | rfl | rfl <;> rfl
 have ja:=aA (p:=∀ (W':World) (o:Obj),W'.heap.size=g.heap.size->(W'.alloc o).drew.heap[g.heap.size]? = some o) (fun W' o h=>by rw [<- h];exact heap_alloc_new W' _);have d:=A1.out.lt;rw [World.size_setCell] at d
 have CI:=aA (p:=∀ l,aC (fun _=>False) (g.setCell ⟨p,0,none⟩ (.slice t (n+1) r)) l->l.heap[g.heap.size]? = some (.cells #[.int .i64 v.k,.int .i64 v.n,.string v.s,.slice v.y v.len v.c] 60 (0,0)) ->
  Calls prog 153 #[.slice va n vc,.int .i64 I,.slice (some ⟨g.heap.size,0,none⟩) 1 1] l fun e w3=>∃ a,e=.returned a/\w3.ownsRow 0 60 4 a (n+1) Y1/\l.grownBy w3 (Tj va n vc).ownBlock/\(a.ownBlock=(Tj va n vc).ownBlock\/∃ b,a.ownBlock=some b/\l.heap.size<=b)/\aC (fun _=>False) (g.setCell ⟨p,0,none⟩ (.slice t (n+1) r)) l) (fun l G h2 =>
  (SW _ n I g.heap.size (dL j) #[.int .i64 v.k,.int .i64 v.n,.string v.s,.slice v.y v.len v.c] l hn HP.out (A1.out.kept G (fun _ _ h=>h)).v rfl h2 (fun e=>Nat.lt_irrefl _ (d _ (A1.out.fv _ e))) (JY j) M).mono fun e w3 ⟨a,he,ho,m,V⟩=>⟨a,he,by rw [jb.out];exact ho,m,V,G⟩)
 clear ho m V a1 a2 F0 k0 f S d M;go_wp2_with fail
 go_region_with (first
  | (go_at_call 153
     refine (CI.out _ (by with_reducible (repeat (first | exact aC.refl _ _ | refine aC.drew ?_ | refine aC.drewN ?_ _ | refine aC.alloc ?_ _))) (ja.out _ _ (World.size_setCell _ _ _))).mono ?_;rintro e w3 ⟨a,rfl,z,B,U,G⟩;obtain ⟨jh,jg,rfl⟩:=vR z;have F1:=A1.out.kept G (fun _ _ h=>h);obtain ⟨jq,jp,jo,jn,jm⟩:=F1.during B F1.dv;have HB:=aA (And.intro z (And.intro B (And.intro U G)));clear z B U G F1)
  | fail)
 all_goals
  go_wp2
  go_ret;refine ⟨rfl,?_⟩;show Dk _ _ _ _ _ _ _ _ _ _;have e5:(ks.take I++x::ks.drop I).map Value.string=X1:=by rw [jc.out];simp [List.map_take,List.map_drop]
  have e6:dL (j.take I++v::j.drop I)=Y1:=by rw [jb.out,JZ]
  rw [e5,e6];exact E.out.both ((KW.out.1.drewN q).alloc _) HA.out.2.1 HA.out.1 HA.out.2.2 HB.out.2.2.2 HB.out.2.1 HB.out.1 HB.out.2.2.1
theorem JX (b:List VC) (v:VC) (I:Nat) (d:I<b.length):dL (b.set I v)=((((dL b).set (I*4) (.int .i64 v.k)).set (I*4+1) (.int .i64 v.n)).set (I*4+2) (.string v.s)).set (I*4+3) (.slice v.y v.len v.c):=by
 induction b generalizing I with
 | nil=>simp at d
 | cons a r ih =>
   cases I with
   | zero=>rfl
   | succ I =>
     rw [Ta,dL,dL,ih I (by simpa using d)];rw [show (I+1)*4=I*4+1+1+1+1 by omega,show I*4+1+1+1+1+1=(I*4+1)+1+1+1+1 by omega,show I*4+1+1+1+1+2=(I*4+2)+1+1+1+1 by omega,show I*4+1+1+1+1+3=(I*4+3)+1+1+1+1 by omega];rfl
theorem nV {w:World} {e:TypeId} {m g n c:Nat} {xs:List Value} (h:w.ownsRow 0 e m (.slice (some ⟨g,0,none⟩) n c) n xs) (i:Nat) (u:Value) :
 (w.setCell ⟨g,i,none⟩ u).ownsRow 0 e m (.slice (some ⟨g,0,none⟩) n c) n (xs.set i u):=by
 rcases lP h with ⟨h,_⟩ | ⟨o,l,b,d,_,k,a,j,hs,f,hx⟩
 · cases h
 · simp only [Value.slice.injEq,Option.some.injEq,Addr.mk.injEq] at d
   obtain ⟨⟨rfl,_⟩,_,rfl⟩:=d;refine mQ (heap_setCell_same w g i b e u k) a j (by simpa using hs) ?_;rw [Array.toList_setIfInBounds,List.take_set,f]
/-- Put of a key that is there. -/
theorem Lq (w:World) (p:Nat) (F:Nat->Prop) (ks:List ByteArray) (t:List VC) (x:Tr) (v:VC) (hn:ks.length<=1000000) (hr:dI lsS ks) (hx:x∈ks) (h:MSV w p F ks t) :
 Calls prog 95 #[.pointer (some ⟨p,0,none⟩),.string x,.agg #[.int .i64 v.k,.int .i64 v.n,.string v.s,.slice v.y v.len v.c]] w fun e w'=>e=.returned (.bool false)/\t6 w w' p F ks (t.set (pos lsS ks x) v):=by
 obtain ⟨o,ho⟩:∃ o,Obj.cells #[.int .i64 v.k,.int .i64 v.n,.string v.s,.slice v.y v.len v.c] 60=o:=⟨_,rfl⟩;have N:aC (fun _=>False) w (w.alloc o):=(aC.refl _ w).alloc o;obtain ⟨ka,kc,c0,X⟩:=Mf (h.kept N (fun _ _ h=>h)) hn hr x;have D:=h.len;have A:=(List.getElem?_eq_some_iff.1 ((fF fT hr).1 hx)).1;obtain ⟨I,P⟩:∃ I,pos lsS ks x=I:=⟨_,rfl⟩;have HL:=aA (X I true P ((iN ks x).2 hx));rw [P] at A |-
 have z:I<t.length:=by omega
 have L:=h.lt;obtain ⟨V,vv,B,Y,R,d0,U,T,f0,f1,S,Z⟩:=h;obtain ⟨g,c,d,rfl,m,hs,G,hm,ht,C⟩:=vS R (by simp;omega);have c1:=kD B;simp only [List.length_map] at c1;have f:p ≠ g:=fun e=>U (by rw [e];rfl)
 have E:=lt_of_block B;have O:=lt_of_block m;have H:(ks.map Value.string).length=ks.length:=List.length_map _
 have b:∀ r,r<4->∃ u,w.cell? ⟨g,I*4+r,none⟩=some u:=fun r hr=>by
  rw [cell_of_row w g _ d _ (0,0) m,Array.getElem?_eq_getElem (by omega)];exact ⟨_,rfl⟩
 obtain ⟨u0,q0⟩:=b 0 (by omega);obtain ⟨u1,q1⟩:=b 1 (by omega);obtain ⟨u2,q2⟩:=b 2 (by omega);obtain ⟨u3,q3⟩:=b 3 (by omega);rw [Nat.add_zero] at q0;have z0:=frozen_of_row w g (I*4) d _ m;have z1:=frozen_of_row w g (I*4+1) d _ m;have z2:=frozen_of_row w g (I*4+2) d _ m;have z3:=frozen_of_row w g (I*4+3) d _ m;have ja:(I:Int)<(ks.length:Int):=by omega
 have jb:(0:Int)<=(I:Int):=by omega
 have HX:=aA (p:=∀ W,aC (fun _=>False) w W->t6 w ((((W.setCell ⟨g,I*4,none⟩ (.int .i64 v.k)).setCell ⟨g,I*4+1,none⟩ (.int .i64 v.n)).setCell ⟨g,I*4+2,none⟩ (.string v.s)).setCell ⟨g,I*4+3,none⟩ (.slice v.y v.len v.c)) p F ks (t.set I v)) (fun W k=>by
  have k':aC F w W:=k.mono (fun _ h _=>h.elim);have l:F g:=S g rfl
  have hK:aC F w ((((W.setCell ⟨g,I*4,none⟩ (.int .i64 v.k)).setCell ⟨g,I*4+1,none⟩ (.int .i64 v.n)).setCell ⟨g,I*4+2,none⟩ (.string v.s)).setCell ⟨g,I*4+3,none⟩ (.slice v.y v.len v.c)) :=
   (((k'.setCell (p:=⟨g,I*4,none⟩) (.inl l) _).setCell (p:=⟨g,I*4+1,none⟩) (.inl l) _).setCell (p:=⟨g,I*4+2,none⟩) (.inl l) _).setCell (p:=⟨g,I*4+3,none⟩) (.inl l) _
  have j:V.ownBlock ≠ some g:=fun e=>T _ e rfl
  refine ⟨F,⟨V,_,?_,?_,?_,d0,U,T,f0,f1,S,fun k A=>Nat.lt_of_lt_of_le (Z k A) hK.size⟩,Fp.refl _ _,hK⟩
  · rw [heap_setCell_other _ _ _ _ (by exact f),heap_setCell_other _ _ _ _ (by exact f),heap_setCell_other _ _ _ _ (by exact f),heap_setCell_other _ _ _ _ (by exact f)]
    exact k.heap B (fun h=>h)
  · exact ownsRow_setCell_other (a:=⟨g,I*4+3,none⟩) (ownsRow_setCell_other (a:=⟨g,I*4+2,none⟩) (ownsRow_setCell_other (a:=⟨g,I*4+1,none⟩) (ownsRow_setCell_other (a:=⟨g,I*4,none⟩) (k.owns Y (fun _ _ h=>h)) j _) j _) j _) j _
  · rw [JX t v I z]
    exact nV (nV (nV (nV (k.owns R (fun _ _ h=>h)) _ _) _ _) _ _) _ _)
 have M:p<w.heap.size/\g<w.heap.size:=⟨E,O⟩;clear B Y R P m hs G hm ht X A C d0 U T f0 f1 S Z hr hx b z D L M H;generalize ks.length=n at *;subst ho;go_enter func95,ntmps95
 go_wp2_with (go_at_call 151;refine HL.out.mono ?_;rintro e w' ⟨rfl,q,rfl⟩)
 go_region_with (fail)
 all_goals
  go_wp2
  go_ret;exact ⟨rfl,HX.out _ (by with_reducible (repeat (first | exact aC.refl _ _ | refine aC.drew ?_ | refine aC.drewN ?_ _ | refine aC.alloc ?_ _)))⟩
theorem Sd (w:World) (p:Nat) (F:Nat->Prop) (ks:List ByteArray) (a:List VC) (x:Tr) (v:VC) (hn:ks.length<=1000000) (hr:dI lsS ks) (h:MSV w p F ks a) :
 Calls prog 95 #[.pointer (some ⟨p,0,none⟩),.string x,.agg #[.int .i64 v.k,.int .i64 v.n,.string v.s,.slice v.y v.len v.c]] w fun e w'=>e=.returned (.bool (!has ks x))/\t6 w w' p F (oP lsS ks x) (OP lsS ks a x v):=by
 unfold oP OP;by_cases hx:x∈ks
 · have b:=(iN ks x).2 hx
   rw [b];exact Lq w p F ks a x v hn hr hx h
 · have b:=zD hx
   rw [b];exact Lr w p F ks a x v hn hr hx h
theorem tV {w:World} {b:Nat} {x:AD} {y:Tp} {c:Nat} {t:TypeId} (h:w.heap[b]? = some (.cells #[.string x.m,.int .i64 x.k,.int .i64 x.n,.string x.s,.slice y x.len c] t (0,0))):lM w b 0 x y c:=by
 refine ⟨?_,?_,?_,?_,?_⟩ <;> simp [World.cell?,h]
def nmE (E:List (AD×VC)):List ByteArray:=E.map (fun e=>e.1.m)
def AF (w:World) (p:Nat) (F:Nat->Prop) (E:List (AD×VC)):Prop :=
 dI lsS (nmE E)/\MSV w p F (nmE E) (E.map (·.2))/\∀ e∈E,RO w F e
theorem AF.kept {w w':World} {p:Nat} {F:Nat->Prop} {E:List (AD×VC)} (h:AF w p F E) (a:aC (fun _=>False) w w'):AF w' p F E :=
 ⟨h.1,h.2.1.kept a (fun _ _ h=>h),fun e b=>(h.2.2 e b).kept a (fun _ h _=>h.elim) (fun _ h _=>h)⟩
def putE (E:List (AD×VC)) (e:AD×VC):List (AD×VC):=if has (nmE E) e.1.m=true then E.set (pos lsS (nmE E) e.1.m) e else E.take (pos lsS (nmE E) e.1.m)++e::E.drop (pos lsS (nmE E) e.1.m)
theorem Ht {E:List (AD×VC)} (hr:dI lsS (nmE E)) (e:AD×VC):nmE (putE E e)=oP lsS (nmE E) e.1.m:=by
 unfold putE oP;by_cases h:has (nmE E) e.1.m=true
 · rw [if_pos h,if_pos h]
   have hp:=(fF fT hr).1 ((iN _ _).1 h);unfold nmE at *;rw [List.map_set];apply List.ext_getElem?
   intro j;rw [List.getElem?_set];split
   · rename_i a
     subst a;rw [hp,if_pos (List.getElem?_eq_some_iff.1 hp).1]
   · rfl
 · rw [if_neg h,if_neg h]
   simp [nmE,List.map_take,List.map_drop]
theorem Of (E:List (AD×VC)) (e:AD×VC):(putE E e).map (·.2)=OP lsS (nmE E) (E.map (·.2)) e.1.m e.2:=by
 unfold putE OP;by_cases h:has (nmE E) e.1.m=true
 · rw [if_pos h,if_pos h,List.map_set]
 · rw [if_neg h,if_neg h];simp [List.map_take,List.map_drop]
theorem Ma {E:List (AD×VC)} {e x:AD×VC} (h:x∈putE E e):x∈E\/x=e:=by
 unfold putE at h;split at h
 · exact List.mem_or_eq_of_mem_set h
 · rcases List.mem_append.1 h with h | h
   · exact .inl (List.mem_of_mem_take h)
   · rcases List.mem_cons.1 h with h | h
     · exact .inr h
     · exact .inl (List.mem_of_mem_drop h)
theorem Lt (w:World) (p:Nat) (F:Nat->Prop) (E:List (AD×VC)) (e:AD×VC) (hn:E.length<=1000000) (h:AF w p F E) (f:RO w F e) :
 Calls prog 95 #[.pointer (some ⟨p,0,none⟩),.string e.1.m,.agg #[.int .i64 e.2.k,.int .i64 e.2.n,.string e.2.s,.slice e.2.y e.2.len e.2.c]] w fun r w' =>
  r=.returned (.bool (!has (nmE E) e.1.m))/\∃ b,AF w' p b (putE E e)/\Fp w F b/\aC F w w':=by
 refine (Sd w p F (nmE E) (E.map (·.2)) e.1.m e.2 (by simpa [nmE] using hn) h.1 h.2.1).mono fun r w' ⟨hr,b,hm,hg,hk⟩=>⟨hr,b,⟨?_,?_,?_⟩,hg,hk⟩
 · rw [Ht h.1];exact pC fT h.1 _
 · rw [Ht h.1,Of];exact hm
 · intro x hx
   have a:∀ k,b k->k<w.heap.size->F k:=fun k d hl=>(hg k d).elim (fun h=>h) (fun h=>by omega)
   rcases Ma hx with hx | rfl
   · exact (h.2.2 x hx).kept hk (fun _ h _=>h) a
   · exact f.kept hk (fun _ h _=>h) a
theorem Iw (A:Nat->AD) (k:Nat):twsA A (k+1)=twsA A k++[twA (A k)]:=by simp [twsA,List.range_succ]
def Od (w:World) (D:List AD) (e:Ending) (w':World):Prop :=
 (∃ p F E,e=.returned (.pointer (some ⟨p,0,none⟩))/\AF w' p F E/\E.map (·.1)=D/\(∀ k,F k->w.heap.size<=k))/\Below w.heap.size w w'
def ByK (w:World) (p:Nat) (A:Nat->AD) (k:Nat) (wr:World):Prop :=
 ∃ F E,AF wr p F E/\E.map (·.1)=twsA A k/\(∀ k,F k->w.heap.size<=k)/\Below w.heap.size w wr
theorem LY {E:List (AD×VC)} {D:List AD} (h:E.map (·.1)=D):nmE E=D.map (·.m):=by rw [<- h];simp [nmE]
theorem Ls {A:Nat->AD} {n k:Nat} (o:RiseA A n) (g:k<n) {E:List (AD×VC)} (f:E.map (·.1)=twsA A k) (v:VC):has (nmE E) (A k).m=false/\putE E (twA (A k),v)=E++[(twA (A k),v)]:=by
 have c:E.length=k:=by have:=congrArg List.length f;simpa [twsA] using this
 have a:nmE E=(List.range k).map (fun j=>(A j).m):=by rw [LY f];simp [twsA,twA]
 have b:∀ x∈nmE E,lsS x (A k).m=true:=by
  intro x hx;rw [a] at hx;obtain ⟨j,l,rfl⟩:=List.mem_map.1 hx;exact o j k (List.mem_range.1 l) g
 have d:has (nmE E) (A k).m=false:=zD (fun h=>by have:=b _ h;rw [fT.irrefl] at this;cases this)
 have hp:pos lsS (nmE E) (A k).m=k:=by
  refine yB (by rw [a];simp) (fun t x _ hx=>b x (List.mem_of_getElem? hx)) (fun x hx=>?_);rw [a,List.getElem?_eq_none (by simp)] at hx;cases hx
 refine ⟨d,?_⟩;unfold putE;show (if has (nmE E) (A k).m=true then _ else E.take (pos lsS (nmE E) (A k).m)++(twA (A k),v)::E.drop (pos lsS (nmE E) (A k).m))=_;rw [d,if_neg (by simp),hp,List.take_of_length_le (by omega),List.drop_of_length_le (by omega)]
theorem Ed (w:World) (p:Nat) (F:Nat->Prop) (E:List (AD×VC)) (x:AD) (a3:Tp) (c3:Nat) (hn:E.length<=1000000) (h:AF w p F E) (b:RO w F (twA x,⟨x.k,twN x.k x.n,twS x.k x.s,a3,twL x.k x.len,c3⟩)) :
 Calls prog 95 #[.pointer (some ⟨p,0,none⟩),.string x.m,.agg #[.int .i64 x.k,.int .i64 (twN x.k x.n),.string (twS x.k x.s),.slice a3 (twL x.k x.len) c3]] w fun r w' =>
  r=.returned (.bool (!has (nmE E) x.m))/\∃ a,AF w' p a (putE E (twA x,⟨x.k,twN x.k x.n,twS x.k x.s,a3,twL x.k x.len,c3⟩))/\Fp w F a/\aC F w w':=Lt w p F E _ hn h b
theorem dD {w w':World} (h:Below w.heap.size w w'):aC (fun _=>False) w w':=⟨h.os,h.tape,h.output,h.size,fun k a _=>h.block k a⟩
theorem GZ (a:Tp) (n c:Nat) (A:Nat->AD) (hn:n<=1000) (hl:∀ j,j<n->(A j).len<=1000000) (hR:RiseA A n) (w:World) (h:ReadsA w a n A) :
 Calls prog 94 #[.slice a n c] w (Od w (twsA A n)):=by
 have R:=aA h;have HL:=aA hl;have HR:=aA hR;clear h hl hR;go_enter func94,ntmps94
 go_wp2_with fail
 refine (Sm w).mono ?_;rintro e w1 ⟨rfl,hm,V⟩;have K1:Hid (ByK w w.heap.size A 0 w1):=aA ⟨_,[],⟨List.Pairwise.nil,hm,fun _ h=>by cases h⟩,rfl,fun k V=>by subst V;exact Td _,V.below (fun _ h=>h.elim) (Td _)⟩;clear hm V;go_wp2_with fail
 go_loopw [9] (fun i wr=>∃ k:Nat,i=.int .i64 k/\k<=n/\Hid (ByK w w.heap.size A k wr)) (fun i _=>n-(intOf i).toNat)
 case atStart=>exact ⟨0,rfl,Nat.zero_le _,K1⟩
 case round =>
  obtain ⟨k,rfl,V,K2⟩:=hrel;clear K1;by_cases L:k<n
  · obtain ⟨F,E,Z,u,C,B⟩:=K2.out
    obtain ⟨-,hc⟩:=R.out;obtain ⟨b,off,rfl,Y⟩:=hc.resolve_left (by omega);obtain ⟨y,cy,O,H⟩:=Y k L;have h5:=O.kept B;have U:=HL.out k L;have g:=fun v=>Ls HR.out L u v
    have G:=Iw A k;obtain ⟨x,hx⟩:∃ x,A k=x:=⟨_,rfl⟩;rw [hx] at h5 O H U g G;have bA:∀ o,Below wr.heap.size wr (wr.alloc o):=fun o=>bA0 _ _
    have TW:=aA (p:=∀ w',Below w.heap.size w w'->Calls prog 96 #[.agg #[.int .i64 x.k,.int .i64 x.n,.string x.s,.slice y x.len cy]] w' (vF w' x.k x.n x.s x.len x.z)) (fun w' hb=>xI x.k x.n x.s y x.len cy x.z U w' (H.kept hb));have jd:E.length<=1000000:=by have:=congrArg List.length u;simp [twsA] at this;omega
    have hz:=B.size;have HM:=aA (And.intro Z (And.intro u (And.intro C B)));have D:=aA g;have jb:=aA G;obtain ⟨d0,d1,d2,d3,d4⟩:=h5;clear Y H O hx hc Z u C B g G bA;go_wp2_with fail
    generalize hW:World.alloc wr _=W;have M:Below wr.heap.size wr W:=by rw [<- hW];exact bA0 _ _
    have N:W.heap[wr.heap.size]? = some (.cells #[.string x.m,.int .i64 x.k,.int .i64 x.n,.string x.s,.slice y x.len cy] 62 (0,0)):=by rw [<- hW];exact heap_alloc_new wr _
    clear hW d0 d1 d2 d3 d4;obtain ⟨d0,d1,d2,d3,d4⟩:=tV N;have X:Below W.heap.size W W.drew:=⟨rfl,rfl,rfl,Td _,fun _ _=>rfl⟩;have S:=aA (And.intro M (And.intro N X));have d:=M.size;clear M N X
    go_region_with (first
     | (go_at_call 96
        with_reducible refine (TW.out _ (HM.out.2.2.2.trans ((S.out.1.trans (S.out.2.2.mono d)).mono hz))).mono ?_
        rintro e w3 ⟨⟨a3,c3,rfl,I,T⟩,t⟩;have B3:=aA ((S.out.1.trans (S.out.2.2.mono d)).trans (t.mono (by show _<=W.heap.size;exact d)));have R3:=aA (And.intro (T w3 (aC.refl _ _)) I);have jf:=t.size;have jc:=lt_of_block S.out.2.1;clear d0 d1 d2 d3 d4;obtain ⟨d0,d1,d2,d3,d4⟩:=tV ((t.block wr.heap.size (by show _<W.heap.size;exact jc)).trans S.out.2.1);have M3:=aA (HM.out.1.kept (dD B3.out));have ja:Hid (RO w3 F (twA x,⟨x.k,twN x.k x.n,twS x.k x.s,a3,twL x.k x.len,c3⟩)):=aA ⟨rfl,rfl,rfl,rfl,R3.out.1,.inr (fun q hq je=>by have h1:=I q hq;have h2:=HM.out.1.2.1.lt _ je;have h3:W.drew.heap.size=W.heap.size:=rfl;omega)⟩;clear t T I R3)
     | (go_at_call 95
        with_reducible refine (Ed w3 w.heap.size F E x a3 c3 jd M3.out ja.out).mono ?_
        rintro e w4 ⟨rfl,F',f,r,l⟩;have K4:=aA (And.intro f (And.intro r l));clear f r l)
     | fail)
    all_goals
     have K5:Hid (ByK w w.heap.size A (k+1) w4):=aA (by
      obtain ⟨f,r,l⟩:=K4.out;obtain ⟨-,u,C,B⟩:=HM.out;rw [(D.out _).2] at f;refine ⟨F',_,f,by rw [List.map_append,u,jb.out];rfl,fun q hq=>?_,(B.trans (B3.out.mono hz)).trans (l.below C (by have:=B3.out.size;omega))⟩;rcases r q hq with h | h
      · exact C q h
      · have:=B3.out.size;omega)
     clear K4 M3 ja B3 S HM TW D jb d0 d1 d2 d3 d4;go_wp2
     go_roundw
     case rel=>exact ⟨k+1,by go_num,by omega,K5⟩
     case measure=>simp [intOf];omega
  · obtain rfl:k=n:=by omega
    obtain ⟨F,E,Z,u,C,B⟩:=K2.out;have P:=aA (show Od w (twsA A k) (.returned (.pointer (some ⟨w.heap.size,0,none⟩))) wr from ⟨⟨_,F,E,rfl,Z,u,C⟩,B⟩);clear Z u C B;go_wp2_with fail
    go_ret;exact P.out
def dE:AD×VC:=(dA,⟨0,0,⟨#[]⟩,none,0,0⟩)
def Am (w:World) (D:List AD) (e:Ending) (w':World):Prop :=
 (∃ a c,e=.returned (.slice a D.length c)/\ReadsA w' a D.length (atD D))/\Below w.heap.size w w'
def zM (e:AD×VC):List Value:=[.string e.1.m,.int .i64 e.2.k,.int .i64 e.2.n,.string e.2.s,.slice e.2.y e.2.len e.2.c]
def pS (E:List (AD×VC)) (k:Nat):List Value:=pT (fun j=>let e:=E.getD j dE;⟨e.1.m,e.2.k,e.2.n,e.2.s,e.2.len,e.1.z⟩) (fun j=>(E.getD j dE).2.y) (fun j=>(E.getD j dE).2.c) k
theorem Fg {E:List (AD×VC)} {k:Nat} {e:AD×VC} (h:E[k]? = some e):pS E (k+1)=pS E k++zM e:=by
 have:E.getD k dE=e:=by simp [List.getD,h]
 unfold pS;rw [pT,this];rfl
theorem J0 (e:AD×VC):∀ u∈zM e,u.oneCell'=true:=by
 intro u a;simp only [zM,List.mem_cons,List.not_mem_nil,or_false] at a;rcases a with rfl | rfl | rfl | rfl | rfl <;> rfl
theorem Jd (w:World) (e:AD×VC):∀ j u,(zM e)[j]? = some u->(w.alloc (.cells #[.string e.1.m,.int .i64 e.2.k,.int .i64 e.2.n,.string e.2.s,.slice e.2.y e.2.len e.2.c] 62)).cell? ((⟨w.heap.size,0,none⟩:Addr).add j)=some u:=fun j u a=>by
 rw [Addr.add_lit,Nat.zero_add,cell_of_row _ _ _ _ _ (0,0) (heap_alloc_new w _)];simpa [zM] using a
theorem FR {w:World} {a:Tp} {n:Nat} {A d:Nat->AD} (h:ReadsA w a n A) (f:∀ j,j<n->A j=d j):ReadsA w a n d:=by
 refine ⟨h.1,h.2.imp id ?_⟩;rintro ⟨b,off,rfl,g⟩;exact ⟨b,off,rfl,fun j c=>by rw [<- f j c];exact g j c⟩
theorem Pk {w:World} {F:Nat->Prop} {E:List (AD×VC)} {base:Nat} {t:TypeId} {o:Tp} {l vc:Nat} (h:w.ownsRow base t 5 (.slice o l vc) E.length (pS E E.length)) (hr:∀ e∈E,RO w F e) :
 ∃ a c,Ending.returned (.slice o l vc)=.returned (.slice a (E.map (·.1)).length c)/\ReadsA w a (E.map (·.1)).length (atD (E.map (·.1))):=by
 have f:∀ j,j<E.length->(⟨(E.getD j dE).1.m,(E.getD j dE).2.k,(E.getD j dE).2.n,(E.getD j dE).2.s,(E.getD j dE).2.len,(E.getD j dE).1.z⟩:AD)=atD (E.map (·.1)) j:=fun j b=>by
  have d:E.getD j dE∈E:=by simp [List.getD,List.getElem?_eq_getElem b]
  obtain ⟨y,x,u,g,_⟩:=hr _ d;have A:atD (E.map (·.1)) j=(E.getD j dE).1:=by simp [atD,List.getD,List.getElem?_eq_getElem b]
  rw [A,y,x,u,g]
 obtain ⟨a,c,p,q⟩:=FQ h (fun j b=>by
  have d:E.getD j dE∈E:=by simp [List.getD,List.getElem?_eq_getElem b]
  obtain ⟨_,_,_,g,r,_⟩:=hr _ d;show Reads w _ (E.getD j dE).2.len _;rw [g];exact r)
 refine ⟨a,c,by rw [p,List.length_map],?_⟩;rw [List.length_map];exact FR q f
theorem Mk:(prog.info? 62).map (fun i=>(i.zero,i.size,i.bytes))=some (some (.agg #[.string ⟨#[]⟩,.int .i64 0,.int .i64 0,.string ⟨#[]⟩,.slice none 0 0]),5,72):=by kernel_rfl
theorem Mj (p:Nat) (F:Nat->Prop) (E:List (AD×VC)) (hn:E.length<=1000) (w:World) (h:AF w p F E) :
 Calls prog 98 #[.pointer (some ⟨p,0,none⟩)] w (Am w (E.map (·.1))):=by
 obtain ⟨T,U,z,u,t⟩:=info_parts Mk;have r:prog.underlying 39=some (.slice 62):=underlying39;have hl:(nmE E).length=E.length:=by simp [nmE]
 have LN:=aA (p:=∀ w',aC (fun _=>False) w w'->Calls prog 97 #[.pointer (some ⟨p,0,none⟩)] w' fun e I=>e=.returned (.int .i64 (E.length:Nat))/\w'=I) (fun w' k=>by have:=Qx w' p F (nmE E) (E.map (·.2)) (h.kept k).2.1;rwa [hl] at this);have H:=aA h;clear h hl;go_enter func98,ntmps98
 go_wp2_with fail
 refine (LN.out _ (aC.refl _ _)).mono ?_;rintro e w1 ⟨rfl,rfl⟩;go_wp2_with (at_make;refine wpList_make_own _ rfl _ _ 39 rfl w.heap.size 62 T _ 5 r U z u .i64 .i64 _ E.length rfl rfl rfl (by rw [t];omega) (by unfold maxLen;omega) (Td _) ?_)
 intro w2 ho V;have O2:=aA ho;have B2:=aA (p:=Below w.heap.size w w2) ((Below.refl _ _).grown V (Td _) (fun k h=>by cases h));clear ho V;go_wp2_with fail
 refine (LN.out _ (dD B2.out)).mono ?_;rintro e w1 ⟨rfl,rfl⟩;go_wp2_with fail
 go_loopw [3,13] (fun v i wr=>∃ (k:Nat) (G:Tp) (D vc:Nat),v=.slice G D vc/\i=.int .i64 k/\k<=E.length/\Hid (wr.ownsRow w.heap.size 62 5 (.slice G D vc) k (pS E k))/\Hid (Below w.heap.size w wr)) (fun _ i _=>E.length-(intOf i).toNat)
 case atStart=>exact ⟨0,_,_,_,rfl,rfl,Nat.zero_le _,O2,B2⟩
 case round =>
  obtain ⟨k,G,D,vc,rfl,rfl,hk,O,C⟩:=hrel;by_cases N:k<E.length
  · obtain ⟨x,hx⟩:∃ x,E[k]? = some x:=⟨_,List.getElem?_eq_getElem N⟩
    have A:pS E (k+1)=pS E k++zM x:=Fg hx;have NX:=aA A;have AT:=aA (fun (w':World) (B:Below w.heap.size w w')=>RM w' p F (nmE E) (E.map (·.2)) k x.1.m x.2 (by simp [nmE,hx]) (by simp [hx]) (by simp [nmE];omega) (H.out.kept (dD B)).2.1);clear A;have ja:Below wr.heap.size wr wr.drew:=⟨rfl,rfl,rfl,Td _,fun _ _=>rfl⟩;go_wp2_with fail
    refine (AT.out wr C.out).mono ?_;rintro e S ⟨rfl,B⟩;have B3:=aA (C.out.trans (B.mono C.out.size));have O3:=aA (cK O.out B);clear B;have M:=B3.out.size;obtain ⟨f,b⟩:∃ f,S.alloc (.cells #[.int .i64 x.2.k,.int .i64 x.2.n,.string x.2.s,.slice x.2.y x.2.len x.2.c] 60)=f:=⟨_,rfl⟩;have Y:=aA (b ▸ O3.out.alloc _);have Z:=aA (b ▸ B3.out.alloc M _);have L:f.heap.size=S.heap.size+1:=by subst b;simp
    have W4:=aA b;have R:=aA (Jd f x);clear b;go_wp2_with (at_builtin;rw [W4.out];(refine wpList_append_own _ rfl _ _ 39 rfl w.heap.size 62 T _ 5 72 r U z u t rfl (by decide) _ _ _ rfl (Y.out.alloc _) ⟨f.heap.size,0,none⟩ 1 1 (zM x) (by rw [L];rfl) rfl R.out (J0 x) (by unfold maxLen;omega) (by omega) (by simp;omega) ?_);intro v5 w5 d a _;have X:=aA d;have G5:=aA a;clear d a)
    obtain ⟨o,j,l,rfl⟩:=Ja X.out;have O6:=aA (p:=w5.ownsRow w.heap.size 62 5 (.slice o j l) (k+1) (pS E (k+1))) (by rw [NX.out];exact X.out);have B5:=aA ((Z.out.alloc (by omega) (.cells #[.string x.1.m,.int .i64 x.2.k,.int .i64 x.2.n,.string x.2.s,.slice x.2.y x.2.len x.2.c] 62)).grown G5.out (by have:=Z.out.size;simp;omega) (fun q hq=>(Y.out.lt q hq).1));go_roundw
    case rel=>exact ⟨k+1,o,j,l,rfl,by go_num,by omega,O6,B5⟩
    case measure=>simp [intOf];omega
  · obtain rfl:k=E.length:=by omega
    have hl:D=E.length:=by
     rcases O.out.2 with ⟨h,h'⟩ | ⟨g,jb,_,h,_⟩
     · simp only [Value.slice.injEq] at h;omega
     · simp only [Value.slice.injEq] at h;omega
    subst hl;have P:=aA (show Am w (E.map (·.1)) (.returned (.slice G E.length vc)) wr from ⟨Pk O.out (fun e he=>((H.out.2.2 e he).kept (dD C.out) (fun _ h _=>h.elim) (fun _ h _=>h))),C.out⟩);go_wp2_with fail
    go_ret;exact P.out
theorem LZ (E:List (AD×VC)):nmE E=nmD (E.map (·.1)):=LY rfl
theorem Me (E:List (AD×VC)) (e:AD×VC):(putE E e).map (·.1)=putD (E.map (·.1)) e.1:=by
 unfold putE putD;rw [<- LZ];split
 · rw [List.map_set]
 · rw [List.map_append,List.map_cons,List.map_take,List.map_drop]
def errSet (D:List AD) (x:AD):Int:=if cD x.m.data.toList=false then 5 else if errV x.k x.s x.len x.z=0 then (if has (nmD D) x.m=false/\32<=D.length then 4 else 0) else errV x.k x.s x.len x.z
def SetPost (w:World) (D:List AD) (x:AD) (e:Ending) (w':World):Prop :=
 (if errSet D x=0 then (∃ a c,e=.returned (.tuple #[.slice a (putD D (twA x)).length c,.int .i64 0])/\ReadsA w' a (putD D (twA x)).length (atD (putD D (twA x))))
  else e=.returned (.tuple #[.slice none 0 0,.int .i64 (errSet D x)]))/\Below w.heap.size w w'
theorem Lu (D:List AD) (x:AD):(putD D x).length=if has (nmD D) x.m=true then D.length else D.length+1:=by
 unfold putD;split
 · simp
 · simp only [Tb,Th,Te,List.length_drop];omega
theorem setL_any (a:Tp) (n c:Nat) (A:Nat->AD) (x:AD) (y:Tp) (cy:Nat) (hn:n<=999) (hl:∀ j,j<n->(A j).len<=1000000) (hR:RiseA A n) (hm:x.m.size<=281474976710656) (hs:x.s.size<=281474976710656) (hx:x.len<=1000000) (w:World) (h:ReadsA w a n A) (hy:Reads w y x.len x.z) :
 Calls prog 44 #[.slice a n c,.string x.m,.agg #[.int .i64 x.k,.int .i64 x.n,.string x.s,.slice y x.len cy]] w (SetPost w (twsA A n) x):=by
 have CH:=aA (fun (w':World) (hb:Below w.heap.size w w')=>Kf x.k x.n x.s hs y x.len cy x.z w' (hy.kept hb));unfold val at CH;have NA:=aA (fun w'=>kJ x.m hm w');have BL:∀ o,Below w.heap.size w (w.alloc o):=fun o=>bA0 _ _
 have je:=aA BL;clear BL;by_cases L:cD x.m.data.toList=false
 · have P:=aA (p:=∀ w',Below w.heap.size w w'->SetPost w (twsA A n) x (.returned (.tuple #[.slice none 0 0,.int .i64 5])) w') (fun w' hb=>by
    have Z:errSet (twsA A n) x=5:=by unfold errSet;rw [if_pos L]
    exact ⟨by rw [if_neg (by rw [Z];decide),Z],hb⟩)
   go_enter func44,ntmps44
   go_wp2_with fail
   refine (NA.out _).mono ?_;rintro e w2 ⟨rfl,rfl⟩;go_wp2_with fail
   go_ret2;exact P.out _ (je.out _)
 have jm:cD x.m.data.toList=true:=by simpa using L
 rw [jm] at NA
 have O:errSet (twsA A n) x=if errV x.k x.s x.len x.z=0 then (if has (nmD (twsA A n)) x.m=false/\32<=(twsA A n).length then 4 else 0) else errV x.k x.s x.len x.z:=by
  unfold errSet;rw [if_neg L]
 have t:(twsA A n).length=n:=by simp [twsA]
 rw [t] at O;have RI:=aA h;have RL:=aA hl;have RR:=aA hR;have HY:=aA hy;have jd:=aA t;clear h hl hR hy t;go_enter func44,ntmps44
 go_wp2_with fail
 generalize hW:World.alloc w _=W;have I:Below w.heap.size w W:=by rw [<- hW];exact je.out _
 have H:W.heap[w.heap.size]? = some (.cells #[.int .i64 x.k,.int .i64 x.n,.string x.s,.slice y x.len cy] 60 (0,0)):=by rw [<- hW];exact heap_alloc_new w _
 clear hW;obtain ⟨⟨c0,c1,c2,c3⟩, -⟩:=aL H;have HW:=aA (And.intro I H);have T:=I.size;have jh:=lt_of_block H;clear I H;refine (NA.out _).mono ?_;rintro e w2 ⟨rfl,rfl⟩;by_cases h2:errV x.k x.s x.len x.z=0
 · rw [h2] at CH
   rw [if_pos h2] at O;have B:=aA O;clear O;go_wp2_with fail
   refine (CH.out _ HW.out.1).mono ?_;rintro e S ⟨rfl,f⟩;have ji:w.heap.size<S.heap.size:=by have:=f.size;omega
   have B3:=aA (p:=Below w.heap.size w S) (HW.out.1.trans (f.mono T));have V3:=aA ((f.block w.heap.size jh).trans HW.out.2);have BY:=aA (GZ a n c A (by omega) RL.out RR.out S (RI.out.kept B3.out));clear f c0 c1 c2 c3;go_wp2_with fail
   refine BY.out.mono ?_;rintro e w4 ⟨⟨p,F,E,rfl,hM,hE,hF⟩,u⟩;have jr:E.length=n:=by have L:=congrArg List.length hE;rw [List.length_map,jd.out] at L;exact L
   have V4:=aA ((u.block w.heap.size ji).trans V3.out);have B4:=aA (p:=Below w.heap.size w w4) (B3.out.trans (u.mono B3.out.size));have jq:w.heap.size<w4.heap.size:=by have:=u.size;omega
   have jo:=u.size;have jp:=B3.out.size;have ME:=aA (And.intro hM (And.intro hE hF));obtain ⟨⟨c0,c1,c2,c3⟩, -⟩:=aL V4.out;clear hM hE hF u;go_wp2_with fail
   have TW:=aA (xI x.k x.n x.s y x.len cy x.z hx w4 (HY.out.kept B4.out));clear c0 c1 c2 c3;refine TW.out.mono ?_;rintro e w5 ⟨⟨a5,c5,rfl,X,U⟩,G⟩;have B5:=aA (p:=Below w.heap.size w w5) (B4.out.trans (G.mono (by omega)));have M5:=aA (ME.out.1.kept (dD G));have jc:Hid (RO w5 F (twA x,⟨x.k,twN x.k x.n,twS x.k x.s,a5,twL x.k x.len,c5⟩)):=aA ⟨rfl,rfl,rfl,rfl,U w5 (aC.refl _ _),.inr (fun q hq jl=>by have L:=X q hq;have h2:=ME.out.1.2.1.lt _ jl;omega)⟩;have jn:=G.size;clear X U G;go_wp2_with fail
   refine (Ed w5 p F E x a5 c5 (by omega) M5.out jc.out).mono ?_;rintro r R ⟨rfl,F6,D,jj,Y⟩;have l:=Me E (twA x,⟨x.k,twN x.k x.n,twS x.k x.s,a5,twL x.k x.len,c5⟩);rw [ME.out.2.1] at l;have ja:∀ k,F k->w.heap.size<=k:=fun k hk=>by have:=ME.out.2.2 k hk;omega
   have B6:=aA (p:=Below w.heap.size w R) (B5.out.trans (Y.below ja B5.out.size));have HH:has (nmE E) x.m=has (nmD (twsA A n)) x.m:=by rw [LZ,ME.out.2.1]
   have g:=Lu (twsA A n) (twA x);rw [show (twA x).m=x.m from rfl,jd.out, <- l,List.length_map] at g;rw [HH];clear HH ja jj Y;generalize putE E (twA x,⟨x.k,twN x.k x.n,twS x.k x.s,a5,twL x.k x.len,c5⟩)=E6 at D l g;have LI:=aA (fun hq=>Mj p F6 E6 hq R D);have LE:=aA (Qx R p F6 (nmE E6) (E6.map (·.2)) D.2.1);rw [show (nmE E6).length=E6.length by simp [nmE]] at LE;have PE:=aA l;clear D l M5 jc
   have b:∀ (jg:E6.length<=1000) (V:errSet (twsA A n) x=0),Hid (∀ e C,Am R (E6.map (·.1)) e C->∃ N M,e=.returned (.slice N E6.length M)/\SetPost w (twsA A n) x (.returned (.tuple #[.slice N E6.length M,.int .i64 0])) C):=fun jg V=>aA (by
    rintro e C ⟨⟨N,M,rfl,jf⟩,jk⟩;refine ⟨N,M,by rw [List.length_map],?_,B6.out.trans (jk.mono B6.out.size)⟩;rw [if_pos V, <- PE.out];exact ⟨N,M,by rw [List.length_map],jf⟩)
   by_cases h3:has (nmD (twsA A n)) x.m=true
   · rw [if_pos h3] at g
     have LA:=b (by omega) (by rw [B.out,if_neg (by rw [h3];simp)]);rw [h3];clear b;go_wp2_with fail
     refine (LI.out (by omega)).mono ?_;intro e C h7;obtain ⟨N,M,rfl,d⟩:=LA.out e C h7;rw [g] at d;have P:=aA d;clear h7 d;go_wp2_with fail
     go_ret2;exact P.out
   · have jb:has (nmD (twsA A n)) x.m=false:=by simpa using h3
     rw [if_neg h3] at g;rw [jb];by_cases h4:32<=n
     · have P:=aA (show SetPost w (twsA A n) x (.returned (.tuple #[.slice none 0 0,.int .i64 4])) R from by
        have Z:errSet (twsA A n) x=4:=by rw [B.out];exact if_pos ⟨jb,h4⟩
        exact ⟨by rw [if_neg (by rw [Z];decide),Z],B6.out⟩)
       clear b;go_wp2_with fail
       refine LE.out.mono ?_;rintro e C ⟨rfl,rfl⟩;go_wp2_with fail
       go_ret2;exact P.out
     · have LA:=b (by omega) (by rw [B.out,if_neg (fun h=>h4 h.2)])
       clear b;go_wp2_with fail
       refine LE.out.mono ?_;rintro e C ⟨rfl,rfl⟩;go_wp2_with fail
       refine (LI.out (by omega)).mono ?_;intro e C h7;obtain ⟨N,M,rfl,d⟩:=LA.out e C h7;rw [g] at d;have P:=aA d;clear h7 d;go_wp2_with fail
       go_ret2;exact P.out
 · rw [if_neg h2] at O
   have B:=aA O;clear O;go_wp2_with fail
   refine (CH.out _ HW.out.1).mono ?_;rintro e S ⟨rfl,f⟩;have P:=aA (show SetPost w (twsA A n) x (.returned (.tuple #[.slice none 0 0,.int .i64 (errV x.k x.s x.len x.z)])) S from ⟨by rw [B.out,if_neg h2],HW.out.1.trans (f.mono T)⟩);clear f;go_wp2_with fail
   go_ret2;exact P.out
def Ib:Tq->Tq
 | []=>[]
 | c::r=>if c=47 then r.takeWhile (fun d=> !(d == 47)) else []
def D9:Tq->Tq
 | []=>[]
 | c::r=>if c=47 then r.dropWhile (fun d=> !(d == 47)) else []
theorem AS:∀ (n q:Tq),(∀ c∈n,¬ c=47)->(∀ d r,q=d::r->d=47)->(n++q).takeWhile (fun d=> !(d == 47))=n/\(n++q).dropWhile (fun d=> !(d == 47))=q
 | [], q, _, h => by
   cases q with
   | nil=>exact ⟨rfl,rfl⟩
   | cons d r=>have:=h d r rfl;subst this;exact ⟨by simp,by simp⟩
 | c :: n, q, hn, h => by
   have:=AS n q (fun x hx=>hn x (by simp [hx])) h;have a:(!(c == 47))=true:=by simp [hn c (by simp)]
   have f:=List.takeWhile_cons_of_pos (p:=fun d:UInt8=> !(d == 47)) (l:=n++q) a;have b:=List.dropWhile_cons_of_pos (p:=fun d:UInt8=> !(d == 47)) (l:=n++q) a;rw [this.1] at f;rw [this.2] at b;exact ⟨f,b⟩
theorem nX (s:Tr) (a b:Nat):(s.extract a b).data.toList=(s.data.toList.drop a).take (b-a):=by
 rw [ByteArray.data_extract,Array.toList_extract]
theorem Ia {s:Tr} {n:Nat} (o:1<=n) (hn:n<=s.size) (p:s[0]'(by omega)=47) (b:∀ j (f:j<s.size),1<=j->j<n->¬ s[j]=47) (a:∀ h:n<s.size,s[n]=47) :
 (.string (s.extract 1 n):Value)=tv (Ib s.data.toList)/\(.string (s.extract n s.size):Value)=tv (D9 s.data.toList):=by
 have hl:s.data.toList.length=s.size:=by simp
 have e:s.data.toList=47::((s.data.toList.drop 1).take (n-1)++s.data.toList.drop n):=by
  have m:s.data.toList.drop n=(s.data.toList.drop 1).drop (n-1):=by rw [List.drop_drop,show 1+(n-1)=n by omega]
  rw [m,List.take_append_drop];have:=List.drop_eq_getElem_cons (l:=s.data.toList) (i:=0) (by omega);rw [List.drop_zero] at this;rw [this];congr 1
 have t:=AS ((s.data.toList.drop 1).take (n-1)) (s.data.toList.drop n) (by
  intro c k;obtain ⟨j,f,rfl⟩:=Tn.1 k;simp at f;have:=b (1+j) (by omega) (by omega) (by omega);rw [List.getElem_take,List.getElem_drop];exact this) (by
  intro d r hd;by_cases h:n<s.size
  · have:=List.drop_eq_getElem_cons (l:=s.data.toList) (i:=n) (by omega)
    rw [hd] at this;have g:=(List.cons.inj this).1;rw [g];exact a h
  · rw [List.drop_of_length_le (by omega)] at hd;cases hd)
 constructor
 · unfold tv
   congr 1
   apply dO
   rw [nX];show _=Ib s.data.toList;rw [e];show _=((s.data.toList.drop 1).take (n-1)++s.data.toList.drop n).takeWhile _;rw [t.1, <- e]
 · unfold tv
   congr 1
   apply dO
   rw [nX];show _=D9 s.data.toList;rw [e];show _=((s.data.toList.drop 1).take (n-1)++s.data.toList.drop n).dropWhile _;rw [t.2, <- e];exact List.take_of_length_le (by simp)
theorem yA (s:Tr):Lib.hasPrefix s.data.toList (⟨#[47]⟩:Tr).data.toList=decide (∃ h:0<s.size,s[0]=47):=by
 have hl:s.data.toList.length=s.size:=by simp
 cases e:s.data.toList with
 | nil =>
   rw [e] at hl;rw [decide_eq_false]
   · rfl
   · rintro ⟨h,_⟩;simp at hl;omega
 | cons c r =>
   have f:0<s.size:=by rw [e] at hl;simp at hl;omega
   have a:s.data.toList[0]? = some s[0]:=List.getElem?_eq_getElem (by omega);rw [e] at a;have d:c=s[0]:=by simpa using a
   by_cases h:c=47
   · rw [decide_eq_true ⟨f,d ▸ h⟩];subst h;rfl
   · rw [decide_eq_false (fun ⟨_,h'⟩=>h (d.trans h'))]
     have g:(c == 47)=false:=beq_eq_false_iff_ne.2 h;have b:((47:UInt8) == c)=false:=beq_eq_false_iff_ne.2 (fun e=>h e.symm);show [47].isPrefixOf (c::r)=false;rw [List.isPrefixOf,b];rfl
theorem MM {s:Tr} (h:¬ ∃ h:0<s.size,s[0]=47):Ib s.data.toList=[]/\D9 s.data.toList=[]:=by
 have hl:s.data.toList.length=s.size:=by simp
 cases e:s.data.toList with
 | nil=>exact ⟨rfl,rfl⟩
 | cons c r =>
   have d:0<s.size:=by rw [e] at hl;simp at hl;omega
   have a:s.data.toList[0]? = some s[0]:=List.getElem?_eq_getElem (by omega);rw [e] at a;have b:c=s[0]:=by simpa using a
   have:¬ c=47:=fun f=>h ⟨d,b ▸ f⟩
   exact ⟨if_neg this,if_neg this⟩
theorem first_any (s:Tr) (x:s.size<=281474976710656) (w:World):Calls prog 161 #[.string s] w fun e w'=>e=.returned (.tuple #[tv (Ib s.data.toList),tv (D9 s.data.toList)])/\Below w.heap.size w w':=by
 have P:=strings_HasPrefix s ⟨#[47]⟩;by_cases h:∃ h:0<s.size,s[0]=47
 · rw [yA,decide_eq_true h] at P
   obtain ⟨hs,o⟩:=h;have C:=aA P;have p:=aA o;clear P o;go_enter func161,ntmps161
   go_wp2_with fail
   refine (C.out _).mono ?_;rintro e r ⟨rfl,rfl⟩;go_wp2_with fail
   go_loop [4] (fun i=>∃ k:Nat,1<=k/\k<=s.size/\i=.int .i64 k/\Hid (∀ j (d:j<s.size),1<=j->j<k->¬ s[j]=47)) (fun i=>s.size-(intOf i).toNat)
   case atStart=>exact ⟨1,Td _,by omega,rfl,aA (fun j _ h y=>by omega)⟩
   case round =>
    obtain ⟨k,l,n,rfl,c⟩:=hrel;by_cases m:k<s.size
    · by_cases f:s[k]=47
      · have T:=aA (Ia l n p.out (fun j d a b=>c.out j d a b) (fun _=>f))
        have q:((s[k].toNat:Int) != 47)=false:=by rw [f];decide
        have a1:(1:Int)<=(k:Int):=by omega
        have a2:(k:Int)<=(s.size:Int):=by omega
        have a3:(0:Int)<=(k:Int):=by omega
        have a4:((k:Int)).toNat=k:=by omega
        clear f;go_wp2_with (go_quiet (fail))
        go_ret2;rw [T.out.1,T.out.2];exact ⟨rfl,cL (Below.refl _ _) _⟩
      · have q:((s[k].toNat:Int) != 47)=true:=by
         rw [bne_iff_ne];intro e;apply f;apply UInt8.toNat_inj.1
         have:s[k].toNat=47:=by omega
         rw [this];rfl
        have g:=aA (show ∀ j (d:j<s.size),1<=j->j<k+1->¬ s[j]=47 from fun j d u t=>by
         by_cases e:j=k
         · subst e;exact f
         · exact c.out j d u (by omega))
        clear f;go_wp2_with fail
        go_round
        case rel=>exact ⟨k+1,by omega,by omega,by go_num,g⟩
        case measure=>simp [intOf];omega
    · obtain rfl:k=s.size:=by omega
      have T:=aA (Ia l n p.out (fun j d a b=>c.out j d a b) (fun h=>absurd h m));have E:=aA (show (.string ByteArray.empty:Value)=.string (s.extract s.size s.size) by congr 1;apply dO;rw [nX];simp);have a1:(1:Int)<=(s.size:Int):=by omega
      have a3:(0:Int)<=(s.size:Int):=by omega
      have a4:((s.size:Int)).toNat=s.size:=by omega
      go_wp2_with (go_quiet (fail))
      go_ret2;rw [T.out.1,show (.string ByteArray.empty:Value)=tv (D9 s.data.toList) from T.out.2 ▸ E.out];exact ⟨rfl,cL (Below.refl _ _) _⟩
 · rw [yA,decide_eq_false h] at P
   have T:=aA (MM h);have C:=aA P;clear P h;go_enter func161,ntmps161
   go_wp2_with fail
   refine (C.out _).mono ?_;rintro e r ⟨rfl,rfl⟩;go_wp2_with fail
   go_ret2;rw [T.out.1,T.out.2];exact ⟨rfl,Below.refl _ _⟩
end Go.Proofs.YtgfkjkokmcejbaaGreatDoor.Wr
