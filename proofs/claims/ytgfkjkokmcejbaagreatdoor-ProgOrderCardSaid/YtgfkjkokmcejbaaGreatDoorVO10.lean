/-
 No statement: what ProgOrderLift needs, of the texts OS.
-/
import Derived.Test.YtgfkjkokmcejbaaGreatDoorVO9
import Derived.Laws.ResultCell
import Derived.Laws.Rows
import Derived.Laws.OwnMore
set_option maxHeartbeats 40000000
set_option maxRecDepth 100000
namespace Go.Proofs.YtgfkjkokmcejbaaGreatDoor.Wr
open Go.RowKit
section
section
open Go.RowKit
theorem eG {w:World} {e:TypeId} {v:Value} {n:Nat} {xs:List Value} (h:w.ownsRow 0 e 1 v n xs) :
 (v=.slice none 0 0/\n=0/\xs=[]) \/
 ∃ g cap cur,v=.slice (some ⟨g,0,none⟩) n cap/\v.ownBlock=some g/\w.heap[g]? = some (.cells cur e (0,0))/\n<=cap/\cap<=maxLen/\cur.size=cap/\cur.toList.take n=xs/\xs.length=n/\g<w.heap.size:=by
 obtain ⟨h1,h2⟩:=h;rw [Nat.mul_one] at h1;rcases h2 with ⟨rfl,rfl⟩ | ⟨g,cap,cur,rfl,_,hg,a,b,c,d⟩
 · exact .inl ⟨rfl,rfl,List.length_eq_zero_iff.1 h1⟩
 · rw [Nat.mul_one] at c d
   exact .inr ⟨g,cap,cur,rfl,rfl,hg,a,b,c,d,h1,lt_of_block hg⟩
theorem j0 {w:World} {e:TypeId} {g cap n:Nat} {cur:Array Value} {xs:List Value} (hg:w.heap[g]? = some (.cells cur e (0,0))) (hn:n<=cap) (hm:cap<=maxLen) (hs:cur.size=cap) (ht:cur.toList.take n=xs) :
 w.ownsRow 0 e 1 (.slice (some ⟨g,0,none⟩) n cap) n xs:=by
 refine ⟨?_,.inr ⟨g,cap,cur,rfl,Nat.zero_le _,hg,hn,hm,by rw [Nat.mul_one];exact hs,by rw [Nat.mul_one];exact ht⟩⟩;rw [<- ht,List.length_take,Array.length_toList,Nat.mul_one];omega
theorem aM (b:Nat):∀ (vs:List Value) (o:Nat) (w:World),aC (· = b) w (w.setCells b o vs)
 | [],_,w=>aC.refl _ w
 | v::r,o,w=>((aC.refl (fun i=>i=b) w).setCell (p:=⟨b,o,none⟩) (Or.inl rfl) v).trans (aM b r (o+1) _) (fun _ h _=>h)
def fA (w w':World) (E:TypeId) (v:Value) (xs:List Value) (e:Ending):Prop :=
 ∃ v',e=.returned v'/\w'.ownsRow 0 E 1 v' xs.length xs/\w.grownBy w' v.ownBlock/\(v'.ownBlock=v.ownBlock\/∃ b,v'.ownBlock=some b/\w.heap.size<=b)
theorem kD {w:World} {e:TypeId} {g cap n i:Nat} {cur:Array Value} {xs:List Value} {x:Value} (hg:w.heap[g]? = some (.cells cur e (0,0))) (hs:cur.size=cap) (ht:cur.toList.take n=xs)
 (hx:xs.length=n) (hi:i<n) (hr:n+1<=cap) (hm:cap<=maxLen) (e':Ending) (he:e'=.returned (.slice (some ⟨g,0,none⟩) (n+1) cap)) :
 fA w ((w.drew.setCells g (i+1) (xs.drop i)).setCells g i [x]) e (.slice (some ⟨g,0,none⟩) n cap) (xs.take i++x::xs.drop i) e':=by
 obtain ⟨c1,h1,t1⟩:=aN g e (xs.drop i) (i+1) w.drew cur hg (by rw [List.length_drop];omega)
 have s1:c1.size=cap:=by
  rw [<- Array.length_toList,t1];simp [List.length_take];omega
 obtain ⟨c2,h2,t2⟩:=aN g e [x] i _ c1 h1 (by simp;omega)
 have s2:c2.size=cap:=by
  rw [<- Array.length_toList,t2];simp [List.length_take];omega
 have hl:(xs.take i++x::xs.drop i).length=n+1:=by simp [List.length_take];omega
 refine ⟨_,he,?_,aV (S:=(· = g)) (((aC.refl (· = g) w).drew.trans (aM g _ _ _) (fun _ h _=>h)).trans (aM g _ _ _) (fun _ h _=>h)) (fun k hk=>by subst hk;rfl),Or.inl rfl⟩;rw [hl];refine j0 h2 hr hm s2 ?_;rw [t2,t1]
 have e1:(cur.toList.take (i+1)++xs.drop i++cur.toList.drop (i+1+(xs.drop i).length)).take i=xs.take i:=by
  rw [List.append_assoc,List.take_append_of_le_length (by rw [List.length_take,Array.length_toList];omega),List.take_take, <- ht,List.take_take];congr 1;omega
 have e2:(cur.toList.take (i+1)++xs.drop i++cur.toList.drop (i+1+(xs.drop i).length)).drop (i+[x].length)=xs.drop i++cur.toList.drop (n+1):=by
  rw [List.append_assoc,List.drop_append_of_le_length (by rw [List.length_take,Array.length_toList];simp;omega),List.drop_take];have:i+1+(xs.drop i).length=n+1:=by rw [List.length_drop];omega
  rw [this];simp
 rw [e1,e2];have e3:xs.take i++[x]++(xs.drop i++cur.toList.drop (n+1))=(xs.take i++x::xs.drop i)++cur.toList.drop (n+1):=by simp
 rw [e3, <- hl,List.take_append_of_le_length (Nat.le_refl _),List.take_length]
theorem l5 {w:World} {e:TypeId} {g cap n:Nat} {cur:Array Value} {xs:List Value} {x:Value} (hg:w.heap[g]? = some (.cells cur e (0,0))) (hs:cur.size=cap) (ht:cur.toList.take n=xs)
 (hx:xs.length=n) (hr:n+1<=cap) (hm:cap<=maxLen) (e':Ending) (he:e'=.returned (.slice (some ⟨g,0,none⟩) (n+1) cap)) :
 fA w (w.setCells g n [x]) e (.slice (some ⟨g,0,none⟩) n cap) (xs.take n++x::xs.drop n) e':=by
 obtain ⟨c2,h2,t2⟩:=aN g e [x] n w cur hg (by simp;omega)
 have s2:c2.size=cap:=by
  rw [<- Array.length_toList,t2];simp [List.length_take];omega
 have hl:(xs.take n++x::xs.drop n).length=n+1:=by simp [List.length_take];omega
 refine ⟨_,he,?_,aV (S:=(· = g)) (aM g _ _ _) (fun k hk=>by subst hk;rfl),Or.inl rfl⟩;rw [hl];refine j0 h2 hr hm s2 ?_;rw [t2,ht,List.take_of_length_le (by omega:xs.length<=n),List.drop_of_length_le (by omega:xs.length<=n),List.take_append_of_le_length (by simp;omega),List.take_of_length_le (by simp;omega)]
theorem iN {w w':World} {e:TypeId} {G n i:Nat} {v:Value} {ROW:Array Value} {xs:List Value} {x:Value} (hx:xs.length=n) (hi:i<=n) (hG:n+1<=G) (hm:G<=maxLen)
 (hw:aC (fun _=>False) w w') (hrow:w'.heap[w.heap.size]? = some (.cells ROW e (0,0))) (hs:ROW.size=G) (ht:ROW.toList.take (n+1)=xs.take i++x::xs.drop i) (e':Ending) (he:e'=.returned (.slice (some ⟨w.heap.size,0,none⟩) (n+1) G)) :
 fA w w' e v (xs.take i++x::xs.drop i) e':=by
 have hl:(xs.take i++x::xs.drop i).length=n+1:=by simp [List.length_take];omega
 refine ⟨_,he,?_,aV hw (fun _ h=>h.elim),Or.inr ⟨_,rfl,Nat.le_refl _⟩⟩;rw [hl];exact j0 hrow hG hm hs ht
theorem iO {w:World} {e:TypeId} {G n:Nat} {v:Value} {Z:Array Value} {xs:List Value} {x:Value} (hx:xs.length=n) (hG:n+1<=G) (hm:G<=maxLen) (hZ:Z.size=G-(n+1))
 (e':Ending) (he:e'=.returned (.slice (some ⟨w.heap.size,0,none⟩) (n+1) G)) :
 fA w (w.drew.alloc (.cells ((xs++[x]).toArray++Z) e)) e v (xs.take n++x::xs.drop n) e':=by
 refine iN (i:=n) (ROW:=(xs++[x]).toArray++Z) hx (Nat.le_refl _) hG hm ((aC.refl _ w).drew.alloc _) (heap_alloc_new w.drew _) (by simp;omega) ?_ e' he;rw [Array.toList_append,List.take_append_of_le_length (by simp;omega),List.take_of_length_le (by simp;omega),List.take_of_length_le (by omega:xs.length<=n),List.drop_of_length_le (by omega:xs.length<=n)]
theorem l6 {w:World} {e:TypeId} {G n i:Nat} {v:Value} {Y Z:Array Value} {xs:List Value} {x:Value} (hx:xs.length=n) (hi:i<n) (hG:n+1<=G) (hm:G<=maxLen) (hY:Y.size=n+1-i) (hZ:Z.size=G-(n+1))
 (e':Ending) (he:e'=.returned (.slice (some ⟨w.heap.size,0,none⟩) (n+1) G)) :
 fA w ((((w.alloc (.cells ((xs.take i).toArray++Y++Z) e)).drew.setCells w.heap.size i [x]).drew).setCells w.heap.size (i+1) (xs.drop i)) e v (xs.take i++x::xs.drop i) e':=by
 have hti:(xs.take i).length=i:=by rw [List.length_take];omega
 have h0:((w.alloc (.cells ((xs.take i).toArray++Y++Z) e)).drew).heap[w.heap.size]? = some (.cells ((xs.take i).toArray++Y++Z) e (0,0)):=heap_alloc_new w _;have s0:((xs.take i).toArray++Y++Z).size=G:=by simp [List.length_take];omega
 obtain ⟨c1,h1,t1⟩:=aN w.heap.size e [x] i _ _ h0 (by rw [s0];simp;omega)
 have s1:c1.size=G:=by
  rw [<- Array.length_toList,t1];simp [List.length_take];omega
 obtain ⟨c2,h2,t2⟩:=aN w.heap.size e (xs.drop i) (i+1) (((w.alloc (.cells ((xs.take i).toArray++Y++Z) e)).drew.setCells w.heap.size i [x]).drew) c1 h1 (by rw [s1,List.length_drop];omega)
 have s2:c2.size=G:=by
  rw [<- Array.length_toList,t2];simp [List.length_take];omega
 have k0:aC (fun k=>k=w.heap.size) w ((((w.alloc (.cells ((xs.take i).toArray++Y++Z) e)).drew.setCells w.heap.size i [x]).drew).setCells w.heap.size (i+1) (xs.drop i)) :=
  ((((aC.refl (fun k=>k=w.heap.size) w).alloc _).drew.trans (aM w.heap.size _ _ _) (fun _ h _=>h)).drew).trans (aM w.heap.size _ _ _) (fun _ h _=>h)
 refine iN (ROW:=c2) hx (Nat.le_of_lt hi) hG hm (k0.mono (fun k hk hl=>by omega)) h2 s2 ?_ e' he;rw [t2,t1]
 have e1:((((xs.take i).toArray++Y++Z).toList.take i++[x]++((xs.take i).toArray++Y++Z).toList.drop (i+[x].length))).take (i+1)=xs.take i++[x]:=by
  have e0:((xs.take i).toArray++Y++Z).toList.take i=xs.take i:=by
   rw [Array.toList_append,Array.toList_append,List.append_assoc,List.take_append_of_le_length (by simp [List.length_take];omega)];exact List.take_of_length_le (by simp [List.length_take];omega)
  rw [e0,List.take_append_of_le_length (by simp [List.length_take];omega),List.take_of_length_le (by simp [List.length_take];omega)]
 have hl:(xs.take i++x::xs.drop i).length=n+1:=by simp [List.length_take];omega
 rw [e1];have e3:∀ R:List Value,xs.take i++[x]++xs.drop i++R=(xs.take i++x::xs.drop i)++R:=fun R=>by simp
 rw [e3, <- hl,List.take_append_of_le_length (Nat.le_refl _),List.take_length]
end
section
section
variable {K : Type} {less : K -> K -> Bool}
variable [DecidableEq K]
def Ko {V:Type} (less:K->K->Bool) (ks:List K) (vs:List V) (x:K) (v:V):List V:=if has ks x=true then vs.set (pos less ks x) v else vs.take (pos less ks x)++v::vs.drop (pos less ks x)
end
end
section
open Go.RowKit
theorem lU {w:World} {e:TypeId} {v:Value} {n:Nat} {xs:List Value} (h:w.ownsRow 0 e 1 v n xs):∃ a c,v=.slice a n c:=by
 rcases eG h with ⟨rfl,rfl,_⟩ | ⟨g,cap,cur,rfl,_⟩
 · exact ⟨none,0,rfl⟩
 · exact ⟨some ⟨g,0,none⟩,cap,rfl⟩
theorem Dd {w:World} {e:TypeId} {v:Value} {n:Nat} {xs:List Value} (h:w.ownsRow 0 e 1 v n xs) (h0:0<n) :
 ∃ g c cur,v=.slice (some ⟨g,0,none⟩) n c/\w.heap[g]? = some (.cells cur e (0,0))/\cur.size=c/\n<=c/\c<=maxLen/\cur.toList.take n=xs/\xs.length=n:=by
 rcases eG h with ⟨rfl,rfl,_⟩ | ⟨g,cap,cur,rfl,_,hg,hnc,hm,hs,ht,hx,_⟩
 · omega
 · exact ⟨g,cap,cur,rfl,hg,hs,hnc,hm,ht,hx⟩
theorem gM {w:World} {p:Nat} {a b:Value} {T:TypeId} (h:w.heap[p]? = some (.cells #[a,b] T (0,0))):w.cell? ⟨p,0,none⟩=some a:=by simp [World.cell?,h]
theorem i1 {w:World} {p:Nat} {a b:Value} {T:TypeId} (h:w.heap[p]? = some (.cells #[a,b] T (0,0))):w.cell? ⟨p,1,none⟩=some b:=by simp [World.cell?,h]
theorem tA {w:World} {p:Nat} {a b:Value} {T:TypeId} (h:w.heap[p]? = some (.cells #[a,b] T (0,0))) (i:Nat):w.frozen? ⟨p,i,none⟩=false:=by simp [World.frozen?,h]
theorem I0 {F:Nat->Prop} {w w1:World} {v:Value} (hg:w.grownBy w1 v.ownBlock) (hf:∀ b,v.ownBlock=some b->F b):aC F w w1 :=
 (aC.refl F w).grown hg (fun k hk=>Or.inl (hf k hk))
end
section
open Go.RowKit
theorem j3 {w:World} {e:TypeId} {m:Nat} {v:Value} {n:Nat} {xs:List Value} (h:w.ownsRow 0 e m v n xs) :
 (v=.slice none 0 0/\n=0/\xs=[]) \/
 ∃ g cap cur,v=.slice (some ⟨g,0,none⟩) n cap/\v.ownBlock=some g/\w.heap[g]? = some (.cells cur e (0,0))/\n<=cap/\cap<=maxLen/\cur.size=cap*m/\cur.toList.take (n*m)=xs/\xs.length=n*m:=by
 obtain ⟨h1,h2⟩:=h;rcases h2 with ⟨rfl,rfl⟩ | ⟨g,cap,cur,rfl,_,hg,a,b,c,d⟩
 · exact .inl ⟨rfl,rfl,List.length_eq_zero_iff.1 (by simpa using h1)⟩
 · exact .inr ⟨g,cap,cur,rfl,rfl,hg,a,b,c,d,h1⟩
theorem kT {w:World} {e:TypeId} {m g cap n:Nat} {cur:Array Value} {xs:List Value} (hg:w.heap[g]? = some (.cells cur e (0,0))) (hn:n<=cap) (hm:cap<=maxLen) (hs:cur.size=cap*m) (ht:cur.toList.take (n*m)=xs) :
 w.ownsRow 0 e m (.slice (some ⟨g,0,none⟩) n cap) n xs:=by
 refine ⟨?_,.inr ⟨g,cap,cur,rfl,Nat.zero_le _,hg,hn,hm,hs,ht⟩⟩;have:=Nat.mul_le_mul_right m hn;rw [<- ht,List.length_take,Array.length_toList];omega
def JV (w w':World) (E:TypeId) (m:Nat) (v:Value) (n:Nat) (xs:List Value) (e:Ending):Prop :=
 ∃ v',e=.returned v'/\w'.ownsRow 0 E m v' n xs/\w.grownBy w' v.ownBlock/\(v'.ownBlock=v.ownBlock\/∃ b,v'.ownBlock=some b/\w.heap.size<=b)
theorem DI {w:World} {e:TypeId} {g I N M C:Nat} {cur:Array Value} {xs x:List Value} (hg:w.heap[g]? = some (.cells cur e (0,0))) (hs:cur.size=C) (ht:cur.toList.take N=xs)
 (hx:xs.length=N) (hI:I<=N) (hM:x.length=M) (hC:N+M<=C) :
 ∃ c2,((w.drew.setCells g (I+M) (xs.drop I)).setCells g I x).heap[g]? = some (.cells c2 e (0,0))/\c2.size=C/\c2.toList.take (N+M)=xs.take I++x++xs.drop I:=by
 have hcl:cur.toList.length=C:=by rw [Array.length_toList,hs]
 obtain ⟨c1,h1,t1⟩:=aN g e (xs.drop I) (I+M) w.drew cur hg (by rw [List.length_drop];omega);have s1:c1.size=C:=by rw [<- Array.length_toList,t1];simp only [List.length_append,List.length_take,List.length_drop,Array.length_toList];omega
 obtain ⟨c2,h2,t2⟩:=aN g e x I _ c1 h1 (by omega);have s2:c2.size=C:=by rw [<- Array.length_toList,t2];simp only [List.length_append,List.length_take,List.length_drop,Array.length_toList];omega
 refine ⟨c2,h2,s2,?_⟩;have hl:(xs.take I++x++xs.drop I).length=N+M:=by simp [List.length_take];omega
 rw [t2,t1]
 have e1:(cur.toList.take (I+M)++xs.drop I++cur.toList.drop (I+M+(xs.drop I).length)).take I=xs.take I:=by
  rw [List.append_assoc,List.take_append_of_le_length (by rw [List.length_take];omega),List.take_take, <- ht,List.take_take];congr 1;omega
 have e2:(cur.toList.take (I+M)++xs.drop I++cur.toList.drop (I+M+(xs.drop I).length)).drop (I+x.length)=xs.drop I++cur.toList.drop (N+M):=by
  rw [List.append_assoc,List.drop_append_of_le_length (by rw [List.length_take];omega),List.drop_take,hM,Nat.sub_self,List.take_zero,List.nil_append];have:I+M+(xs.drop I).length=N+M:=by rw [List.length_drop];omega
  rw [this]
 rw [e1,e2];have e3:xs.take I++x++(xs.drop I++cur.toList.drop (N+M))=(xs.take I++x++xs.drop I)++cur.toList.drop (N+M):=by simp
 rw [e3, <- hl,List.take_append_of_le_length (Nat.le_refl _),List.take_length]
theorem GR {w:World} {e:TypeId} {g N M C:Nat} {cur:Array Value} {xs x:List Value} (hg:w.heap[g]? = some (.cells cur e (0,0))) (hs:cur.size=C) (ht:cur.toList.take N=xs)
 (hx:xs.length=N) (hM:x.length=M) (hC:N+M<=C) :
 ∃ c2,(w.setCells g N x).heap[g]? = some (.cells c2 e (0,0))/\c2.size=C/\c2.toList.take (N+M)=xs++x:=by
 obtain ⟨c2,h2,t2⟩:=aN g e x N w cur hg (by omega);have s2:c2.size=C:=by rw [<- Array.length_toList,t2];simp only [List.length_append,List.length_take,List.length_drop,Array.length_toList];omega
 refine ⟨c2,h2,s2,?_⟩;rw [t2,ht,List.take_append_of_le_length (by simp;omega),List.take_of_length_le (by simp;omega)]
theorem GS {w:World} {e:TypeId} {I N M C:Nat} {Y Z:Array Value} {xs x:List Value} (hx:xs.length=N) (hI:I<=N) (hM:x.length=M) (hC:N+M<=C) (hY:Y.size=N+M-I) (hZ:Z.size=C-(N+M)) :
 ∃ c2,((((w.alloc (.cells ((xs.take I).toArray++Y++Z) e)).drew.setCells w.heap.size I x).drew).setCells w.heap.size (I+M) (xs.drop I)).heap[w.heap.size]? = some (.cells c2 e (0,0))/\c2.size=C/\c2.toList.take (N+M)=xs.take I++x++xs.drop I:=by
 have hti:(xs.take I).length=I:=by rw [List.length_take];omega
 have h0:((w.alloc (.cells ((xs.take I).toArray++Y++Z) e)).drew).heap[w.heap.size]? = some (.cells ((xs.take I).toArray++Y++Z) e (0,0)):=heap_alloc_new w _;have s0:((xs.take I).toArray++Y++Z).size=C:=by simp [List.length_take];omega
 obtain ⟨c1,h1,t1⟩:=aN w.heap.size e x I _ _ h0 (by rw [s0];omega);have s1:c1.size=C:=by rw [<- Array.length_toList,t1];simp only [List.length_append,List.length_take,List.length_drop,Array.length_toList];omega
 obtain ⟨c2,h2,t2⟩:=aN w.heap.size e (xs.drop I) (I+M) (((w.alloc (.cells ((xs.take I).toArray++Y++Z) e)).drew.setCells w.heap.size I x).drew) c1 h1 (by rw [s1,List.length_drop];omega);have s2:c2.size=C:=by rw [<- Array.length_toList,t2];simp only [List.length_append,List.length_take,List.length_drop,Array.length_toList];omega
 refine ⟨c2,h2,s2,?_⟩;rw [t2,t1]
 have e1:((((xs.take I).toArray++Y++Z).toList.take I++x++((xs.take I).toArray++Y++Z).toList.drop (I+x.length))).take (I+M)=xs.take I++x:=by
  have e0:((xs.take I).toArray++Y++Z).toList.take I=xs.take I:=by
   rw [Array.toList_append,Array.toList_append,List.append_assoc,List.take_append_of_le_length (by simp [List.length_take];omega)];exact List.take_of_length_le (by simp [List.length_take];omega)
  rw [e0,List.take_append_of_le_length (by simp [List.length_take];omega),List.take_of_length_le (by simp [List.length_take];omega)]
 have hl:(xs.take I++x++xs.drop I).length=N+M:=by simp [List.length_take];omega
 rw [e1, <- hl,List.take_append_of_le_length (Nat.le_refl _),List.take_length]
section
variable {P : Program}
theorem lN (w:World) (dT sT ty elem:TypeId) (m b o dLen dCap:Nat) (a:Addr) (sLen sCap:Nat) (cs:List Value)
 (hu:P.underlying dT=some (.slice elem)) (hs:(P.info? elem).map (·.size)=some m) (hn:cs.length=Nat.min sLen dLen*m)
 (hsrc:∀ j v,cs[j]? = some v->w.cell? (a.add j)=some v) (hc:∀ j,j<cs.length->(w.cell? ⟨b,o+j,none⟩).isSome=true) (hf:∀ j,j<cs.length->w.frozen? ⟨b,o+j,none⟩=false) (h1:∀ v∈cs,v.oneCell'=true) :
 (Builtin.copy_ #[dT,sT] ty #[.slice (some ⟨b,o,none⟩) dLen dCap,.slice (some a) sLen sCap]).run P w=.ok (goInt (Nat.min sLen dLen)) (w.setCells b o cs):=by
 have hl:=run_loadCells_list (P:=P) w a cs hsrc;have hst:=run_storeCells_cells (P:=P) b o cs 0 w (by simpa using hc) (by simpa using hf) h1;cases hq:P.info? elem with
 | none=>simp [hq] at hs
 | some i =>
   have hi:i.size=m:=by simpa [hq] using hs
   simp [Builtin.copy_,run_underlying hu,Builtin.lenOf,Builtin.firstCells,sizeOf,typeInfo,hq,hi, <- hn,hl,hst]
end
end
section
open Go.RowKit
theorem sS {w:World} {e:TypeId} {m:Nat} {v:Value} {n:Nat} {xs:List Value} (h:w.ownsRow 0 e m v n xs):∃ a c,v=.slice a n c:=by
 rcases j3 h with ⟨rfl,rfl,_⟩ | ⟨g,cap,cur,rfl,_⟩
 · exact ⟨none,0,rfl⟩
 · exact ⟨some ⟨g,0,none⟩,cap,rfl⟩
theorem sU {w:World} {e:TypeId} {m:Nat} {v:Value} {n:Nat} {xs:List Value} (h:w.ownsRow 0 e m v n xs) (h0:0<n) :
 ∃ g c cur,v=.slice (some ⟨g,0,none⟩) n c/\w.heap[g]? = some (.cells cur e (0,0))/\cur.size=c*m/\n<=c/\c<=maxLen/\cur.toList.take (n*m)=xs/\xs.length=n*m:=by
 rcases j3 h with ⟨rfl,rfl,_⟩ | ⟨g,cap,cur,rfl,_,hg,hnc,hm,hs,ht,hx⟩
 · omega
 · exact ⟨g,cap,cur,rfl,hg,hs,hnc,hm,ht,hx⟩
theorem fE.fields {m:Nat} {w:World} {T kE vE:TypeId} {p:Nat} {F:Nat->Prop} {ks vs:List Value} (h:fE m w T kE vE p F ks vs):∃ ka kc va vc,dK m w T kE vE p F (.slice ka ks.length kc) (.slice va ks.length vc) ks.length ks.length ks vs:=by
 obtain ⟨kv,vv,h0,h1,h2,d0,d1,d2,f0,f1,f2,f3⟩:=h;obtain ⟨ka,kc,rfl⟩:=lU h1;obtain ⟨va,vc,rfl⟩:=sS h2;exact ⟨ka,kc,va,vc,h0,h1,h2,d0,d1,d2,f0,f1,f2,f3⟩
theorem dK.mapIn {m:Nat} {w:World} {T kE vE:TypeId} {p:Nat} {F:Nat->Prop} {kv vv:Value} {nk nv:Nat} {X Y:List Value} (h:dK m w T kE vE p F kv vv nk nv X Y) (hn:nk=nv):fE m w T kE vE p F X Y:=by
 subst hn;have:=Bo h.k;subst this;exact ⟨kv,vv,h.row,h.k,h.v,h.dk,h.dv,h.dkv,h.fp,h.fk,h.fv,h.lt⟩
theorem dK.plt {m:Nat} {w:World} {T kE vE:TypeId} {p:Nat} {F:Nat->Prop} {kv vv:Value} {nk nv:Nat} {X Y:List Value} (h:dK m w T kE vE p F kv vv nk nv X Y):p<w.heap.size:=h.lt p h.fp
theorem dK.store0 {m:Nat} {w w1:World} {T kE vE:TypeId} {p:Nat} {F:Nat->Prop} {kv vv kv':Value} {nk nv n:Nat} {X Y X':List Value} (h:dK m w T kE vE p F kv vv nk nv X Y)
 (hg:w.grownBy w1 kv.ownBlock) (ho:w1.ownsRow 0 kE 1 kv' n X') (hb:kv'.ownBlock=kv.ownBlock\/∃ b,kv'.ownBlock=some b/\w.heap.size<=b) :
 dK m (w1.setCell ⟨p,0,none⟩ kv') T kE vE p (JP F kv') kv' vv n nv X' Y/\aC F w (w1.setCell ⟨p,0,none⟩ kv')/\Cq w F (JP F kv'):=by
 have hK:aC F w w1:=I0 hg h.fk;have hK2:aC F w (w1.setCell ⟨p,0,none⟩ kv'):=hK.setCell (Or.inl h.fp) _;have hrow:w1.heap[p]? = some (.cells #[kv,vv] T (0,0)):=by rw [hg.block p h.plt (fun e=>h.dk e.symm)];exact h.row
 have hdk:kv'.ownBlock ≠ some p:=by
  rcases hb with hb | ⟨b,hb,hl⟩
  · rw [hb];exact h.dk
  · rw [hb];intro e;cases e;have:=h.plt;omega
 have hv1:w1.ownsRow 0 vE m vv nv Y:=by
  refine h.v.kept hg ?_;cases hvv:vv.ownBlock with
  | none=>exact Or.inl rfl
  | some b=>exact Or.inr (fun e=>h.dkv b e.symm hvv)
 refine ⟨⟨?_,ownsRow_setCell_other ho (a:=⟨p,0,none⟩) hdk _,ownsRow_setCell_other hv1 (a:=⟨p,0,none⟩) h.dv _,hdk,h.dv,?_,Or.inl h.fp,fun b hb=>Or.inr hb,fun b hb=>Or.inl (h.fv b hb),?_⟩,hK2,?_⟩
 · rw [heap_setCell_same w1 p 0 #[kv,vv] T kv' hrow];rfl
 · intro b hb' e
   rcases hb with hb | ⟨b2,hb,hl⟩
   · rw [hb] at hb';exact h.dkv b hb' e
   · rw [hb] at hb';cases hb';have:=h.lt _ (h.fv _ e);omega
 · intro k hk
   rcases hk with hk | hk
   · exact Nat.lt_of_lt_of_le (h.lt k hk) hK2.size
   · rw [World.size_setCell];exact (ho.lt k hk).2
 · intro k hk
   rcases hk with hk | hk
   · exact Or.inl hk
   · rcases hb with hb | ⟨b2,hb,hl⟩
     · rw [hb] at hk;exact Or.inl (h.fk k hk)
     · rw [hb] at hk;cases hk;exact Or.inr hl
theorem dK.store1 {m:Nat} {w w1:World} {T kE vE:TypeId} {p:Nat} {F:Nat->Prop} {kv vv vv':Value} {nk nv n:Nat} {X Y Y':List Value} (h:dK m w T kE vE p F kv vv nk nv X Y)
 (hg:w.grownBy w1 vv.ownBlock) (ho:w1.ownsRow 0 vE m vv' n Y') (hb:vv'.ownBlock=vv.ownBlock\/∃ b,vv'.ownBlock=some b/\w.heap.size<=b) :
 dK m (w1.setCell ⟨p,1,none⟩ vv') T kE vE p (JP F vv') kv vv' nk n X Y'/\aC F w (w1.setCell ⟨p,1,none⟩ vv')/\Cq w F (JP F vv'):=by
 have hK:aC F w w1:=I0 hg h.fv;have hK2:aC F w (w1.setCell ⟨p,1,none⟩ vv'):=hK.setCell (Or.inl h.fp) _;have hrow:w1.heap[p]? = some (.cells #[kv,vv] T (0,0)):=by rw [hg.block p h.plt (fun e=>h.dv e.symm)];exact h.row
 have hdv:vv'.ownBlock ≠ some p:=by
  rcases hb with hb | ⟨b,hb,hl⟩
  · rw [hb];exact h.dv
  · rw [hb];intro e;cases e;have:=h.plt;omega
 have hk1:w1.ownsRow 0 kE 1 kv nk X:=by
  refine h.k.kept hg ?_;cases hkk:kv.ownBlock with
  | none=>exact Or.inl rfl
  | some b=>exact Or.inr (fun e=>h.dkv b hkk e.symm)
 refine ⟨⟨?_,ownsRow_setCell_other hk1 (a:=⟨p,1,none⟩) h.dk _,ownsRow_setCell_other ho (a:=⟨p,1,none⟩) hdv _,h.dk,hdv,?_,Or.inl h.fp,fun b hb=>Or.inl (h.fk b hb),fun b hb=>Or.inr hb,?_⟩,hK2,?_⟩
 · rw [heap_setCell_same w1 p 1 #[kv,vv] T vv' hrow];rfl
 · intro b hkb e
   rcases hb with hb | ⟨b2,hb,hl⟩
   · rw [hb] at e;exact h.dkv b hkb e
   · rw [hb] at e;cases e;have:=h.lt _ (h.fk _ hkb);omega
 · intro k hk
   rcases hk with hk | hk
   · exact Nat.lt_of_lt_of_le (h.lt k hk) hK2.size
   · rw [World.size_setCell];exact (ho.lt k hk).2
 · intro k hk
   rcases hk with hk | hk
   · exact Or.inl hk
   · rcases hb with hb | ⟨b2,hb,hl⟩
     · rw [hb] at hk;exact Or.inl (h.fv k hk)
     · rw [hb] at hk;cases hk;exact Or.inr hl
theorem dK.during {m:Nat} {w w1:World} {T kE vE:TypeId} {p:Nat} {F:Nat->Prop} {kv vv v:Value} {nk nv:Nat} {X Y:List Value} (h:dK m w T kE vE p F kv vv nk nv X Y) (hg:w.grownBy w1 v.ownBlock) (hd:v.ownBlock ≠ some p) :
 w1.cell? ⟨p,0,none⟩=some kv/\w1.cell? ⟨p,1,none⟩=some vv/\w1.frozen? ⟨p,0,none⟩=false/\w1.frozen? ⟨p,1,none⟩=false/\p<w1.heap.size:=by
 have hrow:w1.heap[p]? = some (.cells #[kv,vv] T (0,0)):=by rw [hg.block p h.plt (fun e=>hd e.symm)];exact h.row
 exact ⟨gM hrow,i1 hrow,tA hrow 0,tA hrow 1,lt_of_block hrow⟩
def At (m:Nat) (w w':World) (T kE vE:TypeId) (p:Nat) (F:Nat->Prop) (X Y:List Value):Prop :=
 ∃ F',fE m w' T kE vE p F' X Y/\Cq w F F'/\aC F w w'
theorem dK.both {m:Nat} {w w0 w1 w2 w3:World} {T kE vE:TypeId} {p:Nat} {F:Nat->Prop} {kv vv kv' vv':Value} {nk nv n:Nat} {X Y X' Y':List Value} (h:dK m w T kE vE p F kv vv nk nv X Y)
 (k0:aC (fun _=>False) w w0) (hg:w0.grownBy w1 kv.ownBlock) (ho:w1.ownsRow 0 kE 1 kv' n X') (hb:kv'.ownBlock=kv.ownBlock\/∃ b,kv'.ownBlock=some b/\w0.heap.size<=b)
 (k1:aC (fun _=>False) (w1.setCell ⟨p,0,none⟩ kv') w2) (hg2:w2.grownBy w3 vv.ownBlock) (ho2:w3.ownsRow 0 vE m vv' n Y') (hb2:vv'.ownBlock=vv.ownBlock\/∃ b,vv'.ownBlock=some b/\w2.heap.size<=b) :
 At m w (w3.setCell ⟨p,1,none⟩ vv') T kE vE p F X' Y':=by
 obtain ⟨a1,a2,a3⟩:=(h.kept k0 (fun _ _ h=>h)).store0 hg ho hb;obtain ⟨b1,b2,b3⟩:=(a1.kept k1 (fun _ _ h=>h)).store1 hg2 ho2 hb2;have hs0:=k0.size;have hs1:=a2.size;have hs2:=k1.size;refine ⟨_,b1.mapIn rfl,fun k hk=>?_,?_⟩
 · rcases b3 k hk with h1 | h1
   · rcases a3 k h1 with h2 | h2
     · exact Or.inl h2
     · exact Or.inr (by omega)
   · exact Or.inr (by omega)
 · refine ((k0.mono (T:=F) (fun _ h _=>h.elim)).trans a2 (fun _ h _=>h)).trans ((k1.mono (T:=JP F kv') (fun _ h _=>h.elim)).trans b2 (fun _ h _=>h)) (fun i hi hl=>?_)
   rcases a3 i hi with h2 | h2
   · exact h2
   · omega
end
section
open Go.RowKit
theorem LP (x:ByteArray) (w:World):Calls Tryz.prog 235 #[.string x] w fun e w'=>e=.returned (.bool false)/\w=w':=by
 go_enter Tryz.func235,Tryz.ntmps235
 go_wp2
 go_ret;exact ⟨by simp,rfl⟩
theorem qE (x:ByteArray) (w:World):Calls Tryz.prog 197 #[.string x] w fun e w'=>e=.returned (.bool false)/\w=w':=by
 go_enter Tryz.func197,Tryz.ntmps197
 go_wp2
 go_ret;exact ⟨by simp,rfl⟩
theorem L9 (x y:ByteArray) (b:Bool) (h:lsS x y=b) (w:World):Calls Tryz.prog 196 #[.string x,.string y] w fun e w'=>e=.returned (.bool b)/\w=w':=by
 subst h;go_enter Tryz.func196,Tryz.ntmps196
 go_wp2_with (go_at_call 235;refine (LP _ _).mono ?_;rintro e w' ⟨rfl,rfl⟩)
 go_ret;exact ⟨rfl,rfl⟩
theorem NY {ks:List ByteArray} (hr:aS lsS ks) {x y:ByteArray} {p:Nat} (hp:pos lsS ks x=p) (hy:ks[p]? = some y) (b:Bool) (hb:decide (y=x)=b):b=has ks x:=by
 rw [sC cN hr hp hy,hb]
/-- At a row that rises, of at least one element. -/
theorem zF (g n cap:Nat) (ks:List ByteArray) (x:ByteArray) (w:World) (hn:n<=1000000) (hl:ks.length=n) (hr:aS lsS ks) (hc:∀ j v,(ks.map (Value.string))[j]? = some v->w.cell? ⟨g,j,none⟩=some v) :
 Calls Tryz.prog 151 #[.slice (some ⟨g,0,none⟩) n cap,.string x] w fun e w' =>
  e=.returned (.tuple #[.int .i64 (pos lsS ks x:Nat),.bool (has ks x)])/\∃ q,w'=w.drewN q:=by
 have hS:=pF cN hr x;rw [hl] at hS;obtain ⟨I,hI⟩:∃ I,pos lsS ks x=I:=⟨_,rfl⟩;obtain ⟨B,hB⟩:∃ B,B=has ks x:=⟨_,rfl⟩;have hIn:I<=n:=by rw [<- hI, <- hl];exact pI _ _
 rw [hI] at hS;rw [hI, <- hB];have HE:=aA (p:=∀ y b,ks[I]? = some y->decide (y=x)=b->b=B) (fun y b hy hb=>by rw [hB];exact NY hr hI hy b hb);have HN:=aA (p:=n<=I->false=B) (fun h=>by rw [hB];exact (pP cN hr hI (by omega)).symm);have HC:=aA (p:=∀ t,t<n->w.cell? ⟨g,t,none⟩=some (.string (ks.getD t x))) (fun t ht=>hc t _ (by rw [List.getElem?_map,List.getD_eq_getElem?_getD,List.getElem?_eq_getElem (by omega)];rfl));have HG:=aA (p:=∀ t,t<n->ks[t]? = some (ks.getD t x)) (fun t ht=>by rw [List.getD_eq_getElem?_getD,List.getElem?_eq_getElem (by omega)];rfl);have HS:=aA hS;clear hS hI hB hc hr hl;go_enter Tryz.func151,Tryz.ntmps151
 go_wp2
 go_loopg [7,8] n (fun g s7 s8 wr=>∃ lo hi q:Nat,s7=.int .i64 lo/\s8=.int .i64 hi/\lo<=hi/\hi<=n/\hi-lo<=g/\wr=w.drewN q/\Hid (Lib.bsGo (fun t=>lsS (ks.getD t x) x) g lo hi=I))
 case atStart=>exact ⟨0,n,0,rfl,rfl,Nat.zero_le _,Nat.le_refl _,by omega,rfl,HS⟩
 case round =>
  obtain ⟨lo,hi,q,rfl,rfl,hlh,hin,hg,rfl,hb⟩:=hrel;by_cases hlt:lo<hi
  · have cm:=HC.out ((lo+hi) / 2) (by omega)
    obtain ⟨g',rfl⟩:∃ g',gk=g'+1:=⟨gk-1,by omega⟩;have hb1:=hb.out;clear hb;simp only [Lib.bsGo,hlt,if_true] at hb1;obtain ⟨y,hy⟩:∃ y,ks.getD ((lo+hi) / 2) x=y:=⟨_,rfl⟩;rw [hy] at cm;simp only [hy] at hb1;clear hy;cases hyx:lsS y x <;> simp only [hyx,if_true,Bool.false_eq_true,if_false] at hb1
    · have HB:=aA hb1
      have HY:=aA hyx;clear hb1 hyx;go_wp2_with (first | (go_at_call 196;refine (L9 _ _ _ HY.out _).mono ?_;rintro e w' ⟨rfl,rfl⟩) | (go_at_call 197;refine (qE _ _).mono ?_;rintro e w' ⟨rfl,rfl⟩))
      go_roundg ((lo+hi) / 2-lo)
      case measure=>omega
      case rel=>exact ⟨lo,(lo+hi) / 2,_,rfl,by rw [show ((lo:Int)+(hi:Int)) / 2=(((lo+hi) / 2:Nat):Int) by omega],by omega,by omega,Nat.le_refl _,rfl,aA (by rw [<- HB.out];exact Lib.bsGo_fuel _ _ _ _ _ (Nat.le_refl _) (by omega))⟩
    · have HB:=aA hb1
      have HY:=aA hyx;clear hb1 hyx;go_wp2_with (first | (go_at_call 196;refine (L9 _ _ _ HY.out _).mono ?_;rintro e w' ⟨rfl,rfl⟩) | (go_at_call 197;refine (qE _ _).mono ?_;rintro e w' ⟨rfl,rfl⟩))
      go_roundg (hi-((lo+hi) / 2+1))
      case measure=>omega
      case rel=>exact ⟨(lo+hi) / 2+1,hi,_,by rw [show ((lo:Int)+(hi:Int)) / 2+1=(((lo+hi) / 2+1:Nat):Int) by omega],rfl,by omega,hin,Nat.le_refl _,rfl,aA (by rw [<- HB.out];exact Lib.bsGo_fuel _ _ _ _ _ (Nat.le_refl _) (by omega))⟩
  · obtain rfl:hi=lo:=by omega
    obtain rfl:hi=I:=by
     rw [<- hb.out];cases gk <;> simp [Lib.bsGo]
    clear hb HS;by_cases hn:hi<n
    · have cl:=HC.out hi hn
      have hy:=HG.out hi hn;obtain ⟨y,hyd⟩:∃ y,ks.getD hi x=y:=⟨_,rfl⟩;rw [hyd] at cl hy;clear hyd;have HY:=aA hy;clear hy;by_cases hyx:y=x
      · subst hyx
        have HB:=HE.out y true HY.out (by simp);subst HB;clear HE HN HC HG;go_wp2_with (first | (go_at_call 197;refine (qE _ _).mono ?_;rintro e w' ⟨rfl,rfl⟩))
        go_ret2;exact ⟨rfl,_,rfl⟩
      · have hne:(y.toList == x.toList)=false:=by
         rw [beq_eq_false_iff_ne];intro h;exact hyx (wC h)
        have HB:=HE.out y false HY.out (by simpa using hyx);subst HB;have HX:=aA hyx;clear HE HN HC HG hyx;go_wp2_with (first | (go_at_call 197;refine (qE _ _).mono ?_;rintro e w' ⟨rfl,rfl⟩))
        all_goals (go_ret2;exact ⟨rfl,_,rfl⟩)
    · have HB:=HN.out (by omega)
      subst HB;clear HE HN HC HG;go_wp2_with (first | (go_at_call 197;refine (qE _ _).mono ?_;rintro e w' ⟨rfl,rfl⟩))
      go_ret2;exact ⟨rfl,_,rfl⟩
theorem zG (x:ByteArray) (w:World) :
 Calls Tryz.prog 151 #[.slice none 0 0,.string x] w fun e w'=>e=.returned (.tuple #[.int .i64 (0:Nat),.bool false])/\w'=w:=by
 go_enter Tryz.func151,Tryz.ntmps151
 go_wp2
 go_loop [7,8] (fun s7 s8=>s7=.int .i64 0/\s8=.int .i64 0) (fun _ _=>0)
 case atStart=>exact ⟨rfl,rfl⟩
 case round =>
  obtain ⟨rfl,rfl⟩:=hrel;go_wp2
  go_ret2;exact ⟨rfl,rfl⟩
theorem Kj (v:Value) (n:Nat) (ks:List ByteArray) (x:ByteArray) (w:World) (hn:n<=1000000) (ho:w.ownsRow 0 9 1 v n (ks.map (Value.string))) (hr:aS lsS ks) :
 Calls Tryz.prog 151 #[v,.string x] w fun e w' =>
  e=.returned (.tuple #[.int .i64 (pos lsS ks x:Nat),.bool (has ks x)])/\∃ q,w'=w.drewN q:=by
 rcases eG ho with ⟨rfl,rfl,hx⟩ | ⟨g,cap,cur,rfl,hob,hg,hnc,hm,hs,ht,hx,_⟩
 · obtain rfl:ks=[]:=List.map_eq_nil_iff.1 hx
   refine (zG x w).mono fun e w' ⟨he,hw⟩=>⟨he,0,hw⟩
 · exact zF g n cap ks x w hn (by simpa using hx) hr (fun j v hj=>bJ hg ht hj)
end
section
open Go.RowKit Go.Lib
theorem oI:(Tryz.prog.info? 60).map (fun i=>(i.zero,i.size,i.bytes))=some (some (.agg #[.int .i64 0,.int .i64 0,.string ⟨#[]⟩,.slice none 0 0]),4,56):=by kernel_rfl
theorem Ge (w:World):(Go.sizeOf 60).run Tryz.prog w=.ok 4 w:=by kernel_rfl
theorem I6:Tryz.prog.underlying 3=some (.int .i64):=by kernel_rfl
theorem fH:Tryz.prog.underlying 234=some (.slice 60):=by kernel_rfl
theorem qR:(Tryz.prog.info? 60).map (·.size)=some 4:=by
 obtain ⟨i0,hi0,h0,h1,h2⟩:=info_parts oI;rw [hi0];simp [h1]
theorem j9 {w:World} {vb:Nat} {xa:Array Value} {e:TypeId} (hv:w.heap[vb]? = some (.cells xa e (0,0))):∀ j v,xa.toList[j]? = some v->w.cell? ⟨vb,j,none⟩=some v:=fun j v h=>by
 rw [cell_of_row w vb j xa e (0,0) hv];simpa using h
theorem xP {w:World} {b N:Nat} {cur:Array Value} {cs:List Value} {e:TypeId} (hb:w.heap[b]? = some (.cells cur e (0,0))) (ht:cur.toList.take N=cs):∀ j v,cs[j]? = some v->w.cell? ⟨b,j,none⟩=some v:=fun _ _ h=>bJ hb ht h
theorem xO {w:World} {b:Nat} {cur:Array Value} {e:TypeId} (hb:w.heap[b]? = some (.cells cur e (0,0))):∀ j,j<cur.size->(w.cell? ⟨b,j,none⟩).isSome=true:=fun j h=>by
 rw [cell_of_row w b j cur _ (0,0) hb,Array.getElem?_eq_getElem h];rfl
theorem Ds (b n c i vb:Nat) (cur:Array Value) (cs:List Value) (xa:Array Value) (w:World) (hi:i<n) (hroom:n+1<=c) (hc63:c<=9223372036854775807) (hvb:vb ≠ b) (hxs:xa.size=4)
 (hb:w.heap[b]? = some (.cells cur 60 (0,0))) (hcur:cur.size=c*4) (hcl:cs.length=n*4) (ht:cur.toList.take (n*4)=cs) (hv:w.heap[vb]? = some (.cells xa 60 (0,0))) (h1c:∀ v∈cs,v.oneCell'=true) (h1v:∀ v∈xa.toList,v.oneCell'=true) :
 Calls Tryz.prog 153 #[.slice (some ⟨b,0,none⟩) n c,.int .i64 i,.slice (some ⟨vb,0,none⟩) 1 1] w fun e w' =>
  e=.returned (.slice (some ⟨b,0,none⟩) (n+1) c)/\w'=(w.drew.setCells b (i*4+4) (cs.drop (i*4))).setCells b (i*4) xa.toList:=by
 have hcs:=xP hb ht;have hsp:=xO hb;rw [hcur] at hsp;have hfz:∀ j,w.frozen? ⟨b,j,none⟩=false:=fun j=>frozen_of_row w b j cur _ hb
 have hvs:=j9 hv;have hxl:xa.toList.length=4:=by rw [Array.length_toList,hxs]
 have hz2:¬ ((i:Int)=(n:Int)):=by omega
 have hsa:w.shape? vb=some (60,4):=by simp [World.shape?,hv,hxs]
 have hsb:w.shape? b=some (60,c*4):=by simp [World.shape?,hb,hcur]
 have hov:∀ lb cb,(callFunc 200 #[.slice (some ⟨vb,0,none⟩) 1 1,.slice (some ⟨b,(i+1)*4,none⟩) lb cb]).run Tryz.prog w=.ok (.value (.bool false)) w:=fun lb cb=>by
  rw [run_callFunc_extern Tryz.func200 (by kernel_rfl) (by kernel_rfl) (by kernel_rfl) (e:=Extern.SlicesOverlaps.overlaps #[234,234] #[4]) (by kernel_rfl),
   Lib.run_overlaps_apart w 234 4 60 fH 4 Ge ⟨vb,0,none⟩ ⟨b,(i+1)*4,none⟩ 1 1 lb cb hvb 60 60 4 (c*4) hsa hsb (by omega) (frozen_of_row w vb 0 _ _ hv) (frozen_of_row w vb 4 _ _ hv)]
  rfl
 have hdl:(cs.drop (i*4)).length=(n-i)*4:=by rw [List.length_drop,hcl];omega
 have hw1:IntKind.i64.wrap ((i:Int)+1)=(i:Int)+1:=by rw [IntKind.wrap_i64];omega
 have hin:i<=n:=by omega
 have hb1:(0:Int)<=(i:Int)+1:=by omega
 have htn:((i:Int)+1).toNat=i+1:=by omega
 have hb3:(i:Int)<=(n:Int)+1:=by omega
 have hb2:¬ (c=i+1):=by omega
 have hb4:¬ (c=i):=by omega
 have hcp1:∀ ty dc sc,(Builtin.copy_ #[234,234] ty #[.slice (some ⟨b,(i+1)*4,none⟩) (n-i) dc,.slice (some ⟨b,i*4,none⟩) (n+1-i) sc]).run Tryz.prog w.drew=.ok (goInt (Nat.min (n+1-i) (n-i))) (w.drew.setCells b (i*4+4) (cs.drop (i*4))):=fun ty dc sc=>by
  rw [show (i+1)*4=i*4+4 by omega]
  exact lN w.drew _ _ ty 60 4 b (i*4+4) (n-i) dc ⟨b,i*4,none⟩ (n+1-i) sc (cs.drop (i*4)) fH qR (by rw [hdl];simp only [Nat.min_def];split <;> omega)
   (fun j v hj=>by rw [Addr.add_lit];exact hcs (i*4+j) v (by rwa [List.getElem?_drop] at hj))
   (fun j hj=>hsp _ (by omega)) (fun j hj=>hfz _) (fun v hv=>h1c v (List.mem_of_mem_drop hv))
 obtain ⟨W1,hW1⟩:∃ W1,W1=w.drew.setCells b (i*4+4) (cs.drop (i*4)):=⟨_,rfl⟩
 have hsp1:∀ k,k<c*4->(W1.cell? ⟨b,k,none⟩).isSome=true:=fun k hk=>by
  rw [hW1];exact isSome_setCells b (cs.drop (i*4)) (i*4+4) w.drew (fun j hj=>hsp _ (by omega)) _ (hsp k hk)
 have hcp2:∀ (W:World),(∀ x,W.cell? x=W1.cell? x)->(∀ x,W.frozen? x=W1.frozen? x)->∀ ty dc,(Builtin.copy_ #[234,234] ty #[.slice (some ⟨b,i*4,none⟩) (n+1-i) dc,.slice (some ⟨vb,0,none⟩) 1 1]).run Tryz.prog W=.ok (goInt (Nat.min 1 (n+1-i))) (W.setCells b (i*4) xa.toList):=fun W hWc hWf ty dc =>
  lN W _ _ ty 60 4 b (i*4) (n+1-i) dc ⟨vb,0,none⟩ 1 1 xa.toList fH qR (by rw [hxl];simp only [Nat.min_def];split <;> omega)
   (fun j v hj=>by
    rw [Addr.add_lit,Nat.zero_add,hWc,hW1,World.cell?_setCells_out b _ _ _ _ (fun h _=>absurd h hvb)];exact hvs j v hj)
   (fun j hj=>by rw [hWc];exact hsp1 _ (by omega)) (fun j hj=>by rw [hWf,hW1,World.frozen?_setCells];exact hfz _) h1v
 rw [<- hW1] at hcp1;clear hcs hsp hfz hvs hsa hsb hdl hsp1 hb hcur ht hv h1c h1v hxl hcl hxs;go_enter Tryz.func153,Tryz.ntmps153
 go_wp2_with (simp only [hov])
 go_region_law (refine step_copy_runI rfl _ _ 234 234 rfl _ _ (by simp [Act.eval,Act.put]) (by simp [Act.eval,Act.put]) (hcp1 _ _ _) ?_)
 go_wp2_with (at_builtin;refine wpList_copy_runI _ rfl _ _ 234 234 rfl _ _ rfl rfl (hcp2 _ (fun _=>rfl) (fun _=>rfl) _ _) ?_)
 go_ret;first | exact ⟨rfl,rfl⟩ | exact ⟨rfl,by rw [hW1]⟩
theorem Gf (b n c vb:Nat) (cur:Array Value) (xa:Array Value) (w:World) (hroom:n+1<=c) (hc63:c<=9223372036854775807) (hxs:xa.size=4)
 (hb:w.heap[b]? = some (.cells cur 60 (0,0))) (hcur:cur.size=c*4) (hv:w.heap[vb]? = some (.cells xa 60 (0,0))) (h1v:∀ v∈xa.toList,v.oneCell'=true) :
 Calls Tryz.prog 153 #[.slice (some ⟨b,0,none⟩) n c,.int .i64 n,.slice (some ⟨vb,0,none⟩) 1 1] w fun e w' =>
  e=.returned (.slice (some ⟨b,0,none⟩) (n+1) c)/\w'=w.setCells b (n*4) xa.toList:=by
 obtain ⟨i0,hi0,hz0,hzs,hzb⟩:=info_parts oI;have hxl:xa.toList.length=4:=by rw [Array.length_toList,hxs]
 have hsrc:Src Tryz.prog i0.size 234 (.slice (some ⟨vb,0,none⟩) 1 1) 1 xa.toList w:=by
  rw [hzs];exact Src.ofSlice w fH ⟨vb,0,none⟩ 1 1 xa.toList (by rw [hxl]) (fun j u hj=>by rw [Addr.add_lit,Nat.zero_add];exact j9 hv j u hj) h1v
 have hsp:∀ j,j<xa.toList.length->(w.cell? ⟨b,0+n*i0.size+j,none⟩).isSome=true:=fun j h=>xO hb _ (by rw [hcur,hzs];omega)
 have hfz:∀ j,j<xa.toList.length->w.frozen? ⟨b,0+n*i0.size+j,none⟩=false:=fun j _=>frozen_of_row w b _ cur _ hb
 clear hb hcur hv h1v hxl hxs;have H:=aA hzs;clear hzs hzb hz0;go_enter Tryz.func153,Tryz.ntmps153
 go_wp2_with (at_builtin;refine wpList_append_room_src _ rfl _ _ 234 234 rfl 60 i0 fH hi0 b 0 n c rfl _ rfl 1 xa.toList hsrc hroom hsp hfz ?_)
 go_ret;exact ⟨rfl,by rw [H.out]⟩
theorem BR (base:Option Addr) (n c vb:Nat) (cs:List Value) (xa:Array Value) (w:World) (hnc:n<=c) (hroom:c<n+1) (hbig:(n+1)*56<=140737488355328) (hxs:xa.size=4)
 (hcl:cs.length=n*4) (hnil:base=none->n=0) (hcs:∀ a,base=some a->∀ j v,cs[j]? = some v->w.cell? (a.add j)=some v) (hv:w.heap[vb]? = some (.cells xa 60 (0,0))) (h1v:∀ v∈xa.toList,v.oneCell'=true) :
 Calls Tryz.prog 153 #[.slice base n c,.int .i64 n,.slice (some ⟨vb,0,none⟩) 1 1] w fun e w' =>
  e=.returned (.slice (some ⟨w.heap.size,0,none⟩) (n+1) (grownCap w (n+1) c 60)) /\
  w'=w.drew.alloc (.cells ((cs++xa.toList).toArray++Builtin.zeroCells (.agg #[.int .i64 0,.int .i64 0,.string ⟨#[]⟩,.slice none 0 0]:Value).cells (grownCap w (n+1) c 60-(n+1))) 60):=by
 obtain ⟨i0,hi0,hz0,hzs,hzb⟩:=info_parts oI;have hxl:xa.toList.length=4:=by rw [Array.length_toList,hxs]
 have hsrc:Src Tryz.prog i0.size 234 (.slice (some ⟨vb,0,none⟩) 1 1) 1 xa.toList w:=by
  rw [hzs];exact Src.ofSlice w fH ⟨vb,0,none⟩ 1 1 xa.toList (by rw [hxl]) (fun j u hj=>by rw [Addr.add_lit,Nat.zero_add];exact j9 hv j u hj) h1v
 have hold:(Builtin.firstCells i0.size n (.slice base n c)).run Tryz.prog w.drew=.ok cs.toArray w.drew:=by
  rw [hzs];cases base with
  | none =>
    have h0:=hnil rfl;subst h0;rw [List.length_eq_zero_iff.1 (show cs.length=0 by simpa using hcl)];exact run_firstCells_none w.drew 4 0 0 c
  | some a=>exact run_firstCells_some w.drew 4 n a n c cs hcl (fun j v hj=>hcs a rfl j v hj)
 have hrun:∀ ty,(Builtin.append_ #[234,234] ty #[.slice base n c,.slice (some ⟨vb,0,none⟩) 1 1]).run Tryz.prog w=_:=fun ty =>
  run_append_grow_src w 234 234 ty 60 i0 _ fH hi0 hz0 base n c cs hold _ 1 xa.toList hsrc hroom (by omega) (by rw [hzb];exact growslice_fits hroom hbig)
 clear hv h1v hcs hold hsrc hxl hxs;go_enter Tryz.func153,Tryz.ntmps153
 cases base with
 | none =>
   have h0:=hnil rfl;subst h0;go_wp2_with (at_builtin;refine Lib.wpList_append_run _ rfl _ _ _ _ rfl _ _ rfl rfl _ _ (hrun _) ?_)
   go_ret;exact ⟨rfl,rfl⟩
 | some a =>
   obtain ⟨ab,ao,asp⟩:=a;go_wp2_with (at_builtin;refine Lib.wpList_append_run _ rfl _ _ _ _ rfl _ _ rfl rfl _ _ (hrun _) ?_)
   all_goals (go_ret;exact ⟨rfl,rfl⟩)
theorem Gg (b n c i vb:Nat) (cur:Array Value) (cs:List Value) (xa:Array Value) (w:World) (hi:i<n) (hnc:n<=c) (hroom:c<n+1) (hbig:(n+1)*56<=140737488355328) (hxs:xa.size=4)
 (hb:w.heap[b]? = some (.cells cur 60 (0,0))) (hcl:cs.length=n*4) (ht:cur.toList.take (n*4)=cs) (hv:w.heap[vb]? = some (.cells xa 60 (0,0))) (h1c:∀ v∈cs,v.oneCell'=true) (h1v:∀ v∈xa.toList,v.oneCell'=true) :
 Calls Tryz.prog 153 #[.slice (some ⟨b,0,none⟩) n c,.int .i64 i,.slice (some ⟨vb,0,none⟩) 1 1] w fun e w' =>
  e=.returned (.slice (some ⟨w.heap.size,0,none⟩) (n+1) (grownCap w (n+1) c 60)) /\
  w'=(((w.alloc (.cells ((cs.take (i*4)).toArray++Builtin.zeroCells (.agg #[.int .i64 0,.int .i64 0,.string ⟨#[]⟩,.slice none 0 0]:Value).cells (n+1-i)++Builtin.zeroCells (.agg #[.int .i64 0,.int .i64 0,.string ⟨#[]⟩,.slice none 0 0]:Value).cells (grownCap w (n+1) c 60-(n+1))) 60)).drew.setCells w.heap.size (i*4) xa.toList).drew).setCells w.heap.size (i*4+4) (cs.drop (i*4)):=by
 have hcs:=xP hb ht;have hvs:=j9 hv;have hxl:xa.toList.length=4:=by rw [Array.length_toList,hxs]
 obtain ⟨i0,hi0,hz0,hzs,hzb⟩:=info_parts oI;have hz2:¬ ((i:Int)=(n:Int)):=by omega
 have hz3:(c:Int)<(n:Int)+1:=by omega
 have hbw:b<w.heap.size:=lt_of_block hb;have hvw:vb<w.heap.size:=lt_of_block hv;have hkk:(n:Int)+1-(i:Int)=((n+1-i:Nat):Int):=by omega
 have hik:i+(n+1-i)=n+1:=by omega
 have hold:(Builtin.firstCells i0.size i (.slice (some ⟨b,0,none⟩) i c)).run Tryz.prog w.drew=.ok (cs.take (i*4)).toArray w.drew:=by
  rw [hzs]
  exact run_firstCells_some w.drew 4 i ⟨b,0,none⟩ i c (cs.take (i*4)) (by rw [List.length_take];omega) (fun j v hj=>by
   rw [Addr.add_lit,Nat.zero_add];rw [List.getElem?_take] at hj;split at hj
   · exact hcs j v hj
   · cases hj)
 have hrz:∀ ty,(Builtin.append_ #[234,3] ty #[.slice (some ⟨b,0,none⟩) i c,.int .i64 ((n:Int)+1-(i:Int))]).run Tryz.prog w =
  .ok (.slice (some ⟨w.heap.size,0,none⟩) (n+1) (grownCap w (n+1) c 60)) (w.drew.alloc (.cells ((cs.take (i*4)).toArray++Builtin.zeroCells (.agg #[.int .i64 0,.int .i64 0,.string ⟨#[]⟩,.slice none 0 0]:Value).cells (n+1-i)++Builtin.zeroCells (.agg #[.int .i64 0,.int .i64 0,.string ⟨#[]⟩,.slice none 0 0]:Value).cells (grownCap w (n+1) c 60-(n+1))) 60)):=fun ty=>by
  have h:=Lib.run_append_grow_zeros w 234 3 ty 60 i0 _ .i64 .i64 fH I6 hi0 hz0 (some ⟨b,0,none⟩) i c (cs.take (i*4)) hold (n+1-i) (by omega) (by rw [hzs];omega) (by omega) (by omega) (by rw [hzb];omega) (by rw [hzb,hik];exact growslice_fits hroom hbig);rw [hik] at h;rw [hkk];exact h
 obtain ⟨G,hG⟩:∃ G,G=grownCap w (n+1) c 60:=⟨_,rfl⟩;obtain ⟨ROW,hROW⟩:∃ ROW:Array Value,ROW=(cs.take (i*4)).toArray++Builtin.zeroCells (.agg #[.int .i64 0,.int .i64 0,.string ⟨#[]⟩,.slice none 0 0]:Value).cells (n+1-i)++Builtin.zeroCells (.agg #[.int .i64 0,.int .i64 0,.string ⟨#[]⟩,.slice none 0 0]:Value).cells (G-(n+1)):=⟨_,rfl⟩;rw [<- hG] at hrz |-
 rw [<- hROW] at hrz |-
 have hRl:(n+1)*4<=ROW.size:=by
  rw [hROW];simp [Builtin.zeroCells,Value.cells];omega
 obtain ⟨W1,hW1⟩:∃ W1,W1=w.drew.alloc (.cells ROW 60):=⟨_,rfl⟩;rw [<- hW1] at hrz
 have hN:∀ j,j<(n+1)*4->(W1.cell? ⟨w.heap.size,j,none⟩).isSome=true:=fun j hj=>by
  rw [hW1,World.cell?_alloc_at (w:=w.drew) ROW _ w.heap.size j rfl,Array.getElem?_eq_getElem (by omega)];rfl
 have hNf:∀ j,W1.frozen? ⟨w.heap.size,j,none⟩=false:=fun j=>by rw [hW1];exact World.frozen?_alloc_at (w:=w.drew) ROW _ w.heap.size j rfl
 have hOb:∀ j v,w.cell? ⟨b,j,none⟩=some v->W1.cell? ⟨b,j,none⟩=some v:=fun j v h=>by rw [hW1,World.cell?_alloc_past (w:=w.drew) _ b j hbw];exact h
 have hOv:∀ j v,w.cell? ⟨vb,j,none⟩=some v->W1.cell? ⟨vb,j,none⟩=some v:=fun j v h=>by rw [hW1,World.cell?_alloc_past (w:=w.drew) _ vb j hvw];exact h
 have hcpA:∀ (W:World),(∀ x,W.cell? x=W1.cell? x)->(∀ x,W.frozen? x=W1.frozen? x)->∀ ty dc,(Builtin.copy_ #[234,234] ty #[.slice (some ⟨w.heap.size,i*4,none⟩) (n+1-i) dc,.slice (some ⟨vb,0,none⟩) 1 1]).run Tryz.prog W=.ok (goInt (Nat.min 1 (n+1-i))) (W.setCells w.heap.size (i*4) xa.toList):=fun W hWc hWf ty dc =>
  lN W _ _ ty 60 4 w.heap.size (i*4) (n+1-i) dc ⟨vb,0,none⟩ 1 1 xa.toList fH qR (by rw [hxl];simp only [Nat.min_def];split <;> omega)
   (fun j v hj=>by rw [Addr.add_lit,Nat.zero_add,hWc];exact hOv _ v (hvs j v hj))
   (fun j hj=>by rw [hWc];exact hN _ (by omega)) (fun j hj=>by rw [hWf];exact hNf _) h1v
 have hGn:n+1<=G:=by rw [hG];exact grownCap_ge w _ _ _
 have hG63:G<=9223372036854775807:=by
  have:=grownCap_le_maxLen w (n+1) c 60 (by unfold maxLen;omega);rw [<- hG] at this;unfold maxLen at this;omega
 have hGi:¬ (G=i):=by omega
 have hGim:¬ (G=i+1):=by omega
 have hci:¬ (c=i):=by omega
 have hbN:b ≠ w.heap.size:=by omega
 have hdl:(cs.drop (i*4)).length=(n-i)*4:=by rw [List.length_drop,hcl];omega
 have hcpB:∀ (W:World),(∀ y,W.cell? y=(W1.setCells w.heap.size (i*4) xa.toList).cell? y)->(∀ y,W.frozen? y=(W1.setCells w.heap.size (i*4) xa.toList).frozen? y)->∀ ty dc sc,(Builtin.copy_ #[234,234] ty #[.slice (some ⟨w.heap.size,(i+1)*4,none⟩) (n-i) dc,.slice (some ⟨b,i*4,none⟩) (n-i) sc]).run Tryz.prog W=.ok (goInt (Nat.min (n-i) (n-i))) (W.setCells w.heap.size (i*4+4) (cs.drop (i*4))):=fun W hWc hWf ty dc sc=>by
  rw [show (i+1)*4=i*4+4 by omega]
  exact lN W _ _ ty 60 4 w.heap.size (i*4+4) (n-i) dc ⟨b,i*4,none⟩ (n-i) sc (cs.drop (i*4)) fH qR (by rw [hdl];simp only [Nat.min_def];split <;> omega)
   (fun j v hj=>by
    rw [Addr.add_lit,hWc,World.cell?_setCells_out _ _ _ _ _ (fun h _=>absurd h hbN)];exact hOb _ v (hcs (i*4+j) v (by rwa [List.getElem?_drop] at hj)))
   (fun j hj=>by rw [hWc];exact isSome_setCells _ xa.toList (i*4) W1 (fun t ht=>hN _ (by omega)) _ (hN _ (by omega)))
   (fun j hj=>by rw [hWf,World.frozen?_setCells];exact hNf _) (fun v hv=>h1c v (List.mem_of_mem_drop hv))
 subst hW1;have hE1:∀ x,((w.alloc (.cells ROW 60)).drew).cell? x=(w.drew.alloc (.cells ROW 60)).cell? x:=fun x=>rfl
 have hE2:∀ x,((w.alloc (.cells ROW 60)).drew).frozen? x=(w.drew.alloc (.cells ROW 60)).frozen? x:=fun x=>rfl
 have hF1:∀ y,(((w.alloc (.cells ROW 60)).drew.setCells w.heap.size (i*4) xa.toList).drew).cell? y=((w.drew.alloc (.cells ROW 60)).setCells w.heap.size (i*4) xa.toList).cell? y:=fun y=>rfl
 have hF2:∀ y,(((w.alloc (.cells ROW 60)).drew.setCells w.heap.size (i*4) xa.toList).drew).frozen? y=((w.drew.alloc (.cells ROW 60)).setCells w.heap.size (i*4) xa.toList).frozen? y:=fun y=>rfl
 have hw1:IntKind.i64.wrap ((i:Int)+1)=(i:Int)+1:=by rw [IntKind.wrap_i64];omega
 have hb1:(0:Int)<=(i:Int)+1:=by omega
 have hin:i<=n:=by omega
 have htn:((i:Int)+1).toNat=i+1:=by omega
 have hb3:(i:Int)<=(n:Int):=by omega
 have hb5:(i:Int)<=(n:Int)+1:=by omega
 clear hkk hik hold hROW hG hRl hb ht hv h1c h1v hcs hvs hN hNf hOb hOv hdl hxl hxs hcl;go_enter Tryz.func153,Tryz.ntmps153
 go_wp2_with (first
  | (at_builtin;refine Lib.wpList_append_run _ rfl _ _ _ _ rfl _ _ rfl rfl _ _ (hrz _) ?_)
  | (at_builtin;refine wpList_copy_runI _ rfl _ _ 234 234 rfl _ _ rfl rfl (hcpA _ hE1 hE2 _ _) ?_)
  | (at_builtin;refine wpList_copy_runI _ rfl _ _ 234 234 rfl _ _ rfl rfl (hcpB _ (fun _=>rfl) (fun _=>rfl) _ _ _) ?_))
 go_region_law (refine step_copy_runI rfl _ _ 234 234 rfl (.slice (some ⟨w.heap.size,(i+1)*4,none⟩) (n-i) (G-(i+1))) (.slice (some ⟨b,i*4,none⟩) (n-i) (c-i)) (by simp [Act.eval,Act.put]) (by simp [Act.eval,Act.put]) (hcpB _ hF1 hF2 3 (G-(i+1)) (c-i)) ?_)
 go_wp2
 go_ret;exact ⟨rfl,rfl⟩
theorem NQ (v:Value) (n i vb:Nat) (xs:List Value) (xa:Array Value) (w:World) (hn:n<=1000000) (hi:i<=n) (ho:w.ownsRow 0 60 4 v n xs) (hxs:xa.size=4) (hv:w.heap[vb]? = some (.cells xa 60 (0,0))) (hne:v.ownBlock ≠ some vb)
 (h1c:∀ u∈xs,u.oneCell'=true) (h1v:∀ u∈xa.toList,u.oneCell'=true) :
 Calls Tryz.prog 153 #[v,.int .i64 i,.slice (some ⟨vb,0,none⟩) 1 1] w fun e w'=>JV w w' 60 4 v (n+1) (xs.take (i*4)++xa.toList++xs.drop (i*4)) e:=by
 have hxl:xa.toList.length=4:=by rw [Array.length_toList,hxs]
 have hzc:∀ k,(Builtin.zeroCells (.agg #[.int .i64 0,.int .i64 0,.string ⟨#[]⟩,.slice none 0 0]:Value).cells k).size=k*4:=fun k=>by simp [Builtin.zeroCells,Value.cells]
 rcases j3 ho with ⟨rfl,rfl,rfl⟩ | ⟨g,cap,cur,rfl,hob,hg,hnc,hm,hs,ht,hx⟩
 · obtain rfl:i=0:=by omega
   refine (BR none 0 0 vb [] xa w (Nat.le_refl _) (by omega) (by omega) hxs rfl (fun _=>rfl) (fun a h=>by cases h) hv h1v).mono fun e w' ⟨he,hw⟩=>?_
   subst hw;refine ⟨_,he,kT (heap_alloc_new _ _) (grownCap_ge w (0+1) 0 60) (grownCap_le_maxLen w (0+1) 0 60 (by unfold maxLen;omega)) ?_ ?_,aV (S:=fun _=>False) (((aC.refl _ w).drew).alloc _) (fun _ h=>h.elim),.inr ⟨_,rfl,Nat.le_refl _⟩⟩
   · have:=grownCap_ge w (0+1) 0 60
     rw [Array.size_append,hzc,List.size_toArray,List.nil_append,hxl];omega
   · rw [Array.toList_append,List.take_append_of_le_length (by simp [hxs]),List.take_of_length_le (by simp [hxs])];simp
 · have hne':vb ≠ g:=fun h=>hne (by rw [hob,h])
   have hm':cap<=9223372036854775807:=by unfold maxLen at hm;omega
   by_cases hr:n+1<=cap
   · by_cases hin:i=n
     · subst hin
       refine (Gf g i cap vb cur xa w hr hm' hxs hg hs hv h1v).mono fun e w' ⟨he,hw⟩=>?_
       subst hw;obtain ⟨c2,h2,s2,t2⟩:=GR (C:=cap*4) hg hs ht hx hxl (by omega);refine ⟨_,he,kT h2 hr hm s2 ?_,aV (S:=(· = g)) (aM g _ _ _) (fun k hk=>by subst hk;rfl),.inl rfl⟩;rw [show (i+1)*4=i*4+4 by omega,t2,List.take_of_length_le (by omega:xs.length<=i*4),List.drop_of_length_le (by omega:xs.length<=i*4),List.append_nil]
     · refine (Ds g n cap i vb cur xs xa w (by omega) hr hm' hne' hxs hg hs hx ht hv h1c h1v).mono fun e w' ⟨he,hw⟩=>?_
       subst hw;obtain ⟨c2,h2,s2,t2⟩:=DI (I:=i*4) (C:=cap*4) hg hs ht hx (by omega) hxl (by omega);refine ⟨_,he,kT h2 hr hm s2 ?_,aV (S:=(· = g)) (((aC.refl (· = g) w).drew.trans (aM g _ _ _) (fun _ h _=>h)).trans (aM g _ _ _) (fun _ h _=>h)) (fun k hk=>by subst hk;rfl),.inl rfl⟩;rw [show (n+1)*4=n*4+4 by omega,t2]
   · have hG1:=grownCap_ge w (n+1) cap 60
     have hG2:=grownCap_le_maxLen w (n+1) cap 60 (by unfold maxLen;omega);by_cases hin:i=n
     · subst hin
       refine (BR (some ⟨g,0,none⟩) i cap vb xs xa w hnc (by omega) (by omega) hxs hx (fun h=>by cases h) (fun a ha j u hj=>by cases ha;rw [Addr.add_lit,Nat.zero_add];exact bJ hg ht hj) hv h1v).mono fun e w' ⟨he,hw⟩=>?_
       subst hw;refine ⟨_,he,kT (heap_alloc_new _ _) hG1 hG2 ?_ ?_,aV (S:=fun _=>False) (((aC.refl _ w).drew).alloc _) (fun _ h=>h.elim),.inr ⟨_,rfl,Nat.le_refl _⟩⟩
       · rw [Array.size_append,hzc,List.size_toArray,List.length_append,hx,hxl];omega
       · have hl:(xs++xa.toList).length=(i+1)*4:=by rw [List.length_append,hx,hxl];omega
         rw [Array.toList_append,List.take_append_of_le_length (by rw [<- hl];simp),List.take_of_length_le (by rw [<- hl];simp),List.take_of_length_le (by omega:xs.length<=i*4),List.drop_of_length_le (by omega:xs.length<=i*4),List.append_nil]
     · refine (Gg g n cap i vb cur xs xa w (by omega) hnc (by omega) (by omega) hxs hg hx ht hv h1c h1v).mono fun e w' ⟨he,hw⟩=>?_
       subst hw;obtain ⟨c2,h2,s2,t2⟩:=GS (w:=w) (e:=60) (I:=i*4) (N:=n*4) (M:=4) (C:=grownCap w (n+1) cap 60*4) (Y:=Builtin.zeroCells (.agg #[.int .i64 0,.int .i64 0,.string ⟨#[]⟩,.slice none 0 0]:Value).cells (n+1-i)) (Z:=Builtin.zeroCells (.agg #[.int .i64 0,.int .i64 0,.string ⟨#[]⟩,.slice none 0 0]:Value).cells (grownCap w (n+1) cap 60-(n+1))) hx (by omega) hxl (by omega) (by rw [hzc];omega) (by rw [hzc];omega)
       have k0:aC (fun k=>k=w.heap.size) w ((((w.alloc (.cells ((xs.take (i*4)).toArray++Builtin.zeroCells (.agg #[.int .i64 0,.int .i64 0,.string ⟨#[]⟩,.slice none 0 0]:Value).cells (n+1-i)++Builtin.zeroCells (.agg #[.int .i64 0,.int .i64 0,.string ⟨#[]⟩,.slice none 0 0]:Value).cells (grownCap w (n+1) cap 60-(n+1))) 60)).drew.setCells w.heap.size (i*4) xa.toList).drew).setCells w.heap.size (i*4+4) (xs.drop (i*4))) :=
        ((((aC.refl (fun k=>k=w.heap.size) w).alloc _).drew.trans (aM w.heap.size _ _ _) (fun _ h _=>h)).drew).trans (aM w.heap.size _ _ _) (fun _ h _=>h)
       refine ⟨_,he,kT h2 hG1 hG2 s2 ?_,aV (S:=fun _=>False) (k0.mono (fun k hk hl=>by omega)) (fun _ h=>h.elim),.inr ⟨_,rfl,Nat.le_refl _⟩⟩;rw [show (n+1)*4=n*4+4 by omega,t2]
end
section
open Go.RowKit
theorem wY (s:ByteArray) (hm:s.size<=281474976710656) (w:World):Calls Tryz.prog 148 #[.string s] w fun e w'=>e=.returned (.int .i64 (GJ s.data.toList))/\w=w':=by
 have hlen:s.data.toList.length=s.size:=by simp
 by_cases hl:64<s.size
 · have R:=aA (show GJ s.data.toList=4 by unfold GJ;rw [hlen,if_pos hl])
   go_enter Tryz.func148,Tryz.ntmps148
   go_wp2
   go_ret;exact ⟨fN R.out.symm,rfl⟩
 · have R:=aA (show GJ s.data.toList=if s.data.toList.any wF then 2 else 0 by unfold GJ;rw [hlen,if_neg hl])
   clear hlen;go_enter Tryz.func148,Tryz.ntmps148
   go_wp2
   go_loop [10] (fun i=>∃ k:Nat,k<=s.size/\i=.int .i64 k/\Hid (∀ j (hj:j<s.size),j<k->wF s[j]=false)) (fun i=>s.size-(intOf i).toNat)
   case atStart=>exact ⟨0,Nat.zero_le _,rfl,aA (fun j _ h=>by omega)⟩
   case round =>
    obtain ⟨k,hk,rfl,hok⟩:=hrel;by_cases hlt:k<s.size
    · obtain ⟨c,hc⟩:∃ c:Int,(s[k].toNat:Int)=c:=⟨_,rfl⟩
      have hb:wF s[k]=(decide (c<32) || decide (126<c) || decide (c=34)):=by unfold wF;rw [hc]
      have hcase:c<32\/126<c\/c=34\/(32<=c/\c<=126/\¬ c=34):=by omega
      rcases hcase with h1 | h1 | h1 | ⟨h1,h2,h3⟩
      · have h2:=h1
        have R2:=aA (R.out.trans (by rw [if_pos (wI hlt (by rw [hb];first | (simp;done) | (simp;omega)))]));clear hb R hok;go_wp2
        go_ret;exact ⟨fN R2.out.symm,rfl⟩
      · have h2:¬ c<32:=by omega
        have R2:=aA (R.out.trans (by rw [if_pos (wI hlt (by rw [hb];first | (simp;done) | (simp;omega)))]));clear hb R hok;go_wp2
        go_ret;exact ⟨fN R2.out.symm,rfl⟩
      · subst h1
        have R2:=aA (R.out.trans (by rw [if_pos (wI hlt (by rw [hb];first | (simp;done) | (simp;omega)))]));clear hb R hok;go_wp2
        go_ret;exact ⟨fN R2.out.symm,rfl⟩
      · have hok1:=aA (show ∀ j (hj:j<s.size),j<k+1->wF s[j]=false from fun j hj hjk=>by
         by_cases e:j=k
         · subst e;rw [hb];simp;omega
         · exact hok.out j hj (by omega))
        have h4:(c == 34)=false:=by simpa using h3
        clear hb h3;go_wp2
        go_round
        case rel=>exact ⟨k+1,by omega,by go_num,hok1⟩
        case measure=>simp [intOf];omega
    · go_wp2
      go_ret;exact ⟨fN (by rw [R.out,Ob fun j hj=>hok.out j hj (by omega)];rfl),rfl⟩
theorem wZ (a:Option Addr) (len cap:Nat) (z:Nat->Int) (w:World) (hr:Reads w a len z) :
 Calls Tryz.prog 149 #[.slice a len cap] w fun e w'=>e=.returned (.int .i64 (errL (upTo z len)))/\∃ n,w'=w.drewN n:=by
 obtain ⟨hmax,hr⟩:=hr;unfold maxLen at hmax;have hlen:=AB z len;by_cases hl:16<len
 · have R:=aA (show errL (upTo z len)=4 by unfold errL;rw [hlen,if_pos hl])
   clear hr hlen;go_enter Tryz.func149,Tryz.ntmps149
   go_wp2
   go_ret;exact ⟨fN R.out.symm,0,rfl⟩
 · have R:=aA (show errL (upTo z len)=if risesB (upTo z len) then 0 else 2 by unfold errL;rw [hlen,if_neg hl])
   clear hlen;rcases hr with rfl | ⟨b,off,rfl,hc⟩
   · go_enter Tryz.func149,Tryz.ntmps149
     go_wp2
     go_loopw [3] (fun i wr=>i=.int .i64 1/\wr=w) (fun _ _=>0)
     case atStart=>exact ⟨rfl,rfl⟩
     case round =>
      obtain ⟨rfl,rfl⟩:=hrel;go_wp2
      go_ret;exact ⟨fN (by rw [R.out];rfl),0,rfl⟩
   · have hcc:=aA hc
     clear hc;go_enter Tryz.func149,Tryz.ntmps149
     go_wp2
     go_loopw [3] (fun i wr=>∃ k:Nat,1<=k/\(k<=len\/k=1)/\i=.int .i64 k/\Hid (∀ j,j+1<k->j+1<len->z j<z (j+1))/\Hid (∃ n,wr=w.drewN n)) (fun i _=>len-(intOf i).toNat)
     case atStart=>exact ⟨1,Nat.le_refl _,.inr rfl,rfl,aA (fun j h=>by omega),aA ⟨0,rfl⟩⟩
     case round =>
      obtain ⟨k,h1,hk,rfl,hok,hw⟩:=hrel;by_cases hlt:k<len
      · obtain ⟨n,rfl⟩:=hw.out
        have c1:=hcc.out k hlt;have c0:=hcc.out (k-1) (by omega);go_wp2
        have e1:IntKind.i64.wrap ((k:Int)-1)=(k:Int)-1:=IntWalk.i64_in _ (by omega);have e2:0<=(k:Int)-1:=by omega
        have e3:((k:Int)-1).toNat=k-1:=by omega
        have e4:(k:Int)-1<len:=by omega
        go_quiet (fail)
        clear e1 e2 e3 e4;by_cases hz:z k<=z (k-1)
        · have hno:=aA (show ¬ risesB (upTo z len)=true from fun h=>by
           have:=uA.1 h (k-1) (by omega);rw [show k-1+1=k by omega] at this;omega)
          go_wp2
          go_ret;exact ⟨fN (by rw [R.out,if_neg hno.out]),_,World.drewN_drewN _ _ _⟩
        · have hok1:=aA (show ∀ j,j+1<k+1->j+1<len->z j<z (j+1) from fun j hj hl=>by
           by_cases e:j+1=k
           · rw [e,show j=k-1 by omega];omega
           · exact hok.out j (by omega) hl)
          go_wp2
          go_roundw
          case rel=>exact ⟨k+1,by omega,.inl (by omega),by go_num,hok1,aA ⟨_,rfl⟩⟩
          case measure=>simp [intOf];omega
      · go_wp2
        go_ret;exact ⟨fN (by rw [R.out,if_pos (uA.2 fun j hj=>hok.out j (by omega) hj)]),hw.out⟩
theorem GZ (k n:Int) (s:ByteArray) (hm:s.size<=281474976710656) (a:Option Addr) (len cap:Nat) (z:Nat->Int) (w:World) (hr:Reads w a len z) :
 Calls Tryz.prog 93 #[val k n s (.slice a len cap)] w fun e w'=>e=.returned (.int .i64 (errV k s len z))/\Below w.heap.size w w':=by
 unfold val;have hr1:∀ o,Reads (w.alloc o) a len z:=fun o=>hr.kept (bA0 _ _)
 have hr2:=aA hr1;clear hr1;by_cases h1:k=1
 · subst h1
   go_enter Tryz.func93,Tryz.ntmps93
   go_wp2_with fail
   go_ret;exact ⟨rfl,bA0 _ _⟩
 have h1':(k == 1)=false:=by simpa using h1
 by_cases h2:k=2
 · subst h2
   go_enter Tryz.func93,Tryz.ntmps93
   go_wp2_with (go_at_call 148;refine (wY s hm _).mono ?_;rintro e w' ⟨rfl,rfl⟩)
   go_ret;exact ⟨rfl,bA0 _ _⟩
 have h2':(k == 2)=false:=by simpa using h2
 by_cases h3:k=3
 · subst h3
   go_enter Tryz.func93,Tryz.ntmps93
   go_wp2_with (go_at_call 149;refine (wZ a len cap z _ (hr2.out _)).mono ?_;rintro e w' ⟨rfl,nn,rfl⟩)
   go_ret;exact ⟨rfl,(bA0 _ _).trans ⟨rfl,rfl,rfl,Nat.le_refl _,fun _ _=>rfl⟩⟩
 have h3':(k == 3)=false:=by simpa using h3
 have R:=aA (show errV k s len z=7 by unfold errV;rw [if_neg h1,if_neg h2,if_neg h3]);clear h1 h2 h3;go_enter Tryz.func93,Tryz.ntmps93
 go_wp2_with fail
 go_ret;exact ⟨fN R.out.symm,bA0 _ _⟩
end
section
open Go.RowKit
def cS:List VC->List Value
 | []=>[]
 | v::r=>v.cs++cS r
theorem sD:∀ l:List VC,(cS l).length=l.length*4
 | []=>rfl
 | v::r=>by rw [cS,List.length_append,sD r];show 4+_=(r.length+1)*4;omega
theorem l8:∀ a b:List VC,cS (a++b)=cS a++cS b
 | [],b=>rfl
 | v::r,b=>by rw [List.cons_append,cS,l8 r b,cS,List.append_assoc]
theorem vL:∀ (l:List VC) (i:Nat),cS (l.take i)=(cS l).take (i*4)
 | [],i=>by simp [cS]
 | v::r,0=>by simp [cS]
 | v :: r, i + 1 => by
   rw [List.take_succ_cons,cS,cS,vL r i,show (i+1)*4=i*4+1+1+1+1 by omega];rfl
theorem vM:∀ (l:List VC) (i:Nat),cS (l.drop i)=(cS l).drop (i*4)
 | [],i=>by simp [cS]
 | v::r,0=>by simp [cS]
 | v :: r, i + 1 => by
   rw [List.drop_succ_cons,cS,vM r i,show (i+1)*4=i*4+1+1+1+1 by omega];rfl
theorem Ji {l:List VC} {i r:Nat} {v:VC} (h:l[i]? = some v) (hr:r<4):(cS l)[i*4+r]? = v.cs[r]? := by
 obtain ⟨hi,hv⟩:=List.getElem?_eq_some_iff.1 h;have e:l=l.take i++v::l.drop (i+1):=by rw [<- hv];exact (List.take_append_drop i l).symm.trans (by rw [List.drop_eq_getElem_cons hi])
 have hl:(cS (l.take i)).length=i*4:=by rw [sD,List.length_take,Nat.min_eq_left (by omega)]
 conv=>lhs;rw [e,l8]
 rw [List.getElem?_append_right (by omega),hl,show i*4+r-i*4=r by omega,cS,List.getElem?_append_left (by show r<4;omega)]
theorem GB (l:List VC):∀ u∈cS l,u.oneCell'=true:=by
 induction l with
 | nil=>intro u hu;cases hu
 | cons v r ih =>
   intro u hu;rw [cS,List.mem_append] at hu;rcases hu with hu | hu
   · simp only [VC.cs,List.mem_cons,List.not_mem_nil,or_false] at hu
     rcases hu with rfl | rfl | rfl | rfl <;> rfl
   · exact ih u hu
def MSV (w:World) (p:Nat) (F:Nat->Prop) (ks:List ByteArray) (vs:List VC):Prop :=
 fE 4 w 236 9 60 p F (ks.map Value.string) (cS vs)
theorem MSV.kept {w w':World} {p:Nat} {F S:Nat->Prop} {ks:List ByteArray} {vs:List VC} (h:MSV w p F ks vs) (hk:aC S w w') (hS:∀ k,F k->¬ S k):MSV w' p F ks vs:=fE.kept h hk hS
theorem MSV.lt {w:World} {p:Nat} {F:Nat->Prop} {ks:List ByteArray} {vs:List VC} (h:MSV w p F ks vs):∀ k,F k->k<w.heap.size:=fE.lt h
theorem MSV.len {w:World} {p:Nat} {F:Nat->Prop} {ks:List ByteArray} {vs:List VC} (h:MSV w p F ks vs):vs.length=ks.length:=by
 have:=fE.len h;rw [sD,List.length_map] at this;omega
theorem Ns (w:World):Calls Tryz.prog 150 #[] w fun e w' =>
 e=.returned (.pointer (some ⟨w.heap.size,0,none⟩))/\MSV w' w.heap.size (fun k=>k=w.heap.size) [] []/\aC (fun _=>False) w w':=by
 have H:Calls Tryz.prog 150 #[] w fun e w'=>e=.returned (.pointer (some ⟨w.heap.size,0,none⟩))/\w'=w.alloc (.cells #[.slice none 0 0,.slice none 0 0] 236):=by
  go_enter Tryz.func150,Tryz.ntmps150
  go_wp2
  go_ret;exact ⟨rfl,rfl⟩
 refine H.mono ?_;rintro e w' ⟨rfl,rfl⟩;refine ⟨rfl,⟨_,_,heap_alloc_new w _,World.ownsRow_nil _ _ _ _,World.ownsRow_nil _ _ _ _,?_,?_,?_,rfl,?_,?_,?_⟩,(aC.refl _ w).alloc _⟩
 · simp [Value.ownBlock]
 · simp [Value.ownBlock]
 · simp [Value.ownBlock]
 · simp [Value.ownBlock]
 · simp [Value.ownBlock]
 · intro k hk;subst hk;simp
theorem Mb (w:World) (p:Nat) (F:Nat->Prop) (ks:List ByteArray) (vs:List VC) (h:MSV w p F ks vs):Calls Tryz.prog 97 #[.pointer (some ⟨p,0,none⟩)] w fun e w' =>
 e=.returned (.int .i64 (ks.length:Nat))/\w=w':=by
 obtain ⟨kv,vv,h0,h1,h2,_⟩:=h;obtain ⟨ka,kc,rfl⟩:=lU h1;have c0:=gM h0;simp only [List.length_map] at c0;clear h0 h1 h2;go_enter Tryz.func97,Tryz.ntmps97
 go_wp2
 go_ret;exact ⟨rfl,rfl⟩
theorem Ln (w:World) (p:Nat) (F:Nat->Prop) (ks:List ByteArray) (vs:List VC) (i:Nat) (k:ByteArray) (hn:ks.length<=1000000) (hk:ks[i]? = some k) (h:MSV w p F ks vs) :
 Calls Tryz.prog 202 #[.pointer (some ⟨p,0,none⟩),.int .i64 i] w fun e w'=>e=.returned (.tuple #[.string k,.bool true])/\w=w':=by
 obtain ⟨kv,vv,h0,h1,h2,_⟩:=h;have hi:=(List.getElem?_eq_some_iff.1 hk).1;obtain ⟨g,c,cur,rfl,hg,hs,hnc,hm,ht,hx⟩:=Dd h1 (by simp;omega);have c0:=gM h0;simp only [List.length_map] at c0;have ci:w.cell? ⟨g,i,none⟩=some (.string k):=bJ hg ht (by rw [List.getElem?_map,hk];rfl);have hi':(i:Int)<(ks.length:Int):=by omega
 generalize ks.length=n at *;have h0i:(0:Int)<=(i:Int):=by omega
 clear h0 h1 h2 hk hg hs ht hx hnc hm;go_enter Tryz.func202,Tryz.ntmps202
 go_wp2
 go_ret2;exact ⟨rfl,rfl⟩
theorem IF {w:World} {p:Nat} {F:Nat->Prop} {ks:List ByteArray} {vs:List VC} (h:MSV w p F ks vs) (hn:ks.length<=1000000) (hr:aS lsS ks) (x:ByteArray) :
 ∃ ka kc, w.cell? ⟨p, 0, none⟩ = some (.slice ka ks.length kc) /\ ∀ (I : Nat) (B : Bool), pos lsS ks x = I -> has ks x = B ->
   Calls Tryz.prog 151 #[.slice ka ks.length kc,.string x] w fun e w'=>e=.returned (.tuple #[.int .i64 I,.bool B])/\∃ q,w'=w.drewN q:=by
 obtain ⟨kv,vv,h0,h1,h2,_⟩:=h;obtain ⟨ka,kc,rfl⟩:=lU h1;have c0:=gM h0;simp only [List.length_map] at c0 h1;exact ⟨ka,kc,c0,fun I B hI hB=>by rw [<- hI, <- hB];exact Kj _ _ ks x w hn h1 hr⟩
theorem M8 (w:World) (p:Nat) (F:Nat->Prop) (ks:List ByteArray) (vs:List VC) (i:Nat) (k:ByteArray) (v:VC) (hk:ks[i]? = some k) (hv:vs[i]? = some v) (hn:ks.length<=1000000) (h:MSV w p F ks vs) :
 Calls Tryz.prog 155 #[.pointer (some ⟨p,0,none⟩),.int .i64 i] w fun e w'=>e=.returned (.tuple #[.string k,.agg #[.int .i64 v.k,.int .i64 v.n,.string v.s,.slice v.y v.len v.c],.bool true])/\Below w.heap.size w w':=by
 have bl:∀ o,aC (fun _=>False) w (w.alloc o):=fun o=>(aC.refl _ w).alloc o
 have HK:=aA (fun o=>Ln (w.alloc o) p F ks vs i k hn hk (h.kept (bl o) (fun _ _ h=>h)));have hi:=(List.getElem?_eq_some_iff.1 hk).1;have hpl:=h.lt;obtain ⟨kv,vv,h0,h1,h2,_,_,_,f0,_,f2,_⟩:=h;obtain ⟨g,c,cur,rfl,hg,hs,hnc,hm,ht,hx2⟩:=sU h2 (by simp;omega);have c1:=i1 h0;simp only [List.length_map] at c1;have fl:∀ r u,r<4->v.cs[r]? = some u->w.cell? ⟨g,i*4+r,none⟩=some u:=fun r u hr hu=>bJ hg ht (by rw [Ji hv hr];exact hu)
 have e0:=fl 0 _ (by omega) rfl;have e1:=fl 1 _ (by omega) rfl;have e2:=fl 2 _ (by omega) rfl;have e3:=fl 3 _ (by omega) rfl;have hi':(i:Int)<(ks.length:Int):=by omega
 have h0i:(0:Int)<=(i:Int):=by omega
 have hpw:=hpl p f0;have hgw:=lt_of_block hg;clear h0 h1 h2 hv hg hs ht hnc hm hi hx2 hk fl bl hpl f0 f2;generalize ks.length=n at *;go_enter Tryz.func155,Tryz.ntmps155
 go_wp2_with (go_at_call 202;refine (HK.out _).mono ?_;rintro e w' ⟨rfl,rfl⟩)
 generalize hW:World.alloc w _=W;have hs:W.heap.size=w.heap.size+1:=by rw [<- hW];simp
 have bl:Below w.heap.size w W:=by rw [<- hW];exact bA0 _ _
 have hres:W.heap[w.heap.size]? = some (.cells #[.int .i64 0,.int .i64 0,.string ⟨#[]⟩,.slice none 0 0] 60 (0,0)):=by rw [<- hW];exact heap_alloc_new w _
 have c1':=(bl.cell (p:=⟨p,1,none⟩) hpw).trans c1;have e0':=(bl.cell (p:=⟨g,i*4+0,none⟩) hgw).trans e0;have e1':=(bl.cell (p:=⟨g,i*4+1,none⟩) hgw).trans e1;have e2':=(bl.cell (p:=⟨g,i*4+2,none⟩) hgw).trans e2;have e3':=(bl.cell (p:=⟨g,i*4+3,none⟩) hgw).trans e3;rw [Nat.add_zero] at e0';have BL:=aA bl;obtain ⟨⟨y0,y1,y2,y3⟩,⟨z0,z1,z2,z3⟩⟩:=aL hres;have hp1:p ≠ w.heap.size:=by omega
 have hg1:g ≠ w.heap.size:=by omega
 have cc:W.drew.cell? ⟨p,1,none⟩=some (.slice (some ⟨g,0,none⟩) n c)/\W.drew.cell? ⟨g,i*4,none⟩=some (.int .i64 v.k)/\W.drew.cell? ⟨g,i*4+1,none⟩=some (.int .i64 v.n)/\W.drew.cell? ⟨g,i*4+2,none⟩=some (.string v.s)/\W.drew.cell? ⟨g,i*4+3,none⟩=some (.slice v.y v.len v.c):=⟨c1',e0',e1',e2',e3'⟩;clear hW bl c1 e0 e1 e2 e3 HK hres;clear cc;go_region_with (fail)
 all_goals
  have P:=aA (p:=Below w.heap.size w ((((W.drew.setCell ⟨w.heap.size,0,none⟩ (.int .i64 v.k)).setCell ⟨w.heap.size,1,none⟩ (.int .i64 v.n)).setCell ⟨w.heap.size,2,none⟩ (.string v.s)).setCell ⟨w.heap.size,3,none⟩ (.slice v.y v.len v.c))) (j7 (W:=W.drew) (BL.out.trans (show Below w.heap.size W W.drew from ⟨rfl,rfl,rfl,Nat.le_refl _,fun _ _=>rfl⟩)) (Nat.le_refl _) _ _ _ _);go_wp2
  exact bodyPost_ret (v:=.tuple #[.string k,.agg #[.int .i64 v.k,.int .i64 v.n,.string v.s,.slice v.y v.len v.c],.bool true]) (by simp [results,Tryz.results155,go_sem, *]) rfl ⟨rfl,P.out⟩
end
section
open Go.RowKit Go.Lib
theorem oJ:(Tryz.prog.info? 9).map (fun i=>(i.zero,i.size,i.bytes))=some (some (Value.string ⟨#[]⟩),1,16):=by kernel_rfl
theorem Gh (w:World):(Go.sizeOf 9).run Tryz.prog w=.ok 1 w:=by kernel_rfl
theorem I7:Tryz.prog.underlying 3=some (.int .i64):=by kernel_rfl
theorem fI:Tryz.prog.underlying 55=some (.slice 9):=by kernel_rfl
theorem Dt (b n c i vb:Nat) (cur:Array Value) (cs:List Value) (x:Value) (w:World) (hi:i<n) (hroom:n+1<=c) (hc63:c<=9223372036854775807) (hvb:vb ≠ b)
 (hb:w.heap[b]? = some (.cells cur 9 (0,0))) (hcur:cur.size=c) (hcl:cs.length=n) (ht:cur.toList.take n=cs) (hv:w.heap[vb]? = some (.cells #[x] 9 (0,0))) (h1c:∀ v∈cs,v.oneCell'=true) (h1v:x.oneCell'=true) :
 Calls Tryz.prog 152 #[.slice (some ⟨b,0,none⟩) n c,.int .i64 i,.slice (some ⟨vb,0,none⟩) 1 1] w fun e w' =>
  e=.returned (.slice (some ⟨b,0,none⟩) (n+1) c)/\w'=(w.drew.setCells b (i+1) (cs.drop i)).setCells b i [x]:=by
 have hcs:∀ j v,cs[j]? = some v->w.cell? ⟨b,j,none⟩=some v:=fun j v h=>bJ hb ht h
 have hsp:∀ j,j<n+1->(w.cell? ⟨b,j,none⟩).isSome=true:=fun j h=>by
  rw [cell_of_row w b j cur _ (0,0) hb,Array.getElem?_eq_getElem (by omega)];rfl
 have hfz:∀ j,w.frozen? ⟨b,j,none⟩=false:=fun j=>frozen_of_row w b j cur _ hb
 have hvs:∀ j v,[x][j]? = some v->w.cell? ⟨vb,j,none⟩=some v:=fun j v h=>bJ (n:=1) hv rfl h
 have hz2:¬ ((i:Int)=(n:Int)):=by omega
 have hsz:(Tryz.prog.info? 9).map (·.size)=some 1:=by
  obtain ⟨i0,hi0,h0,h1,h2⟩:=info_parts oJ;rw [hi0];simp [h1]
 have hsa:w.shape? vb=some (9,1):=by simp [World.shape?,hv]
 have hsb:w.shape? b=some (9,c):=by simp [World.shape?,hb,hcur]
 have hov:∀ lb cb,(callFunc 198 #[.slice (some ⟨vb,0,none⟩) 1 1,.slice (some ⟨b,i+1,none⟩) lb cb]).run Tryz.prog w=.ok (.value (.bool false)) w:=fun lb cb=>by
  rw [run_callFunc_extern Tryz.func198 (by kernel_rfl) (by kernel_rfl) (by kernel_rfl) (e:=Extern.SlicesOverlaps.overlaps #[55,55] #[4]) (by kernel_rfl),
   Lib.run_overlaps_apart w 55 4 9 fI 1 Gh ⟨vb,0,none⟩ ⟨b,i+1,none⟩ 1 1 lb cb hvb 9 9 1 c hsa hsb (by omega) (frozen_of_row w vb 0 _ _ hv) (frozen_of_row w vb 1 _ _ hv)]
  rfl
 have hdl:(cs.drop i).length=n-i:=by rw [List.length_drop,hcl]
 have hw1:IntKind.i64.wrap ((i:Int)+1)=(i:Int)+1:=by rw [IntKind.wrap_i64];omega
 have hin:i<=n:=by omega
 have hb1:(0:Int)<=(i:Int)+1:=by omega
 have htn:((i:Int)+1).toNat=i+1:=by omega
 have hb3:(i:Int)<=(n:Int)+1:=by omega
 have hb2:¬ (c=i+1):=by omega
 have hb4:¬ (c=i):=by omega
 have hcp1:∀ ty dc sc,(Builtin.copy_ #[55,55] ty #[.slice (some ⟨b,i+1,none⟩) (n-i) dc,.slice (some ⟨b,i,none⟩) (n+1-i) sc]).run Tryz.prog w.drew=.ok (goInt (cs.drop i).length) (w.drew.setCells b (i+1) (cs.drop i)):=fun ty dc sc =>
  run_copy_cells w.drew _ _ ty 9 b (i+1) (n-i) dc ⟨b,i,none⟩ (n+1-i) sc (cs.drop i) fI hsz (by rw [hdl];simp only [Nat.min_def];split <;> omega)
   (fun j v hj=>by rw [Addr.add_lit];exact hcs (i+j) v (by rwa [List.getElem?_drop] at hj))
   (fun j hj=>hsp _ (by omega)) (fun j hj=>hfz _) (fun v hv=>h1c v (List.mem_of_mem_drop hv))
 obtain ⟨W1,hW1⟩:∃ W1,W1=w.drew.setCells b (i+1) (cs.drop i):=⟨_,rfl⟩
 have hsp1:∀ k,k<n+1->(W1.cell? ⟨b,k,none⟩).isSome=true:=fun k hk=>by
  rw [hW1];exact isSome_setCells b (cs.drop i) (i+1) w.drew (fun j hj=>hsp _ (by omega)) _ (hsp k hk)
 have hcp2:∀ (W:World),(∀ x,W.cell? x=W1.cell? x)->(∀ x,W.frozen? x=W1.frozen? x)->∀ ty dc,(Builtin.copy_ #[55,55] ty #[.slice (some ⟨b,i,none⟩) (n+1-i) dc,.slice (some ⟨vb,0,none⟩) 1 1]).run Tryz.prog W=.ok (goInt [x].length) (W.setCells b i [x]):=fun W hWc hWf ty dc =>
  run_copy_cells W _ _ ty 9 b i (n+1-i) dc ⟨vb,0,none⟩ 1 1 [x] fI hsz (by simp only [List.length_singleton,Nat.min_def];split <;> omega)
   (fun j v hj=>by
    rw [Addr.add_lit,Nat.zero_add,hWc,hW1,World.cell?_setCells_out b _ _ _ _ (fun h _=>absurd h hvb)];exact hvs j v hj)
   (fun j hj=>by rw [hWc];exact hsp1 _ (by simp at hj;omega)) (fun j hj=>by rw [hWf,hW1,World.frozen?_setCells];exact hfz _) (by simpa using h1v)
 rw [<- hW1] at hcp1;clear hcs hsp hfz hvs hsz hsa hsb hdl hsp1 hb hcur ht hv h1c h1v;go_enter Tryz.func152,Tryz.ntmps152
 go_wp2_with (simp only [hov])
 go_region_law (refine step_copy_runI rfl _ _ 55 55 rfl _ _ (by simp [Act.eval,Act.put]) (by simp [Act.eval,Act.put]) (hcp1 _ _ _) ?_)
 go_wp2_with (at_builtin;refine wpList_copy_runI _ rfl _ _ 55 55 rfl _ _ rfl rfl (hcp2 _ (fun _=>rfl) (fun _=>rfl) _ _) ?_)
 go_ret;first | exact ⟨rfl,rfl⟩ | exact ⟨rfl,by rw [hW1]⟩
theorem Gi (b n c vb:Nat) (cur:Array Value) (x:Value) (w:World) (hroom:n+1<=c) (hc63:c<=9223372036854775807)
 (hb:w.heap[b]? = some (.cells cur 9 (0,0))) (hcur:cur.size=c) (hv:w.heap[vb]? = some (.cells #[x] 9 (0,0))) (h1v:x.oneCell'=true) :
 Calls Tryz.prog 152 #[.slice (some ⟨b,0,none⟩) n c,.int .i64 n,.slice (some ⟨vb,0,none⟩) 1 1] w fun e w' =>
  e=.returned (.slice (some ⟨b,0,none⟩) (n+1) c)/\w'=w.setCells b n [x]:=by
 have hsrc:Src Tryz.prog 1 55 (.slice (some ⟨vb,0,none⟩) 1 1) 1 [x] w:=Src.ofSlice w fI ⟨vb,0,none⟩ 1 1 [x] rfl (fun j u hj=>by rw [Addr.add_lit,Nat.zero_add];exact bJ (n:=1) hv rfl hj) (by simpa using h1v)
 have hsp:∀ j,j<1->(w.cell? ⟨b,0+n+j,none⟩).isSome=true:=fun j h=>by
  rw [cell_of_row w b _ cur _ (0,0) hb,Array.getElem?_eq_getElem (by omega)];rfl
 have hfz:∀ j,j<1->w.frozen? ⟨b,0+n+j,none⟩=false:=fun j _=>frozen_of_row w b _ cur _ hb
 clear hb hcur hv h1v;go_enter Tryz.func152,Tryz.ntmps152
 go_wp2_with (at_builtin;refine wpList_append_room1 _ rfl _ _ 55 55 rfl 9 _ _ fI oJ b 0 n c rfl _ rfl 1 [x] hsrc hroom hsp hfz ?_)
 go_ret;exact ⟨rfl,rfl⟩
theorem BS (base:Option Addr) (n c vb:Nat) (cs:List Value) (x:Value) (w:World) (hnc:n<=c) (hroom:c<n+1) (hbig:(n+1)*16<=140737488355328)
 (hcl:cs.length=n) (hnil:base=none->n=0) (hcs:∀ a,base=some a->∀ j v,cs[j]? = some v->w.cell? (a.add j)=some v) (hv:w.heap[vb]? = some (.cells #[x] 9 (0,0))) (h1v:x.oneCell'=true) :
 Calls Tryz.prog 152 #[.slice base n c,.int .i64 n,.slice (some ⟨vb,0,none⟩) 1 1] w fun e w' =>
  e=.returned (.slice (some ⟨w.heap.size,0,none⟩) (n+1) (grownCap w (n+1) c 9)) /\
  w'=w.drew.alloc (.cells ((cs++[x]).toArray++Builtin.zeroCells (Value.string ⟨#[]⟩).cells (grownCap w (n+1) c 9-(n+1))) 9):=by
 obtain ⟨i0,hi0,hz0,hzs,hzb⟩:=info_parts oJ
 have hsrc:Src Tryz.prog i0.size 55 (.slice (some ⟨vb,0,none⟩) 1 1) 1 [x] w:=by
  rw [hzs];exact Src.ofSlice w fI ⟨vb,0,none⟩ 1 1 [x] rfl (fun j u hj=>by rw [Addr.add_lit,Nat.zero_add];exact bJ (n:=1) hv rfl hj) (by simpa using h1v)
 have hold:(Builtin.firstCells i0.size n (.slice base n c)).run Tryz.prog w.drew=.ok cs.toArray w.drew:=by
  rw [hzs];cases base with
  | none =>
    have h0:=hnil rfl;subst h0;rw [List.length_eq_zero_iff.1 hcl];exact run_firstCells_none w.drew 1 0 0 c
  | some a=>exact run_firstCells_some w.drew 1 n a n c cs (by omega) (fun j v hj=>hcs a rfl j v hj)
 have hrun:∀ ty,(Builtin.append_ #[55,55] ty #[.slice base n c,.slice (some ⟨vb,0,none⟩) 1 1]).run Tryz.prog w=_:=fun ty =>
  run_append_grow_src w 55 55 ty 9 i0 _ fI hi0 hz0 base n c cs hold _ 1 [x] hsrc hroom (by omega) (by rw [hzb];exact growslice_fits hroom hbig)
 clear hv h1v hcs hold hsrc;go_enter Tryz.func152,Tryz.ntmps152
 cases base with
 | none =>
   have h0:=hnil rfl;subst h0;go_wp2_with (at_builtin;refine Lib.wpList_append_run _ rfl _ _ _ _ rfl _ _ rfl rfl _ _ (hrun _) ?_)
   go_ret;exact ⟨rfl,rfl⟩
 | some a =>
   obtain ⟨ab,ao,asp⟩:=a;go_wp2_with (at_builtin;refine Lib.wpList_append_run _ rfl _ _ _ _ rfl _ _ rfl rfl _ _ (hrun _) ?_)
   all_goals (go_ret;exact ⟨rfl,rfl⟩)
theorem Gj (b n c i vb:Nat) (cur:Array Value) (cs:List Value) (x:Value) (w:World) (hi:i<n) (hnc:n<=c) (hroom:c<n+1) (hbig:(n+1)*16<=140737488355328)
 (hb:w.heap[b]? = some (.cells cur 9 (0,0))) (hcl:cs.length=n) (ht:cur.toList.take n=cs) (hv:w.heap[vb]? = some (.cells #[x] 9 (0,0))) (h1c:∀ v∈cs,v.oneCell'=true) (h1v:x.oneCell'=true) :
 Calls Tryz.prog 152 #[.slice (some ⟨b,0,none⟩) n c,.int .i64 i,.slice (some ⟨vb,0,none⟩) 1 1] w fun e w' =>
  e=.returned (.slice (some ⟨w.heap.size,0,none⟩) (n+1) (grownCap w (n+1) c 9)) /\
  w'=(((w.alloc (.cells ((cs.take i).toArray++Builtin.zeroCells (Value.string ⟨#[]⟩).cells (n+1-i)++Builtin.zeroCells (Value.string ⟨#[]⟩).cells (grownCap w (n+1) c 9-(n+1))) 9)).drew.setCells w.heap.size i [x]).drew).setCells w.heap.size (i+1) (cs.drop i):=by
 have hcs:∀ j v,cs[j]? = some v->w.cell? ⟨b,j,none⟩=some v:=fun j v h=>bJ hb ht h
 have hvs:∀ j v,[x][j]? = some v->w.cell? ⟨vb,j,none⟩=some v:=fun j v h=>bJ (n:=1) hv rfl h
 obtain ⟨i0,hi0,hz0,hzs,hzb⟩:=info_parts oJ;have hz2:¬ ((i:Int)=(n:Int)):=by omega
 have hz3:(c:Int)<(n:Int)+1:=by omega
 have hsz:(Tryz.prog.info? 9).map (·.size)=some 1:=by rw [hi0];simp [hzs]
 have hbw:b<w.heap.size:=lt_of_block hb;have hvw:vb<w.heap.size:=lt_of_block hv;have hkk:(n:Int)+1-(i:Int)=((n+1-i:Nat):Int):=by omega
 have hik:i+(n+1-i)=n+1:=by omega
 have hold:(Builtin.firstCells i0.size i (.slice (some ⟨b,0,none⟩) i c)).run Tryz.prog w.drew=.ok (cs.take i).toArray w.drew:=by
  rw [hzs]
  exact run_firstCells_some w.drew 1 i ⟨b,0,none⟩ i c (cs.take i) (by rw [List.length_take];omega) (fun j v hj=>by
   rw [Addr.add_lit,Nat.zero_add];rw [List.getElem?_take] at hj;split at hj
   · exact hcs j v hj
   · cases hj)
 have hrz:∀ ty,(Builtin.append_ #[55,3] ty #[.slice (some ⟨b,0,none⟩) i c,.int .i64 ((n:Int)+1-(i:Int))]).run Tryz.prog w =
  .ok (.slice (some ⟨w.heap.size,0,none⟩) (n+1) (grownCap w (n+1) c 9)) (w.drew.alloc (.cells ((cs.take i).toArray++Builtin.zeroCells (Value.string ⟨#[]⟩).cells (n+1-i)++Builtin.zeroCells (Value.string ⟨#[]⟩).cells (grownCap w (n+1) c 9-(n+1))) 9)):=fun ty=>by
  have h:=Lib.run_append_grow_zeros w 55 3 ty 9 i0 _ .i64 .i64 fI I7 hi0 hz0 (some ⟨b,0,none⟩) i c (cs.take i) hold (n+1-i) (by omega) (by omega) (by omega) (by omega) (by rw [hzb];omega) (by rw [hzb,hik];exact growslice_fits hroom hbig);rw [hik] at h;rw [hkk];exact h
 obtain ⟨G,hG⟩:∃ G,G=grownCap w (n+1) c 9:=⟨_,rfl⟩;obtain ⟨ROW,hROW⟩:∃ ROW:Array Value,ROW=(cs.take i).toArray++Builtin.zeroCells (Value.string ⟨#[]⟩).cells (n+1-i)++Builtin.zeroCells (Value.string ⟨#[]⟩).cells (G-(n+1)):=⟨_,rfl⟩;rw [<- hG] at hrz |-
 rw [<- hROW] at hrz |-
 have hRl:n+1<=ROW.size:=by
  rw [hROW];simp [Builtin.zeroCells,Value.cells];omega
 obtain ⟨W1,hW1⟩:∃ W1,W1=w.drew.alloc (.cells ROW 9):=⟨_,rfl⟩;rw [<- hW1] at hrz
 have hN:∀ j,j<n+1->(W1.cell? ⟨w.heap.size,j,none⟩).isSome=true:=fun j hj=>by
  rw [hW1,World.cell?_alloc_at (w:=w.drew) ROW _ w.heap.size j rfl,Array.getElem?_eq_getElem (by omega)];rfl
 have hNf:∀ j,W1.frozen? ⟨w.heap.size,j,none⟩=false:=fun j=>by rw [hW1];exact World.frozen?_alloc_at (w:=w.drew) ROW _ w.heap.size j rfl
 have hOb:∀ j v,w.cell? ⟨b,j,none⟩=some v->W1.cell? ⟨b,j,none⟩=some v:=fun j v h=>by rw [hW1,World.cell?_alloc_past (w:=w.drew) _ b j hbw];exact h
 have hOv:∀ j v,w.cell? ⟨vb,j,none⟩=some v->W1.cell? ⟨vb,j,none⟩=some v:=fun j v h=>by rw [hW1,World.cell?_alloc_past (w:=w.drew) _ vb j hvw];exact h
 have hcpA:∀ (W:World),(∀ x,W.cell? x=W1.cell? x)->(∀ x,W.frozen? x=W1.frozen? x)->∀ ty dc,(Builtin.copy_ #[55,55] ty #[.slice (some ⟨w.heap.size,i,none⟩) (n+1-i) dc,.slice (some ⟨vb,0,none⟩) 1 1]).run Tryz.prog W=.ok (goInt [x].length) (W.setCells w.heap.size i [x]):=fun W hWc hWf ty dc =>
  run_copy_cells W _ _ ty 9 w.heap.size i (n+1-i) dc ⟨vb,0,none⟩ 1 1 [x] fI hsz (by simp only [List.length_singleton,Nat.min_def];split <;> omega)
   (fun j v hj=>by rw [Addr.add_lit,Nat.zero_add,hWc];exact hOv _ v (hvs j v hj))
   (fun j hj=>by rw [hWc];exact hN _ (by simp at hj;omega)) (fun j hj=>by rw [hWf];exact hNf _) (by simpa using h1v)
 have hGn:n+1<=G:=by rw [hG];exact grownCap_ge w _ _ _
 have hG63:G<=9223372036854775807:=by
  have:=grownCap_le_maxLen w (n+1) c 9 (by unfold maxLen;omega);rw [<- hG] at this;unfold maxLen at this;omega
 have hGi:¬ (G=i):=by omega
 have hGim:¬ (G=i+1):=by omega
 have hci:¬ (c=i):=by omega
 have hbN:b ≠ w.heap.size:=by omega
 have hdl:(cs.drop i).length=n-i:=by rw [List.length_drop,hcl]
 have hcpB:∀ (W:World),(∀ y,W.cell? y=(W1.setCells w.heap.size i [x]).cell? y)->(∀ y,W.frozen? y=(W1.setCells w.heap.size i [x]).frozen? y)->∀ ty dc sc,(Builtin.copy_ #[55,55] ty #[.slice (some ⟨w.heap.size,i+1,none⟩) (n-i) dc,.slice (some ⟨b,i,none⟩) (n-i) sc]).run Tryz.prog W=.ok (goInt (cs.drop i).length) (W.setCells w.heap.size (i+1) (cs.drop i)):=fun W hWc hWf ty dc sc =>
  run_copy_cells W _ _ ty 9 w.heap.size (i+1) (n-i) dc ⟨b,i,none⟩ (n-i) sc (cs.drop i) fI hsz (by rw [hdl];simp only [Nat.min_def];split <;> omega)
   (fun j v hj=>by
    rw [Addr.add_lit,hWc,World.cell?_setCells_out _ _ _ _ _ (fun h _=>absurd h hbN)];exact hOb _ v (hcs (i+j) v (by rwa [List.getElem?_drop] at hj)))
   (fun j hj=>by rw [hWc];exact isSome_setCells _ [x] i W1 (fun t ht=>hN _ (by simp at ht;omega)) _ (hN _ (by omega)))
   (fun j hj=>by rw [hWf,World.frozen?_setCells];exact hNf _) (fun v hv=>h1c v (List.mem_of_mem_drop hv))
 subst hW1;have hE1:∀ x,((w.alloc (.cells ROW 9)).drew).cell? x=(w.drew.alloc (.cells ROW 9)).cell? x:=fun x=>rfl
 have hE2:∀ x,((w.alloc (.cells ROW 9)).drew).frozen? x=(w.drew.alloc (.cells ROW 9)).frozen? x:=fun x=>rfl
 have hF1:∀ y,(((w.alloc (.cells ROW 9)).drew.setCells w.heap.size i [x]).drew).cell? y=((w.drew.alloc (.cells ROW 9)).setCells w.heap.size i [x]).cell? y:=fun y=>rfl
 have hF2:∀ y,(((w.alloc (.cells ROW 9)).drew.setCells w.heap.size i [x]).drew).frozen? y=((w.drew.alloc (.cells ROW 9)).setCells w.heap.size i [x]).frozen? y:=fun y=>rfl
 have hw1:IntKind.i64.wrap ((i:Int)+1)=(i:Int)+1:=by rw [IntKind.wrap_i64];omega
 have hb1:(0:Int)<=(i:Int)+1:=by omega
 have hin:i<=n:=by omega
 have htn:((i:Int)+1).toNat=i+1:=by omega
 have hb3:(i:Int)<=(n:Int):=by omega
 have hb5:(i:Int)<=(n:Int)+1:=by omega
 clear hkk hik hold hROW hG hRl hb ht hv h1c h1v hcs hvs hN hNf hOb hOv;go_enter Tryz.func152,Tryz.ntmps152
 go_wp2_with (first
  | (at_builtin;refine Lib.wpList_append_run _ rfl _ _ _ _ rfl _ _ rfl rfl _ _ (hrz _) ?_)
  | (at_builtin;refine wpList_copy_runI _ rfl _ _ 55 55 rfl _ _ rfl rfl (hcpA _ hE1 hE2 _ _) ?_)
  | (at_builtin;refine wpList_copy_runI _ rfl _ _ 55 55 rfl _ _ rfl rfl (hcpB _ (fun _=>rfl) (fun _=>rfl) _ _ _) ?_))
 go_region_law (refine step_copy_runI rfl _ _ 55 55 rfl (.slice (some ⟨w.heap.size,i+1,none⟩) (n-i) (G-(i+1))) (.slice (some ⟨b,i,none⟩) (n-i) (c-i)) (by simp [Act.eval,Act.put]) (by simp [Act.eval,Act.put]) (hcpB _ hF1 hF2 3 (G-(i+1)) (c-i)) ?_)
 go_wp2
 go_ret;exact ⟨rfl,rfl⟩
theorem NR (v:Value) (n i vb:Nat) (xs:List Value) (x:Value) (w:World) (hn:n<=1000000) (hi:i<=n) (ho:w.ownsRow 0 9 1 v n xs) (hv:w.heap[vb]? = some (.cells #[x] 9 (0,0))) (hne:v.ownBlock ≠ some vb)
 (h1c:∀ u∈xs,u.oneCell'=true) (h1v:x.oneCell'=true) :
 Calls Tryz.prog 152 #[v,.int .i64 i,.slice (some ⟨vb,0,none⟩) 1 1] w fun e w'=>fA w w' 9 v (xs.take i++x::xs.drop i) e:=by
 rcases eG ho with ⟨rfl,rfl,rfl⟩ | ⟨g,cap,cur,rfl,hob,hg,hnc,hm,hs,ht,hx,_⟩
 · obtain rfl:i=0:=by omega
   refine (BS none 0 0 vb [] x w (Nat.le_refl _) (by omega) (by omega) rfl (fun _=>rfl) (fun a h=>by cases h) hv h1v).mono fun e w' ⟨he,hw⟩=>?_
   subst hw;exact iO (xs:=[]) rfl (grownCap_ge w (0+1) 0 9) (grownCap_le_maxLen w (0+1) 0 9 (by unfold maxLen;omega)) (by simp [Builtin.zeroCells,Value.cells]) e he
 · have hne':vb ≠ g:=fun h=>hne (by rw [hob,h])
   have hm':cap<=9223372036854775807:=by unfold maxLen at hm;omega
   by_cases hr:n+1<=cap
   · by_cases hin:i=n
     · subst hin
       refine (Gi g i cap vb cur x w hr hm' hg hs hv h1v).mono fun e w' ⟨he,hw⟩=>?_
       subst hw;exact l5 hg hs ht hx hr hm e he
     · refine (Dt g n cap i vb cur xs x w (by omega) hr hm' hne' hg hs hx ht hv h1c h1v).mono fun e w' ⟨he,hw⟩=>?_
       subst hw;exact kD hg hs ht hx (by omega) hr hm e he
   · have hG1:=grownCap_ge w (n+1) cap 9
     have hG2:=grownCap_le_maxLen w (n+1) cap 9 (by unfold maxLen;omega);by_cases hin:i=n
     · subst hin
       refine (BS (some ⟨g,0,none⟩) i cap vb xs x w hnc (by omega) (by omega) hx (fun h=>by cases h) (fun a ha j u hj=>by cases ha;rw [Addr.add_lit,Nat.zero_add];exact bJ hg ht hj) hv h1v).mono fun e w' ⟨he,hw⟩=>?_
       subst hw;exact iO hx hG1 hG2 (by simp [Builtin.zeroCells,Value.cells]) e he
     · refine (Gj g n cap i vb cur xs x w (by omega) hnc (by omega) (by omega) hg hx ht hv h1c h1v).mono fun e w' ⟨he,hw⟩=>?_
       subst hw;exact l6 hx (by omega) hG1 hG2 (by simp [Builtin.zeroCells,Value.cells]) (by simp [Builtin.zeroCells,Value.cells]) e he
end
section
open Go.RowKit
def rF (w w':World) (p:Nat) (F:Nat->Prop) (ks:List ByteArray) (vs:List VC):Prop :=
 At 4 w w' 236 9 60 p F (ks.map Value.string) (cS vs)
theorem MA (ks:List ByteArray):∀ u∈ks.map Value.string,u.oneCell'=true:=by
 intro u hu;obtain ⟨_,_,rfl⟩:=List.mem_map.1 hu;rfl
theorem GD (vs:List VC) (v:VC) (I:Nat):cS (vs.take I++v::vs.drop I)=(cS vs).take (I*4)++v.cs++(cS vs).drop (I*4):=by
 rw [l8,cS,vL,vM,List.append_assoc]
/-- Put of a key that is new. -/
theorem H9 (w:World) (p:Nat) (F:Nat->Prop) (ks:List ByteArray) (vs:List VC) (x:ByteArray) (v:VC) (hn:ks.length<=1000000) (hr:aS lsS ks) (hx:x ∉ ks) (h:MSV w p F ks vs) :
 Calls Tryz.prog 95 #[.pointer (some ⟨p,0,none⟩),.string x,.agg #[.int .i64 v.k,.int .i64 v.n,.string v.s,.slice v.y v.len v.c]] w fun e w'=>e=.returned (.bool true) /\
  rF w w' p F (ks.take (pos lsS ks x)++x::ks.drop (pos lsS ks x)) (vs.take (pos lsS ks x)++v::vs.drop (pos lsS ks x)):=by
 obtain ⟨o,ho⟩:∃ o,Obj.cells #[.int .i64 v.k,.int .i64 v.n,.string v.s,.slice v.y v.len v.c] 60=o:=⟨_,rfl⟩;have hkb:aC (fun _=>False) w (w.alloc o):=(aC.refl _ w).alloc o;obtain ⟨ka0,kc0,c00,hL⟩:=IF (h.kept hkb (fun _ _ h=>h)) hn hr x;have hvl:=h.len;have hp:=pI (less:=lsS) ks x;obtain ⟨I,hI⟩:∃ I,pos lsS ks x=I:=⟨_,rfl⟩;have HL:=aA (hL I false hI (vF hx));rw [hI] at hp |-
 obtain ⟨ka,kc,va,vc,HF⟩:=fE.fields h;have c0:=gM HF.row;have c1:=i1 HF.row;have hpw:=HF.plt;simp only [List.length_map] at c0 c1 HF;rw [hkb.cell c0 (fun h=>h)] at c00;simp only [Option.some.injEq,Value.slice.injEq] at c00;obtain ⟨rfl,_,rfl⟩:=c00;have HP:=aA hp;have HVL:=aA hvl;clear hI hL hr hx hp h hvl hkb;subst ho;generalize ks.length=n at *;have H0:=aA HF;clear HF;go_enter Tryz.func95,Tryz.ntmps95
 go_wp2_with (go_at_call 151;refine HL.out.mono ?_;rintro e w' ⟨rfl,q,rfl⟩)
 obtain ⟨W,hW⟩:∃ W,w.alloc (.cells #[.int .i64 v.k,.int .i64 v.n,.string v.s,.slice v.y v.len v.c] 60)=W:=⟨_,rfl⟩;have hkW:aC (fun _=>False) w W:=by rw [<- hW];exact (aC.refl _ w).alloc _
 have hbx:W.heap[w.heap.size]? = some (.cells #[.int .i64 v.k,.int .i64 v.n,.string v.s,.slice v.y v.len v.c] 60 (0,0)):=by rw [<- hW];exact heap_alloc_new w _
 have hsW:W.heap.size=w.heap.size+1:=by rw [<- hW];simp
 rw [hW];have KW:=aA (And.intro hkW hbx);clear hW hkW hbx c0 c1;go_at_call 152
 have k0:aC (fun _=>False) w ((W.drewN q).alloc (.cells #[.string x] 9)):=(KW.out.1.drewN q).alloc _;have F0:=H0.out.kept k0 (fun _ _ h=>h)
 have hvb:((W.drewN q).alloc (.cells #[.string x] 9)).heap[w.heap.size+1]? = some (.cells #[.string x] 9 (0,0)):=by
  have:=heap_alloc_new (W.drewN q) (.cells #[.string x] 9);rwa [show (W.drewN q).heap.size=w.heap.size+1 from hsW] at this
 refine (NR _ n I (w.heap.size+1) (ks.map Value.string) (.string x) _ hn HP.out F0.k hvb (fun e=>by have:=H0.out.lt _ (H0.out.fk _ e);omega) (MA ks) rfl).mono ?_;clear hvb;obtain ⟨X1,hX1⟩:∃ X1,X1=(ks.map Value.string).take I++Value.string x::(ks.map Value.string).drop I:=⟨_,rfl⟩;obtain ⟨Y1,hY1⟩:∃ Y1,Y1=(cS vs).take (I*4)++v.cs++(cS vs).drop (I*4):=⟨_,rfl⟩;have HX1:=aA hX1;have HY1:=aA hY1
 have hlX:X1.length=n+1:=by
  have h1:=Bo H0.out.k;have:=HP.out;rw [hX1];simp only [List.length_append,List.length_take,List.length_cons,List.length_drop,h1];omega
 have HLX:=aA hlX;clear hX1 hY1 hlX;rintro e w1 hI1;rw [<- HX1.out] at hI1;obtain ⟨kv',rfl,ho,hg,hb⟩:=hI1;rw [HLX.out] at ho;obtain ⟨a1,a2, -⟩:=F0.store0 hg ho hb;obtain ⟨e0,e1,e2,e3,e4⟩:=F0.during hg F0.dk;obtain ⟨ka',kc',rfl⟩:=lU ho
 have hbx1:w1.heap[w.heap.size]? = some (.cells #[.int .i64 v.k,.int .i64 v.n,.string v.s,.slice v.y v.len v.c] 60 (0,0)):=by
  rw [hg.block w.heap.size (by simp;omega) (fun e=>by have:=H0.out.lt _ (H0.out.fk _ e.symm);omega)];exact (Below.heap_alloc _ _ _ (by show _<W.heap.size;omega)).trans KW.out.2
 have hs1:=hg.size;rw [World.size_alloc,show (W.drewN q).heap.size=w.heap.size+1 from hsW] at hs1;have hpb:p ≠ w.heap.size:=by omega
 have hbx2:=(heap_setCell_other w1 ⟨p,0,none⟩ w.heap.size (.slice ka' (n+1) kc') (fun e=>hpb e.symm)).trans hbx1;have HA:=aA (And.intro ho (And.intro hg hb));have A1:=aA a1;obtain ⟨⟨b0,b1,b2,b3⟩, -⟩:=aL hbx1
 have hvf:∀ u∈(#[.int .i64 v.k,.int .i64 v.n,.string v.s,.slice v.y v.len v.c]:Array Value).toList,u.oneCell'=true:=by
  intro u hu;simp only [List.mem_cons,List.not_mem_nil,or_false] at hu;rcases hu with rfl | rfl | rfl | rfl <;> rfl
 have NEWV:=aA (p:=∀ (W':World) (o:Obj),W'.heap.size=w1.heap.size->(W'.alloc o).drew.heap[w1.heap.size]? = some o) (fun W' o h=>by rw [<- h];exact heap_alloc_new W' _);have hlt1:=A1.out.lt;rw [World.size_setCell] at hlt1
 have CI:=aA (p:=∀ w2,aC (fun _=>False) (w1.setCell ⟨p,0,none⟩ (.slice ka' (n+1) kc')) w2->w2.heap[w1.heap.size]? = some (.cells #[.int .i64 v.k,.int .i64 v.n,.string v.s,.slice v.y v.len v.c] 60 (0,0)) ->
  Calls Tryz.prog 153 #[.slice va n vc,.int .i64 I,.slice (some ⟨w1.heap.size,0,none⟩) 1 1] w2 fun e w3=>∃ vv',e=.returned vv'/\w3.ownsRow 0 60 4 vv' (n+1) Y1/\w2.grownBy w3 (Value.slice va n vc).ownBlock/\(vv'.ownBlock=(Value.slice va n vc).ownBlock\/∃ b,vv'.ownBlock=some b/\w2.heap.size<=b)/\aC (fun _=>False) (w1.setCell ⟨p,0,none⟩ (.slice ka' (n+1) kc')) w2) (fun w2 k2 h2 =>
  (NQ _ n I w1.heap.size (cS vs) #[.int .i64 v.k,.int .i64 v.n,.string v.s,.slice v.y v.len v.c] w2 hn HP.out (A1.out.kept k2 (fun _ _ h=>h)).v rfl h2 (fun e=>Nat.lt_irrefl _ (hlt1 _ (A1.out.fv _ e))) (GB vs) hvf).mono fun e w3 ⟨vv',he,ho,hg,hb⟩=>⟨vv',he,by rw [HY1.out];exact ho,hg,hb,k2⟩)
 clear ho hg hb a1 a2 F0 k0 hbx1 hbx2 hlt1 hvf;go_wp2_with fail
 go_region_with (first
  | (go_at_call 153
     refine (CI.out _ (by with_reducible (repeat (first | exact aC.refl _ _ | refine aC.drew ?_ | refine aC.drewN ?_ _ | refine aC.alloc ?_ _))) (NEWV.out _ _ (World.size_setCell _ _ _))).mono ?_;rintro e w3 ⟨vv',rfl,ho2,hg2,hb2,k2⟩;obtain ⟨va',vc',rfl⟩:=sS ho2;have F1:=A1.out.kept k2 (fun _ _ h=>h);obtain ⟨e0',e1',e2',e3',e4'⟩:=F1.during hg2 F1.dv;have HB:=aA (And.intro ho2 (And.intro hg2 (And.intro hb2 k2)));clear ho2 hg2 hb2 k2 F1)
  | fail)
 all_goals
  go_wp2
  go_ret;refine ⟨rfl,?_⟩;show At _ _ _ _ _ _ _ _ _ _;have e5:(ks.take I++x::ks.drop I).map Value.string=X1:=by rw [HX1.out];simp [List.map_take,List.map_drop]
  have e6:cS (vs.take I++v::vs.drop I)=Y1:=by rw [HY1.out,GD]
  rw [e5,e6];exact H0.out.both ((KW.out.1.drewN q).alloc _) HA.out.2.1 HA.out.1 HA.out.2.2 HB.out.2.2.2 HB.out.2.1 HB.out.1 HB.out.2.2.1
theorem GA (vs:List VC) (v:VC) (I:Nat) (hI:I<vs.length):cS (vs.set I v)=((((cS vs).set (I*4) (.int .i64 v.k)).set (I*4+1) (.int .i64 v.n)).set (I*4+2) (.string v.s)).set (I*4+3) (.slice v.y v.len v.c):=by
 induction vs generalizing I with
 | nil=>simp at hI
 | cons a r ih =>
   cases I with
   | zero=>rfl
   | succ I =>
     rw [Of,cS,cS,ih I (by simpa using hI)];rw [show (I+1)*4=I*4+1+1+1+1 by omega,show I*4+1+1+1+1+1=(I*4+1)+1+1+1+1 by omega,show I*4+1+1+1+1+2=(I*4+2)+1+1+1+1 by omega,show I*4+1+1+1+1+3=(I*4+3)+1+1+1+1 by omega];rfl
theorem lV {w:World} {e:TypeId} {m g n c:Nat} {xs:List Value} (h:w.ownsRow 0 e m (.slice (some ⟨g,0,none⟩) n c) n xs) (i:Nat) (u:Value) :
 (w.setCell ⟨g,i,none⟩ u).ownsRow 0 e m (.slice (some ⟨g,0,none⟩) n c) n (xs.set i u):=by
 rcases j3 h with ⟨h,_⟩ | ⟨g',cap,cur,hv,_,hg,hnc,hm,hs,ht,hx⟩
 · cases h
 · simp only [Value.slice.injEq,Option.some.injEq,Addr.mk.injEq] at hv
   obtain ⟨⟨rfl,_⟩,_,rfl⟩:=hv;refine kT (heap_setCell_same w g i cur e u hg) hnc hm (by simpa using hs) ?_;rw [Array.toList_setIfInBounds,List.take_set,ht]
/-- Put of a key that is there. -/
theorem H8 (w:World) (p:Nat) (F:Nat->Prop) (ks:List ByteArray) (vs:List VC) (x:ByteArray) (v:VC) (hn:ks.length<=1000000) (hr:aS lsS ks) (hx:x∈ks) (h:MSV w p F ks vs) :
 Calls Tryz.prog 95 #[.pointer (some ⟨p,0,none⟩),.string x,.agg #[.int .i64 v.k,.int .i64 v.n,.string v.s,.slice v.y v.len v.c]] w fun e w'=>e=.returned (.bool false)/\rF w w' p F ks (vs.set (pos lsS ks x) v):=by
 obtain ⟨o,ho⟩:∃ o,Obj.cells #[.int .i64 v.k,.int .i64 v.n,.string v.s,.slice v.y v.len v.c] 60=o:=⟨_,rfl⟩;have hkb:aC (fun _=>False) w (w.alloc o):=(aC.refl _ w).alloc o;obtain ⟨ka,kc,c0,hL⟩:=IF (h.kept hkb (fun _ _ h=>h)) hn hr x;have hvl:=h.len;have hk:=(List.getElem?_eq_some_iff.1 ((d9 cN hr).1 hx)).1;obtain ⟨I,hI⟩:∃ I,pos lsS ks x=I:=⟨_,rfl⟩;have HL:=aA (hL I true hI ((gI ks x).2 hx));rw [hI] at hk |-
 have hvI:I<vs.length:=by omega
 have hlt:=h.lt;obtain ⟨kv,vv,h0,h1,h2,d0,d1,d2,f0,f1,f2,f3⟩:=h;obtain ⟨g,c,cur,rfl,hg,hs,hnc,hm,ht,hx2⟩:=sU h2 (by simp;omega);have c1:=i1 h0;simp only [List.length_map] at c1;have hpg:p ≠ g:=fun e=>d1 (by rw [e];rfl)
 have hpw:=lt_of_block h0;have hgw:=lt_of_block hg;have hml:(ks.map Value.string).length=ks.length:=List.length_map _
 have hc4:∀ r,r<4->∃ u,w.cell? ⟨g,I*4+r,none⟩=some u:=fun r hr=>by
  rw [cell_of_row w g _ cur _ (0,0) hg,Array.getElem?_eq_getElem (by omega)];exact ⟨_,rfl⟩
 obtain ⟨u0,q0⟩:=hc4 0 (by omega);obtain ⟨u1,q1⟩:=hc4 1 (by omega);obtain ⟨u2,q2⟩:=hc4 2 (by omega);obtain ⟨u3,q3⟩:=hc4 3 (by omega);rw [Nat.add_zero] at q0;have z0:=frozen_of_row w g (I*4) cur _ hg;have z1:=frozen_of_row w g (I*4+1) cur _ hg;have z2:=frozen_of_row w g (I*4+2) cur _ hg;have z3:=frozen_of_row w g (I*4+3) cur _ hg;have hi':(I:Int)<(ks.length:Int):=by omega
 have h0i:(0:Int)<=(I:Int):=by omega
 have HX:=aA (p:=∀ W,aC (fun _=>False) w W->rF w ((((W.setCell ⟨g,I*4,none⟩ (.int .i64 v.k)).setCell ⟨g,I*4+1,none⟩ (.int .i64 v.n)).setCell ⟨g,I*4+2,none⟩ (.string v.s)).setCell ⟨g,I*4+3,none⟩ (.slice v.y v.len v.c)) p F ks (vs.set I v)) (fun W k=>by
  have k':aC F w W:=k.mono (fun _ h _=>h.elim);have hFg:F g:=f2 g rfl
  have hK:aC F w ((((W.setCell ⟨g,I*4,none⟩ (.int .i64 v.k)).setCell ⟨g,I*4+1,none⟩ (.int .i64 v.n)).setCell ⟨g,I*4+2,none⟩ (.string v.s)).setCell ⟨g,I*4+3,none⟩ (.slice v.y v.len v.c)) :=
   (((k'.setCell (p:=⟨g,I*4,none⟩) (.inl hFg) _).setCell (p:=⟨g,I*4+1,none⟩) (.inl hFg) _).setCell (p:=⟨g,I*4+2,none⟩) (.inl hFg) _).setCell (p:=⟨g,I*4+3,none⟩) (.inl hFg) _
  have hkg:kv.ownBlock ≠ some g:=fun e=>d2 _ e rfl
  refine ⟨F,⟨kv,_,?_,?_,?_,d0,d1,d2,f0,f1,f2,fun k hk=>Nat.lt_of_lt_of_le (f3 k hk) hK.size⟩,Cq.refl _ _,hK⟩
  · rw [heap_setCell_other _ _ _ _ (by exact hpg),heap_setCell_other _ _ _ _ (by exact hpg),heap_setCell_other _ _ _ _ (by exact hpg),heap_setCell_other _ _ _ _ (by exact hpg)]
    exact k.heap h0 (fun h=>h)
  · exact ownsRow_setCell_other (a:=⟨g,I*4+3,none⟩) (ownsRow_setCell_other (a:=⟨g,I*4+2,none⟩) (ownsRow_setCell_other (a:=⟨g,I*4+1,none⟩) (ownsRow_setCell_other (a:=⟨g,I*4,none⟩) (k.owns h1 (fun _ _ h=>h)) hkg _) hkg _) hkg _) hkg _
  · rw [GA vs v I hvI]
    exact lV (lV (lV (lV (k.owns h2 (fun _ _ h=>h)) _ _) _ _) _ _) _ _)
 have hkx:p<w.heap.size/\g<w.heap.size:=⟨hpw,hgw⟩;clear h0 h1 h2 hI hg hs hnc hm ht hL hk hx2 d0 d1 d2 f0 f1 f2 f3 hr hx hc4 hvI hvl hlt hkx hml;generalize ks.length=n at *;subst ho;go_enter Tryz.func95,Tryz.ntmps95
 go_wp2_with (go_at_call 151;refine HL.out.mono ?_;rintro e w' ⟨rfl,q,rfl⟩)
 go_region_with (fail)
 all_goals
  go_wp2
  go_ret;exact ⟨rfl,HX.out _ (by with_reducible (repeat (first | exact aC.refl _ _ | refine aC.drew ?_ | refine aC.drewN ?_ _ | refine aC.alloc ?_ _)))⟩
theorem Nj (w:World) (p:Nat) (F:Nat->Prop) (ks:List ByteArray) (vs:List VC) (x:ByteArray) (v:VC) (hn:ks.length<=1000000) (hr:aS lsS ks) (h:MSV w p F ks vs) :
 Calls Tryz.prog 95 #[.pointer (some ⟨p,0,none⟩),.string x,.agg #[.int .i64 v.k,.int .i64 v.n,.string v.s,.slice v.y v.len v.c]] w fun e w'=>e=.returned (.bool (!has ks x))/\rF w w' p F (eF lsS ks x) (Ko lsS ks vs x v):=by
 unfold eF Ko;by_cases hx:x∈ks
 · have hb:=(gI ks x).2 hx
   rw [hb];exact H8 w p F ks vs x v hn hr hx h
 · have hb:=vF hx
   rw [hb];exact H9 w p F ks vs x v hn hr hx h
end
section
open Go.RowKit
theorem t6:∀ (n q:List UInt8),(∀ c∈n,¬ c=47)->∀ {a:List UInt8} {b:List (List UInt8)},dG q=a::b->dG (n++q)=(n++a)::b
 | [],_,_,_,_,e=>e
 | c::n,q,h,_,_,e=>rJ (h c (by simp)) _ (t6 n q (fun x hx=>h x (by simp [hx])) e)
theorem Fe {n:List UInt8} (h:∀ c∈n,¬ c=47):dG n=[n]:=by
 have:=t6 n [] h (a:=[]) (b:=[]) rfl;simpa using this
theorem Ff {n:List UInt8} (h:∀ c∈n,¬ c=47) (q:List UInt8):dG (n++47::q)=n::dG q:=by
 have:=t6 n (47::q) h (mZ q);simpa using this
end
section
open Go.RowKit
theorem qZ {w:World} {b:Nat} {x:AD} {y:Option Addr} {c:Nat} {t:TypeId} (h:w.heap[b]? = some (.cells #[.string x.m,.int .i64 x.k,.int .i64 x.n,.string x.s,.slice y x.len c] t (0,0))):jV w b 0 x y c:=by
 refine ⟨?_,?_,?_,?_,?_⟩ <;> simp [World.cell?,h]
end
section
open Go.RowKit
def nmE (E:List (AD×VC)):List ByteArray:=E.map (fun e=>e.1.m)
def xC (w:World) (p:Nat) (F:Nat->Prop) (E:List (AD×VC)):Prop :=
 aS lsS (nmE E)/\MSV w p F (nmE E) (E.map (·.2))/\∀ e∈E,RO w F e
theorem xC.kept {w w':World} {p:Nat} {F:Nat->Prop} {E:List (AD×VC)} (h:xC w p F E) (hk:aC (fun _=>False) w w'):xC w' p F E :=
 ⟨h.1,h.2.1.kept hk (fun _ _ h=>h),fun e he=>(h.2.2 e he).kept hk (fun _ h _=>h.elim) (fun _ h _=>h)⟩
def putE (E:List (AD×VC)) (e:AD×VC):List (AD×VC):=if has (nmE E) e.1.m=true then E.set (pos lsS (nmE E) e.1.m) e else E.take (pos lsS (nmE E) e.1.m)++e::E.drop (pos lsS (nmE E) e.1.m)
theorem Ep {E:List (AD×VC)} (hr:aS lsS (nmE E)) (e:AD×VC):nmE (putE E e)=eF lsS (nmE E) e.1.m:=by
 unfold putE eF;by_cases h:has (nmE E) e.1.m=true
 · rw [if_pos h,if_pos h]
   have hp:=(d9 cN hr).1 ((gI _ _).1 h);unfold nmE at *;rw [List.map_set];apply List.ext_getElem?
   intro j;rw [List.getElem?_set];split
   · rename_i hj
     subst hj;rw [hp,if_pos (List.getElem?_eq_some_iff.1 hp).1]
   · rfl
 · rw [if_neg h,if_neg h]
   simp [nmE,List.map_take,List.map_drop]
theorem J4 (E:List (AD×VC)) (e:AD×VC):(putE E e).map (·.2)=Ko lsS (nmE E) (E.map (·.2)) e.1.m e.2:=by
 unfold putE Ko;by_cases h:has (nmE E) e.1.m=true
 · rw [if_pos h,if_pos h,List.map_set]
 · rw [if_neg h,if_neg h];simp [List.map_take,List.map_drop]
theorem IB {E:List (AD×VC)} {e x:AD×VC} (h:x∈putE E e):x∈E\/x=e:=by
 unfold putE at h;split at h
 · exact List.mem_or_eq_of_mem_set h
 · rcases List.mem_append.1 h with h | h
   · exact .inl (List.mem_of_mem_take h)
   · rcases List.mem_cons.1 h with h | h
     · exact .inr h
     · exact .inl (List.mem_of_mem_drop h)
theorem Ib (w:World) (p:Nat) (F:Nat->Prop) (E:List (AD×VC)) (e:AD×VC) (hn:E.length<=1000000) (h:xC w p F E) (he:RO w F e) :
 Calls Tryz.prog 95 #[.pointer (some ⟨p,0,none⟩),.string e.1.m,.agg #[.int .i64 e.2.k,.int .i64 e.2.n,.string e.2.s,.slice e.2.y e.2.len e.2.c]] w fun r w' =>
  r=.returned (.bool (!has (nmE E) e.1.m))/\∃ F',xC w' p F' (putE E e)/\Cq w F F'/\aC F w w':=by
 refine (Nj w p F (nmE E) (E.map (·.2)) e.1.m e.2 (by simpa [nmE] using hn) h.1 h.2.1).mono fun r w' ⟨hr,F',hm,hg,hk⟩=>⟨hr,F',⟨?_,?_,?_⟩,hg,hk⟩
 · rw [Ep h.1];exact dO cN h.1 _
 · rw [Ep h.1,J4];exact hm
 · intro x hx
   have hgg:∀ k,F' k->k<w.heap.size->F k:=fun k hf hl=>(hg k hf).elim (fun h=>h) (fun h=>by omega)
   rcases IB hx with hx | rfl
   · exact (h.2.2 x hx).kept hk (fun _ h _=>h) hgg
   · exact he.kept hk (fun _ h _=>h) hgg
end
section
open Go.RowKit
theorem ER (A:Nat->AD) (k:Nat):twsA A (k+1)=twsA A k++[twA (A k)]:=by simp [twsA,List.range_succ]
def J0 (w:World) (D:List AD) (e:Ending) (w':World):Prop :=
 (∃ p F E,e=.returned (.pointer (some ⟨p,0,none⟩))/\xC w' p F E/\E.map (·.1)=D/\(∀ k,F k->w.heap.size<=k))/\Below w.heap.size w w'
def ByK (w:World) (p:Nat) (A:Nat->AD) (k:Nat) (wr:World):Prop :=
 ∃ F E,xC wr p F E/\E.map (·.1)=twsA A k/\(∀ k,F k->w.heap.size<=k)/\Below w.heap.size w wr
theorem Iu {E:List (AD×VC)} {D:List AD} (h:E.map (·.1)=D):nmE E=D.map (·.m):=by rw [<- h];simp [nmE]
theorem Ia {A:Nat->AD} {n k:Nat} (hR:RiseA A n) (hk:k<n) {E:List (AD×VC)} (hE:E.map (·.1)=twsA A k) (v:VC):has (nmE E) (A k).m=false/\putE E (twA (A k),v)=E++[(twA (A k),v)]:=by
 have hlen:E.length=k:=by have:=congrArg List.length hE;simpa [twsA] using this
 have hnm:nmE E=(List.range k).map (fun j=>(A j).m):=by rw [Iu hE];simp [twsA,twA]
 have hlt:∀ x∈nmE E,lsS x (A k).m=true:=by
  intro x hx;rw [hnm] at hx;obtain ⟨j,hj,rfl⟩:=List.mem_map.1 hx;exact hR j k (List.mem_range.1 hj) hk
 have hh:has (nmE E) (A k).m=false:=vF (fun h=>by have:=hlt _ h;rw [cN.irrefl] at this;cases this)
 have hp:pos lsS (nmE E) (A k).m=k:=by
  refine uG (by rw [hnm];simp) (fun t x _ hx=>hlt x (List.mem_of_getElem? hx)) (fun x hx=>?_);rw [hnm,List.getElem?_eq_none (by simp)] at hx;cases hx
 refine ⟨hh,?_⟩;unfold putE;show (if has (nmE E) (A k).m=true then _ else E.take (pos lsS (nmE E) (A k).m)++(twA (A k),v)::E.drop (pos lsS (nmE E) (A k).m))=_;rw [hh,if_neg (by simp),hp,List.take_of_length_le (by omega),List.drop_of_length_le (by omega)]
theorem Bg (w:World) (p:Nat) (F:Nat->Prop) (E:List (AD×VC)) (x:AD) (a3:Option Addr) (c3:Nat) (hn:E.length<=1000000) (h:xC w p F E) (he:RO w F (twA x,⟨x.k,twN x.k x.n,twS x.k x.s,a3,twL x.k x.len,c3⟩)) :
 Calls Tryz.prog 95 #[.pointer (some ⟨p,0,none⟩),.string x.m,.agg #[.int .i64 x.k,.int .i64 (twN x.k x.n),.string (twS x.k x.s),.slice a3 (twL x.k x.len) c3]] w fun r w' =>
  r=.returned (.bool (!has (nmE E) x.m))/\∃ F',xC w' p F' (putE E (twA x,⟨x.k,twN x.k x.n,twS x.k x.s,a3,twL x.k x.len,c3⟩))/\Cq w F F'/\aC F w w':=Ib w p F E _ hn h he
theorem dX {w w':World} (h:Below w.heap.size w w'):aC (fun _=>False) w w':=⟨h.os,h.tape,h.output,h.size,fun k hk _=>h.block k hk⟩
theorem DO (a:Option Addr) (n c:Nat) (A:Nat->AD) (hn:n<=1000) (hl:∀ j,j<n->(A j).len<=1000000) (hR:RiseA A n) (w:World) (h:ReadsA w a n A) :
 Calls Tryz.prog 94 #[.slice a n c] w (J0 w (twsA A n)):=by
 have R:=aA h;have HL:=aA hl;have HR:=aA hR;clear h hl hR;go_enter Tryz.func94,Tryz.ntmps94
 go_wp2_with fail
 refine (Ns w).mono ?_;rintro e w1 ⟨rfl,hm,hk⟩;have K1:Hid (ByK w w.heap.size A 0 w1):=aA ⟨_,[],⟨List.Pairwise.nil,hm,fun _ h=>by cases h⟩,rfl,fun k hk=>by subst hk;exact Nat.le_refl _,hk.below (fun _ h=>h.elim) (Nat.le_refl _)⟩;clear hm hk;go_wp2_with fail
 go_loopw [9] (fun i wr=>∃ k:Nat,i=.int .i64 k/\k<=n/\Hid (ByK w w.heap.size A k wr)) (fun i _=>n-(intOf i).toNat)
 case atStart=>exact ⟨0,rfl,Nat.zero_le _,K1⟩
 case round =>
  obtain ⟨k,rfl,hk,K2⟩:=hrel;clear K1;by_cases hlt:k<n
  · obtain ⟨F,E,hM,hE,hF,hB⟩:=K2.out
    obtain ⟨-,hc⟩:=R.out;obtain ⟨b,off,rfl,hcs⟩:=hc.resolve_left (by omega);obtain ⟨y,cy,h50,hrd⟩:=hcs k hlt;have h5:=h50.kept hB;have hlk:=HL.out k hlt;have hend:=fun v=>Ia HR.out hlt hE v
    have hts:=ER A k;obtain ⟨x,hx⟩:∃ x,A k=x:=⟨_,rfl⟩;rw [hx] at h5 h50 hrd hlk hend hts;have bA:∀ o,Below wr.heap.size wr (wr.alloc o):=fun o=>bA0 _ _
    have TW:=aA (p:=∀ w',Below w.heap.size w w'->Calls Tryz.prog 96 #[.agg #[.int .i64 x.k,.int .i64 x.n,.string x.s,.slice y x.len cy]] w' (sN w' x.k x.n x.s x.len x.z)) (fun w' hb=>tV x.k x.n x.s y x.len cy x.z hlk w' (hrd.kept hb));have hel:E.length<=1000000:=by have:=congrArg List.length hE;simp [twsA] at this;omega
    have hz:=hB.size;have HM:=aA (And.intro hM (And.intro hE (And.intro hF hB)));have HEND:=aA hend;have HTS:=aA hts;obtain ⟨d0,d1,d2,d3,d4⟩:=h5;clear hcs hrd h50 hx hc hM hE hF hB hend hts bA;go_wp2_with fail
    generalize hW:World.alloc wr _=W;have hWb:Below wr.heap.size wr W:=by rw [<- hW];exact bA0 _ _
    have hW5:W.heap[wr.heap.size]? = some (.cells #[.string x.m,.int .i64 x.k,.int .i64 x.n,.string x.s,.slice y x.len cy] 62 (0,0)):=by rw [<- hW];exact heap_alloc_new wr _
    clear hW d0 d1 d2 d3 d4;obtain ⟨d0,d1,d2,d3,d4⟩:=qZ hW5;have hdr:Below W.heap.size W W.drew:=⟨rfl,rfl,rfl,Nat.le_refl _,fun _ _=>rfl⟩;have HW:=aA (And.intro hWb (And.intro hW5 hdr));have hszW:=hWb.size;clear hWb hW5 hdr
    go_region_with (first
     | (go_at_call 96
        with_reducible refine (TW.out _ (HM.out.2.2.2.trans ((HW.out.1.trans (HW.out.2.2.mono hszW)).mono hz))).mono ?_
        rintro e w3 ⟨⟨a3,c3,rfl,hn3,hr3⟩,hb3⟩;have B3:=aA ((HW.out.1.trans (HW.out.2.2.mono hszW)).trans (hb3.mono (by show _<=W.heap.size;exact hszW)));have R3:=aA (And.intro (hr3 w3 (aC.refl _ _)) hn3);have hz3:=hb3.size;have hl5:=lt_of_block HW.out.2.1;clear d0 d1 d2 d3 d4;obtain ⟨d0,d1,d2,d3,d4⟩:=qZ ((hb3.block wr.heap.size (by show _<W.heap.size;exact hl5)).trans HW.out.2.1);have M3:=aA (HM.out.1.kept (dX B3.out));have RO3:Hid (RO w3 F (twA x,⟨x.k,twN x.k x.n,twS x.k x.s,a3,twL x.k x.len,c3⟩)):=aA ⟨rfl,rfl,rfl,rfl,R3.out.1,.inr (fun q hq hFq=>by have h1:=hn3 q hq;have h2:=HM.out.1.2.1.lt _ hFq;have h3:W.drew.heap.size=W.heap.size:=rfl;omega)⟩;clear hb3 hr3 hn3 R3)
     | (go_at_call 95
        with_reducible refine (Bg w3 w.heap.size F E x a3 c3 hel M3.out RO3.out).mono ?_
        rintro e w4 ⟨rfl,F',hm4,hg4,hk4⟩;have K4:=aA (And.intro hm4 (And.intro hg4 hk4));clear hm4 hg4 hk4)
     | fail)
    all_goals
     have K5:Hid (ByK w w.heap.size A (k+1) w4):=aA (by
      obtain ⟨hm4,hg4,hk4⟩:=K4.out;obtain ⟨-,hE,hF,hB⟩:=HM.out;rw [(HEND.out _).2] at hm4;refine ⟨F',_,hm4,by rw [List.map_append,hE,HTS.out];rfl,fun q hq=>?_,(hB.trans (B3.out.mono hz)).trans (hk4.below hF (by have:=B3.out.size;omega))⟩;rcases hg4 q hq with h | h
      · exact hF q h
      · have:=B3.out.size;omega)
     clear K4 M3 RO3 B3 HW HM TW HEND HTS d0 d1 d2 d3 d4;go_wp2
     go_roundw
     case rel=>exact ⟨k+1,by go_num,by omega,K5⟩
     case measure=>simp [intOf];omega
  · obtain rfl:k=n:=by omega
    obtain ⟨F,E,hM,hE,hF,hB⟩:=K2.out;have P:=aA (show J0 w (twsA A k) (.returned (.pointer (some ⟨w.heap.size,0,none⟩))) wr from ⟨⟨_,F,E,rfl,hM,hE,hF⟩,hB⟩);clear hM hE hF hB;go_wp2_with fail
    go_ret;exact P.out
end
section
open Go.RowKit
def dE:AD×VC:=(dA,⟨0,0,⟨#[]⟩,none,0,0⟩)
def wM (w:World) (D:List AD) (e:Ending) (w':World):Prop :=
 (∃ a c,e=.returned (.slice a D.length c)/\ReadsA w' a D.length (atD D))/\Below w.heap.size w w'
def vN (e:AD×VC):List Value:=[.string e.1.m,.int .i64 e.2.k,.int .i64 e.2.n,.string e.2.s,.slice e.2.y e.2.len e.2.c]
def nP (E:List (AD×VC)) (k:Nat):List Value:=nQ (fun j=>let e:=E.getD j dE;⟨e.1.m,e.2.k,e.2.n,e.2.s,e.2.len,e.1.z⟩) (fun j=>(E.getD j dE).2.y) (fun j=>(E.getD j dE).2.c) k
theorem Ci {E:List (AD×VC)} {k:Nat} {e:AD×VC} (h:E[k]? = some e):nP E (k+1)=nP E k++vN e:=by
 have:E.getD k dE=e:=by simp [List.getD,h]
 unfold nP;rw [nQ,this];rfl
theorem GE (e:AD×VC):∀ u∈vN e,u.oneCell'=true:=by
 intro u hu;simp only [vN,List.mem_cons,List.not_mem_nil,or_false] at hu;rcases hu with rfl | rfl | rfl | rfl | rfl <;> rfl
theorem FG (w:World) (e:AD×VC):∀ j u,(vN e)[j]? = some u->(w.alloc (.cells #[.string e.1.m,.int .i64 e.2.k,.int .i64 e.2.n,.string e.2.s,.slice e.2.y e.2.len e.2.c] 62)).cell? ((⟨w.heap.size,0,none⟩:Addr).add j)=some u:=fun j u hj=>by
 rw [Addr.add_lit,Nat.zero_add,cell_of_row _ _ _ _ _ (0,0) (heap_alloc_new w _)];simpa [vN] using hj
theorem C9 {w:World} {a:Option Addr} {n:Nat} {A A':Nat->AD} (h:ReadsA w a n A) (he:∀ j,j<n->A j=A' j):ReadsA w a n A':=by
 refine ⟨h.1,h.2.imp id ?_⟩;rintro ⟨b,off,rfl,hc⟩;exact ⟨b,off,rfl,fun j hj=>by rw [<- he j hj];exact hc j hj⟩
theorem KY {w:World} {F:Nat->Prop} {E:List (AD×VC)} {base:Nat} {t:TypeId} {va:Option Addr} {vl vc:Nat} (h:w.ownsRow base t 5 (.slice va vl vc) E.length (nP E E.length)) (hr:∀ e∈E,RO w F e) :
 ∃ a c,Ending.returned (.slice va vl vc)=.returned (.slice a (E.map (·.1)).length c)/\ReadsA w a (E.map (·.1)).length (atD (E.map (·.1))):=by
 have hat:∀ j,j<E.length->(⟨(E.getD j dE).1.m,(E.getD j dE).2.k,(E.getD j dE).2.n,(E.getD j dE).2.s,(E.getD j dE).2.len,(E.getD j dE).1.z⟩:AD)=atD (E.map (·.1)) j:=fun j hj=>by
  have hm:E.getD j dE∈E:=by simp [List.getD,List.getElem?_eq_getElem hj]
  obtain ⟨h1,h2,h3,h4,_⟩:=hr _ hm;have e0:atD (E.map (·.1)) j=(E.getD j dE).1:=by simp [atD,List.getD,List.getElem?_eq_getElem hj]
  rw [e0,h1,h2,h3,h4]
 obtain ⟨a,c,hv,hA⟩:=C8 h (fun j hj=>by
  have hm:E.getD j dE∈E:=by simp [List.getD,List.getElem?_eq_getElem hj]
  obtain ⟨_,_,_,h4,h5,_⟩:=hr _ hm;show Reads w _ (E.getD j dE).2.len _;rw [h4];exact h5)
 refine ⟨a,c,by rw [hv,List.length_map],?_⟩;rw [List.length_map];exact C9 hA hat
theorem II:(Tryz.prog.info? 62).map (fun i=>(i.zero,i.size,i.bytes))=some (some (.agg #[.string ⟨#[]⟩,.int .i64 0,.int .i64 0,.string ⟨#[]⟩,.slice none 0 0]),5,72):=by kernel_rfl
theorem IG (p:Nat) (F:Nat->Prop) (E:List (AD×VC)) (hn:E.length<=1000) (w:World) (h:xC w p F E) :
 Calls Tryz.prog 98 #[.pointer (some ⟨p,0,none⟩)] w (wM w (E.map (·.1))):=by
 obtain ⟨i0,hi,hz0,hz1,hz2⟩:=info_parts II;have und:Tryz.prog.underlying 39=some (.slice 62):=Tryz.underlying39;have hl:(nmE E).length=E.length:=by simp [nmE]
 have LN:=aA (p:=∀ w',aC (fun _=>False) w w'->Calls Tryz.prog 97 #[.pointer (some ⟨p,0,none⟩)] w' fun e w''=>e=.returned (.int .i64 (E.length:Nat))/\w'=w'') (fun w' k=>by have:=Mb w' p F (nmE E) (E.map (·.2)) (h.kept k).2.1;rwa [hl] at this);have H:=aA h;clear h hl;go_enter Tryz.func98,Tryz.ntmps98
 go_wp2_with fail
 refine (LN.out _ (aC.refl _ _)).mono ?_;rintro e w1 ⟨rfl,rfl⟩;go_wp2_with (at_make;refine wpList_make_own _ rfl _ _ 39 rfl w.heap.size 62 i0 _ 5 und hi hz0 hz1 .i64 .i64 _ E.length rfl rfl rfl (by rw [hz2];omega) (by unfold maxLen;omega) (Nat.le_refl _) ?_)
 intro w2 ho hg;have O2:=aA ho;have B2:=aA (p:=Below w.heap.size w w2) ((Below.refl _ _).grown hg (Nat.le_refl _) (fun k h=>by cases h));clear ho hg;go_wp2_with fail
 refine (LN.out _ (dX B2.out)).mono ?_;rintro e w1 ⟨rfl,rfl⟩;go_wp2_with fail
 go_loopw [3,13] (fun v i wr=>∃ (k:Nat) (va:Option Addr) (vl vc:Nat),v=.slice va vl vc/\i=.int .i64 k/\k<=E.length/\Hid (wr.ownsRow w.heap.size 62 5 (.slice va vl vc) k (nP E k))/\Hid (Below w.heap.size w wr)) (fun _ i _=>E.length-(intOf i).toNat)
 case atStart=>exact ⟨0,_,_,_,rfl,rfl,Nat.zero_le _,O2,B2⟩
 case round =>
  obtain ⟨k,va,vl,vc,rfl,rfl,hk,hO,hB⟩:=hrel;by_cases hlt:k<E.length
  · obtain ⟨x,hx⟩:∃ x,E[k]? = some x:=⟨_,List.getElem?_eq_getElem hlt⟩
    have hnx:nP E (k+1)=nP E k++vN x:=Ci hx;have NX:=aA hnx;have AT:=aA (fun (w':World) (hb:Below w.heap.size w w')=>M8 w' p F (nmE E) (E.map (·.2)) k x.1.m x.2 (by simp [nmE,hx]) (by simp [hx]) (by simp [nmE];omega) (H.out.kept (dX hb)).2.1);clear hnx;have hdr:Below wr.heap.size wr wr.drew:=⟨rfl,rfl,rfl,Nat.le_refl _,fun _ _=>rfl⟩;go_wp2_with fail
    refine (AT.out wr hB.out).mono ?_;rintro e w3 ⟨rfl,hb⟩;have B3:=aA (hB.out.trans (hb.mono hB.out.size));have O3:=aA (cI hO.out hb);clear hb;have hz3:=B3.out.size;obtain ⟨w4,hw4⟩:∃ w4,w3.alloc (.cells #[.int .i64 x.2.k,.int .i64 x.2.n,.string x.2.s,.slice x.2.y x.2.len x.2.c] 60)=w4:=⟨_,rfl⟩;have O4:=aA (hw4 ▸ O3.out.alloc _);have B4:=aA (hw4 ▸ B3.out.alloc hz3 _);have hz4:w4.heap.size=w3.heap.size+1:=by subst hw4;simp
    have W4:=aA hw4;have NEW:=aA (FG w4 x);clear hw4;go_wp2_with (at_builtin;rw [W4.out];(refine wpList_append_own _ rfl _ _ 39 rfl w.heap.size 62 i0 _ 5 72 und hi hz0 hz1 hz2 rfl (by decide) _ _ _ rfl (O4.out.alloc _) ⟨w4.heap.size,0,none⟩ 1 1 (vN x) (by rw [hz4];rfl) rfl NEW.out (GE x) (by unfold maxLen;omega) (by omega) (by simp;omega) ?_);intro v5 w5 hown5 hgrow5 _;have O5:=aA hown5;have G5:=aA hgrow5;clear hown5 hgrow5)
    obtain ⟨va',vl',vc',rfl⟩:=Fz O5.out;have O6:=aA (p:=w5.ownsRow w.heap.size 62 5 (.slice va' vl' vc') (k+1) (nP E (k+1))) (by rw [NX.out];exact O5.out);have B5:=aA ((B4.out.alloc (by omega) (.cells #[.string x.1.m,.int .i64 x.2.k,.int .i64 x.2.n,.string x.2.s,.slice x.2.y x.2.len x.2.c] 62)).grown G5.out (by have:=B4.out.size;simp;omega) (fun q hq=>(O4.out.lt q hq).1));go_roundw
    case rel=>exact ⟨k+1,va',vl',vc',rfl,by go_num,by omega,O6,B5⟩
    case measure=>simp [intOf];omega
  · obtain rfl:k=E.length:=by omega
    have hl:vl=E.length:=by
     rcases hO.out.2 with ⟨h,h'⟩ | ⟨g,cap,_,h,_⟩
     · simp only [Value.slice.injEq] at h;omega
     · simp only [Value.slice.injEq] at h;omega
    subst hl;have P:=aA (show wM w (E.map (·.1)) (.returned (.slice va E.length vc)) wr from ⟨KY hO.out (fun e he=>((H.out.2.2 e he).kept (dX hB.out) (fun _ h _=>h.elim) (fun _ h _=>h))),hB.out⟩);go_wp2_with fail
    go_ret;exact P.out
end
section
open Go.RowKit
theorem Iv (E:List (AD×VC)):nmE E=nmD (E.map (·.1)):=Iu rfl
theorem IE (E:List (AD×VC)) (e:AD×VC):(putE E e).map (·.1)=putD (E.map (·.1)) e.1:=by
 unfold putE putD;rw [<- Iv];split
 · rw [List.map_set]
 · rw [List.map_append,List.map_cons,List.map_take,List.map_drop]
end
section
open Go.RowKit
def errSet (D:List AD) (x:AD):Int:=if bD x.m.data.toList=false then 5 else if errV x.k x.s x.len x.z=0 then (if has (nmD D) x.m=false/\32<=D.length then 4 else 0) else errV x.k x.s x.len x.z
def SetPost (w:World) (D:List AD) (x:AD) (e:Ending) (w':World):Prop :=
 (if errSet D x=0 then (∃ a c,e=.returned (.tuple #[.slice a (putD D (twA x)).length c,.int .i64 0])/\ReadsA w' a (putD D (twA x)).length (atD (putD D (twA x))))
  else e=.returned (.tuple #[.slice none 0 0,.int .i64 (errSet D x)]))/\Below w.heap.size w w'
theorem Ic (D:List AD) (x:AD):(putD D x).length=if has (nmD D) x.m=true then D.length else D.length+1:=by
 unfold putD;split
 · simp
 · simp only [List.length_append,List.length_take,List.length_cons,List.length_drop];omega
theorem setL_any (a:Option Addr) (n c:Nat) (A:Nat->AD) (x:AD) (y:Option Addr) (cy:Nat) (hn:n<=999) (hl:∀ j,j<n->(A j).len<=1000000) (hR:RiseA A n) (hm:x.m.size<=281474976710656) (hs:x.s.size<=281474976710656) (hx:x.len<=1000000) (w:World) (h:ReadsA w a n A) (hy:Reads w y x.len x.z) :
 Calls Tryz.prog 44 #[.slice a n c,.string x.m,.agg #[.int .i64 x.k,.int .i64 x.n,.string x.s,.slice y x.len cy]] w (SetPost w (twsA A n) x):=by
 have CH:=aA (fun (w':World) (hb:Below w.heap.size w w')=>GZ x.k x.n x.s hs y x.len cy x.z w' (hy.kept hb));unfold val at CH;have NA:=aA (fun w'=>i8 x.m hm w');have BL:∀ o,Below w.heap.size w (w.alloc o):=fun o=>bA0 _ _
 have BLx:=aA BL;clear BL;by_cases h1:bD x.m.data.toList=false
 · have P:=aA (p:=∀ w',Below w.heap.size w w'->SetPost w (twsA A n) x (.returned (.tuple #[.slice none 0 0,.int .i64 5])) w') (fun w' hb=>by
    have he:errSet (twsA A n) x=5:=by unfold errSet;rw [if_pos h1]
    exact ⟨by rw [if_neg (by rw [he];decide),he],hb⟩)
   go_enter Tryz.func44,Tryz.ntmps44
   go_wp2_with fail
   refine (NA.out _).mono ?_;rintro e w2 ⟨rfl,rfl⟩;go_wp2_with fail
   go_ret2;exact P.out _ (BLx.out _)
 have h1':bD x.m.data.toList=true:=by simpa using h1
 rw [h1'] at NA
 have SE:errSet (twsA A n) x=if errV x.k x.s x.len x.z=0 then (if has (nmD (twsA A n)) x.m=false/\32<=(twsA A n).length then 4 else 0) else errV x.k x.s x.len x.z:=by
  unfold errSet;rw [if_neg h1]
 have hlen:(twsA A n).length=n:=by simp [twsA]
 rw [hlen] at SE;have RI:=aA h;have RL:=aA hl;have RR:=aA hR;have HY:=aA hy;have HLn:=aA hlen;clear h hl hR hy hlen;go_enter Tryz.func44,Tryz.ntmps44
 go_wp2_with fail
 generalize hW:World.alloc w _=W;have hWb:Below w.heap.size w W:=by rw [<- hW];exact BLx.out _
 have hW4:W.heap[w.heap.size]? = some (.cells #[.int .i64 x.k,.int .i64 x.n,.string x.s,.slice y x.len cy] 60 (0,0)):=by rw [<- hW];exact heap_alloc_new w _
 clear hW;obtain ⟨⟨c0,c1,c2,c3⟩, -⟩:=aL hW4;have HW:=aA (And.intro hWb hW4);have hsW:=hWb.size;have hlW:=lt_of_block hW4;clear hWb hW4;refine (NA.out _).mono ?_;rintro e w2 ⟨rfl,rfl⟩;by_cases h2:errV x.k x.s x.len x.z=0
 · rw [h2] at CH
   rw [if_pos h2] at SE;have SEx:=aA SE;clear SE;go_wp2_with fail
   refine (CH.out _ HW.out.1).mono ?_;rintro e w3 ⟨rfl,hb3⟩;have hl3:w.heap.size<w3.heap.size:=by have:=hb3.size;omega
   have B3:=aA (p:=Below w.heap.size w w3) (HW.out.1.trans (hb3.mono hsW));have V3:=aA ((hb3.block w.heap.size hlW).trans HW.out.2);have BY:=aA (DO a n c A (by omega) RL.out RR.out w3 (RI.out.kept B3.out));clear hb3 c0 c1 c2 c3;go_wp2_with fail
   refine BY.out.mono ?_;rintro e w4 ⟨⟨p,F,E,rfl,hM,hE,hF⟩,hb4⟩;have hel:E.length=n:=by have h1:=congrArg List.length hE;rw [List.length_map,HLn.out] at h1;exact h1
   have V4:=aA ((hb4.block w.heap.size hl3).trans V3.out);have B4:=aA (p:=Below w.heap.size w w4) (B3.out.trans (hb4.mono B3.out.size));have hl4:w.heap.size<w4.heap.size:=by have:=hb4.size;omega
   have hz4:=hb4.size;have hz3:=B3.out.size;have ME:=aA (And.intro hM (And.intro hE hF));obtain ⟨⟨c0,c1,c2,c3⟩, -⟩:=aL V4.out;clear hM hE hF hb4;go_wp2_with fail
   have TW:=aA (tV x.k x.n x.s y x.len cy x.z hx w4 (HY.out.kept B4.out));clear c0 c1 c2 c3;refine TW.out.mono ?_;rintro e w5 ⟨⟨a5,c5,rfl,hn5,hr5⟩,hb5⟩;have B5:=aA (p:=Below w.heap.size w w5) (B4.out.trans (hb5.mono (by omega)));have M5:=aA (ME.out.1.kept (dX hb5));have RO5:Hid (RO w5 F (twA x,⟨x.k,twN x.k x.n,twS x.k x.s,a5,twL x.k x.len,c5⟩)):=aA ⟨rfl,rfl,rfl,rfl,hr5 w5 (aC.refl _ _),.inr (fun q hq hFq=>by have h1:=hn5 q hq;have h2:=ME.out.1.2.1.lt _ hFq;omega)⟩;have hz5:=hb5.size;clear hn5 hr5 hb5;go_wp2_with fail
   refine (Bg w5 p F E x a5 c5 (by omega) M5.out RO5.out).mono ?_;rintro r w6 ⟨rfl,F6,hm6,hg6,hk6⟩;have hpe:=IE E (twA x,⟨x.k,twN x.k x.n,twS x.k x.s,a5,twL x.k x.len,c5⟩);rw [ME.out.2.1] at hpe;have hF5:∀ k,F k->w.heap.size<=k:=fun k hk=>by have:=ME.out.2.2 k hk;omega
   have B6:=aA (p:=Below w.heap.size w w6) (B5.out.trans (hk6.below hF5 B5.out.size));have HH:has (nmE E) x.m=has (nmD (twsA A n)) x.m:=by rw [Iv,ME.out.2.1]
   have hpl:=Ic (twsA A n) (twA x);rw [show (twA x).m=x.m from rfl,HLn.out, <- hpe,List.length_map] at hpl;rw [HH];clear HH hF5 hg6 hk6;generalize putE E (twA x,⟨x.k,twN x.k x.n,twS x.k x.s,a5,twL x.k x.len,c5⟩)=E6 at hm6 hpe hpl;have LI:=aA (fun hq=>IG p F6 E6 hq w6 hm6);have LE:=aA (Mb w6 p F6 (nmE E6) (E6.map (·.2)) hm6.2.1);rw [show (nmE E6).length=E6.length by simp [nmE]] at LE;have PE:=aA hpe;clear hm6 hpe M5 RO5
   have last:∀ (hne:E6.length<=1000) (hok:errSet (twsA A n) x=0),Hid (∀ e w7,wM w6 (E6.map (·.1)) e w7->∃ a7 c7,e=.returned (.slice a7 E6.length c7)/\SetPost w (twsA A n) x (.returned (.tuple #[.slice a7 E6.length c7,.int .i64 0])) w7):=fun hne hok=>aA (by
    rintro e w7 ⟨⟨a7,c7,rfl,hr7⟩,hb7⟩;refine ⟨a7,c7,by rw [List.length_map],?_,B6.out.trans (hb7.mono B6.out.size)⟩;rw [if_pos hok, <- PE.out];exact ⟨a7,c7,by rw [List.length_map],hr7⟩)
   by_cases h3:has (nmD (twsA A n)) x.m=true
   · rw [if_pos h3] at hpl
     have LA:=last (by omega) (by rw [SEx.out,if_neg (by rw [h3];simp)]);rw [h3];clear last;go_wp2_with fail
     refine (LI.out (by omega)).mono ?_;intro e w7 h7;obtain ⟨a7,c7,rfl,hp7⟩:=LA.out e w7 h7;rw [hpl] at hp7;have P:=aA hp7;clear h7 hp7;go_wp2_with fail
     go_ret2;exact P.out
   · have h3':has (nmD (twsA A n)) x.m=false:=by simpa using h3
     rw [if_neg h3] at hpl;rw [h3'];by_cases h4:32<=n
     · have P:=aA (show SetPost w (twsA A n) x (.returned (.tuple #[.slice none 0 0,.int .i64 4])) w6 from by
        have he:errSet (twsA A n) x=4:=by rw [SEx.out];exact if_pos ⟨h3',h4⟩
        exact ⟨by rw [if_neg (by rw [he];decide),he],B6.out⟩)
       clear last;go_wp2_with fail
       refine LE.out.mono ?_;rintro e w7 ⟨rfl,rfl⟩;go_wp2_with fail
       go_ret2;exact P.out
     · have LA:=last (by omega) (by rw [SEx.out,if_neg (fun h=>h4 h.2)])
       clear last;go_wp2_with fail
       refine LE.out.mono ?_;rintro e w7 ⟨rfl,rfl⟩;go_wp2_with fail
       refine (LI.out (by omega)).mono ?_;intro e w7 h7;obtain ⟨a7,c7,rfl,hp7⟩:=LA.out e w7 h7;rw [hpl] at hp7;have P:=aA hp7;clear h7 hp7;go_wp2_with fail
       go_ret2;exact P.out
 · rw [if_neg h2] at SE
   have SEx:=aA SE;clear SE;go_wp2_with fail
   refine (CH.out _ HW.out.1).mono ?_;rintro e w3 ⟨rfl,hb3⟩;have P:=aA (show SetPost w (twsA A n) x (.returned (.tuple #[.slice none 0 0,.int .i64 (errV x.k x.s x.len x.z)])) w3 from ⟨by rw [SEx.out,if_neg h2],HW.out.1.trans (hb3.mono hsW)⟩);clear hb3;go_wp2_with fail
   go_ret2;exact P.out
end
section
open Go.RowKit
def cutL:List UInt8->Option (List (List UInt8))
 | []=>none
 | c::r=>if c=47 then (if r=[] then some [] else some (dG r)) else none
def errQ (q:List (List UInt8)):Int:=if q.all bD=true then if q.length<=4 then 0 else 4 else 2
def errP (l:List UInt8):Int:=match cutL l with
 | none=>2
 | some q=>errQ q
def partsP (l:List UInt8):List (List UInt8):=match cutL l with
 | none=>[]
 | some q=>if errQ q=0 then q else []
def bN (q:List (List UInt8)):List UInt8:=q.flatMap (fun a=>47::a)
def Ee (q:List (List UInt8)):List UInt8:=if q=[] then [47] else bN q
theorem yJ:bN []=[]:=rfl
theorem cJ (a:List UInt8) (q:List (List UInt8)):bN (a::q)=47::(a++bN q):=by simp [bN]
theorem Gc (p q:List (List UInt8)):bN (p++q)=bN p++bN q:=by simp [bN]
theorem yI (a:List UInt8):bN [a]=47::a:=by simp [bN]
theorem BK {q:List (List UInt8)} (h:bN q=[]):q=[]:=by
 cases q with
 | nil=>rfl
 | cons a q=>rw [cJ] at h;cases h
theorem jP:∀ r:List UInt8,bN (dG r)=47::r
 | []=>by simp [dG,bN]
 | c :: r => by
   have ih:=jP r;by_cases h:c=47
   · subst h;rw [mZ,cJ,ih];rfl
   · obtain ⟨a,b,e⟩:=zE r
     rw [rJ h r e,cJ];rw [e,cJ] at ih;simp at ih;simp [ih]
def JX (q:List (List UInt8)):Prop:=∀ a∈q,∀ c∈a,¬ c=47
theorem tZ:∀ (q:List (List UInt8)) (a:List UInt8),JX (a::q)->dG (a++bN q)=a::q
 | [],a,h=>by rw [yJ,List.append_nil];exact Fe (h a (by simp))
 | b :: q, a, h => by
   rw [cJ,Ff (h a (by simp)),tZ q b (fun x hx=>h x (by simp only [List.mem_cons] at hx |-;exact .inr hx))]
theorem rK:∀ r:List UInt8,JX (dG r)
 | []=>by intro a ha;simp [dG] at ha;subst ha;simp
 | c :: r => by
   have ih:=rK r;by_cases h:c=47
   · subst h
     rw [mZ];intro a ha;rcases List.mem_cons.1 ha with rfl | ha
     · simp
     · exact ih a ha
   · obtain ⟨a,b,e⟩:=zE r
     rw [rJ h r e];rw [e] at ih;intro x hx;rcases List.mem_cons.1 hx with rfl | hx
     · intro d hd
       rcases List.mem_cons.1 hd with rfl | hd
       · exact h
       · exact ih a (by simp) d hd
     · exact ih x (by simp [hx])
theorem sG {q:List (List UInt8)}:errQ q=0 ↔ q.all bD=true/\q.length<=4:=by
 unfold errQ;by_cases h:q.all bD=true
 · rw [if_pos h]
   by_cases h4:q.length<=4
   · rw [if_pos h4];exact ⟨fun _=>⟨h,h4⟩,fun _=>rfl⟩
   · rw [if_neg h4];exact ⟨fun e=>absurd e (by decide),fun e=>absurd e.2 h4⟩
 · rw [if_neg h];exact ⟨fun e=>absurd e (by decide),fun e=>absurd e.1 h⟩
theorem Fp {l:List UInt8} (h:¬ errP l=0):partsP l=[]:=by
 unfold errP at h;unfold partsP;split
 · rfl
 · next q e=>rw [e] at h;exact if_neg h
theorem tC (r:List UInt8):cutL (47::r)=if r=[] then some [] else some (dG r):=rfl
theorem Cd {c:UInt8} (h:¬ c=47) (r:List UInt8):cutL (c::r)=none:=if_neg h
theorem Ju {q:List (List UInt8)} (hne:¬ q=[]) (h1:¬ q=[[]]) (hf:JX q):cutL (bN q)=some q:=by
 cases q with
 | nil=>exact absurd rfl hne
 | cons a q =>
   rw [cJ,tC,if_neg,tZ q a hf];intro e;have h2:=List.append_eq_nil_iff.1 e;have h3:=BK h2.2;rw [h2.1,h3] at h1;exact h1 rfl
theorem Jt {l:List UInt8} {q:List (List UInt8)} (h:cutL l=some q):l=Ee q/\JX q/\¬ q=[[]]:=by
 cases l with
 | nil=>cases h
 | cons c r =>
   by_cases hc:c=47
   · subst hc
     rw [tC] at h;by_cases hr:r=[]
     · subst hr;rw [if_pos rfl] at h;cases h;exact ⟨rfl,fun _ h=>by simp at h,by simp⟩
     · rw [if_neg hr] at h;cases h
       refine ⟨?_,rK r,?_⟩
       · rw [Ee,if_neg (zD r),jP]
       · intro e
         have:=jP r;rw [e,yI] at this;simp at this;exact hr this
   · rw [Cd hc] at h;cases h
theorem If {l:List UInt8} (h:errP l=0):(partsP l).all bD=true/\(partsP l).length<=4/\Ee (partsP l)=l/\cutL l=some (partsP l):=by
 unfold errP at h;split at h
 · exact absurd h (by decide)
 · next q e =>
   have hq:partsP l=q:=by unfold partsP;rw [e];exact if_pos h
   rw [hq];have:=sG.1 h;exact ⟨this.1,this.2,(Jt e).1.symm,e⟩
def depthP (s:List UInt8):Int:=if errP s=0 then ((partsP s).length:Int) else -1
def BZ:List UInt8->List UInt8
 | []=>[]
 | c::r=>if c=47 then r.takeWhile (fun d=> !(d == 47)) else []
def xQ:List UInt8->List UInt8
 | []=>[]
 | c::r=>if c=47 then r.dropWhile (fun d=> !(d == 47)) else []
theorem rI:∀ (n q:List UInt8),(∀ c∈n,¬ c=47)->(∀ d r,q=d::r->d=47)->(n++q).takeWhile (fun d=> !(d == 47))=n/\(n++q).dropWhile (fun d=> !(d == 47))=q
 | [], q, _, h => by
   cases q with
   | nil=>exact ⟨rfl,rfl⟩
   | cons d r=>have:=h d r rfl;subst this;exact ⟨by simp,by simp⟩
 | c :: n, q, hn, h => by
   have:=rI n q (fun x hx=>hn x (by simp [hx])) h;have hc:(!(c == 47))=true:=by simp [hn c (by simp)]
   have e1:=List.takeWhile_cons_of_pos (p:=fun d:UInt8=> !(d == 47)) (l:=n++q) hc;have e2:=List.dropWhile_cons_of_pos (p:=fun d:UInt8=> !(d == 47)) (l:=n++q) hc;rw [this.1] at e1;rw [this.2] at e2;exact ⟨e1,e2⟩
theorem Gb (q:List (List UInt8)):∀ d r,bN q=d::r->d=47:=by
 intro d r h;cases q with
 | nil=>cases h
 | cons a q=>rw [cJ] at h;cases h;rfl
theorem Gt {a:List UInt8} {q:List (List UInt8)} (h:∀ c∈a,¬ c=47):BZ (bN (a::q))=a/\xQ (bN (a::q))=bN q:=by
 rw [cJ];exact rI a (bN q) h (Gb q)
end
section
open Go.RowKit
theorem lW (s:ByteArray) (a b:Nat):(s.extract a b).data.toList=(s.data.toList.drop a).take (b-a):=by
 rw [ByteArray.data_extract,Array.toList_extract]
theorem Ex {s:ByteArray} {n:Nat} (h1:1<=n) (hn:n<=s.size) (h0:s[0]'(by omega)=47) (hall:∀ j (hj:j<s.size),1<=j->j<n->¬ s[j]=47) (stop:∀ h:n<s.size,s[n]=47) :
 (.string (s.extract 1 n):Value)=tv (BZ s.data.toList)/\(.string (s.extract n s.size):Value)=tv (xQ s.data.toList):=by
 have hl:s.data.toList.length=s.size:=by simp
 have e:s.data.toList=47::((s.data.toList.drop 1).take (n-1)++s.data.toList.drop n):=by
  have e1:s.data.toList.drop n=(s.data.toList.drop 1).drop (n-1):=by rw [List.drop_drop,show 1+(n-1)=n by omega]
  rw [e1,List.take_append_drop];have:=List.drop_eq_getElem_cons (l:=s.data.toList) (i:=0) (by omega);rw [List.drop_zero] at this;rw [this];congr 1
 have t:=rI ((s.data.toList.drop 1).take (n-1)) (s.data.toList.drop n) (by
  intro c hc;obtain ⟨j,hj,rfl⟩:=List.mem_iff_getElem.1 hc;simp at hj;have:=hall (1+j) (by omega) (by omega) (by omega);rw [List.getElem_take,List.getElem_drop];exact this) (by
  intro d r hd;by_cases h:n<s.size
  · have:=List.drop_eq_getElem_cons (l:=s.data.toList) (i:=n) (by omega)
    rw [hd] at this;have hh:=(List.cons.inj this).1;rw [hh];exact stop h
  · rw [List.drop_of_length_le (by omega)] at hd;cases hd)
 constructor
 · unfold tv
   congr 1
   apply eL
   rw [lW];show _=BZ s.data.toList;rw [e];show _=((s.data.toList.drop 1).take (n-1)++s.data.toList.drop n).takeWhile _;rw [t.1, <- e]
 · unfold tv
   congr 1
   apply eL
   rw [lW];show _=xQ s.data.toList;rw [e];show _=((s.data.toList.drop 1).take (n-1)++s.data.toList.drop n).dropWhile _;rw [t.2, <- e];exact List.take_of_length_le (by simp)
theorem uF (s:ByteArray):Lib.hasPrefix s.data.toList (⟨#[47]⟩:ByteArray).data.toList=decide (∃ h:0<s.size,s[0]=47):=by
 have hl:s.data.toList.length=s.size:=by simp
 cases e:s.data.toList with
 | nil =>
   rw [e] at hl;rw [decide_eq_false]
   · rfl
   · rintro ⟨h,_⟩;simp at hl;omega
 | cons c r =>
   have h0:0<s.size:=by rw [e] at hl;simp at hl;omega
   have h00:s.data.toList[0]? = some s[0]:=List.getElem?_eq_getElem (by omega);rw [e] at h00;have hc:c=s[0]:=by simpa using h00
   by_cases h:c=47
   · rw [decide_eq_true ⟨h0,hc ▸ h⟩];subst h;rfl
   · rw [decide_eq_false (fun ⟨_,h'⟩=>h (hc.trans h'))]
     have hb:(c == 47)=false:=beq_eq_false_iff_ne.2 h;have hb':((47:UInt8) == c)=false:=beq_eq_false_iff_ne.2 (fun e=>h e.symm);show [47].isPrefixOf (c::r)=false;rw [List.isPrefixOf,hb'];rfl
theorem vD {s:ByteArray} (h:¬ ∃ h:0<s.size,s[0]=47):BZ s.data.toList=[]/\xQ s.data.toList=[]:=by
 have hl:s.data.toList.length=s.size:=by simp
 cases e:s.data.toList with
 | nil=>exact ⟨rfl,rfl⟩
 | cons c r =>
   have h0:0<s.size:=by rw [e] at hl;simp at hl;omega
   have h00:s.data.toList[0]? = some s[0]:=List.getElem?_eq_getElem (by omega);rw [e] at h00;have hc:c=s[0]:=by simpa using h00
   have:¬ c=47:=fun h'=>h ⟨h0,hc ▸ h'⟩
   exact ⟨if_neg this,if_neg this⟩
theorem yP (s:ByteArray) (hm:s.size<=281474976710656) (w:World):Calls Tryz.prog 161 #[.string s] w fun e w'=>e=.returned (.tuple #[tv (BZ s.data.toList),tv (xQ s.data.toList)])/\Below w.heap.size w w':=by
 have P:=Tryz.strings_HasPrefix s ⟨#[47]⟩;by_cases h:∃ h:0<s.size,s[0]=47
 · rw [uF,decide_eq_true h] at P
   obtain ⟨hs,h0⟩:=h;have C:=aA P;have H0:=aA h0;clear P h0;go_enter Tryz.func161,Tryz.ntmps161
   go_wp2_with fail
   refine (C.out _).mono ?_;rintro e w1 ⟨rfl,rfl⟩;go_wp2_with fail
   go_loop [4] (fun i=>∃ k:Nat,1<=k/\k<=s.size/\i=.int .i64 k/\Hid (∀ j (hj:j<s.size),1<=j->j<k->¬ s[j]=47)) (fun i=>s.size-(intOf i).toNat)
   case atStart=>exact ⟨1,Nat.le_refl _,by omega,rfl,aA (fun j _ h h'=>by omega)⟩
   case round =>
    obtain ⟨k,hk1,hk,rfl,hok⟩:=hrel;by_cases hlt:k<s.size
    · by_cases hc:s[k]=47
      · have T:=aA (Ex hk1 hk H0.out (fun j hj a b=>hok.out j hj a b) (fun _=>hc))
        have q:((s[k].toNat:Int) != 47)=false:=by rw [hc];decide
        have a1:(1:Int)<=(k:Int):=by omega
        have a2:(k:Int)<=(s.size:Int):=by omega
        have a3:(0:Int)<=(k:Int):=by omega
        have a4:((k:Int)).toNat=k:=by omega
        clear hc;go_wp2_with (go_quiet (fail))
        go_ret2;rw [T.out.1,T.out.2];exact ⟨rfl,tD (Below.refl _ _) _⟩
      · have q:((s[k].toNat:Int) != 47)=true:=by
         rw [bne_iff_ne];intro e;apply hc;apply UInt8.toNat_inj.1
         have:s[k].toNat=47:=by omega
         rw [this];rfl
        have hok1:=aA (show ∀ j (hj:j<s.size),1<=j->j<k+1->¬ s[j]=47 from fun j hj h2 hjk=>by
         by_cases e:j=k
         · subst e;exact hc
         · exact hok.out j hj h2 (by omega))
        clear hc;go_wp2_with fail
        go_round
        case rel=>exact ⟨k+1,by omega,by omega,by go_num,hok1⟩
        case measure=>simp [intOf];omega
    · obtain rfl:k=s.size:=by omega
      have T:=aA (Ex hk1 hk H0.out (fun j hj a b=>hok.out j hj a b) (fun h=>absurd h hlt));have E:=aA (show (.string ByteArray.empty:Value)=.string (s.extract s.size s.size) by congr 1;apply eL;rw [lW];simp);have a1:(1:Int)<=(s.size:Int):=by omega
      have a3:(0:Int)<=(s.size:Int):=by omega
      have a4:((s.size:Int)).toNat=s.size:=by omega
      go_wp2_with (go_quiet (fail))
      go_ret2;rw [T.out.1,show (.string ByteArray.empty:Value)=tv (xQ s.data.toList) from T.out.2 ▸ E.out];exact ⟨rfl,tD (Below.refl _ _) _⟩
 · rw [uF,decide_eq_false h] at P
   have T:=aA (vD h);have C:=aA P;clear P h;go_enter Tryz.func161,Tryz.ntmps161
   go_wp2_with fail
   refine (C.out _).mono ?_;rintro e w1 ⟨rfl,rfl⟩;go_wp2_with fail
   go_ret2;rw [T.out.1,T.out.2];exact ⟨rfl,Below.refl _ _⟩
end
section
open Go.RowKit
def iS (q:List (List UInt8)) (i:Nat):Nat:=if i<=q.length then (bN (q.take i)).length else 0
abbrev dU (s:ByteArray) (d e0 e1 e2 e3 e4:Nat):Array Value:=#[.string s,.int .i64 d,.int .i64 e0,.int .i64 e1,.int .i64 e2,.int .i64 e3,.int .i64 e4]
def vV (s:ByteArray) (q:List (List UInt8)):Value:=.agg (dU s q.length (iS q 0) (iS q 1) (iS q 2) (iS q 3) (iS q 4))
def It:Value:=.agg (dU ⟨#[]⟩ 0 0 0 0 0 0)
def DH (s:ByteArray):Value:=if errP s.data.toList=0 then vV s (partsP s.data.toList) else It
def C7 (w:World) (b:Nat) (s:ByteArray) (d e0 e1 e2 e3 e4:Nat):Prop:=w.heap[b]? = some (.cells (dU s d e0 e1 e2 e3 e4) 190 (0,0))
theorem C7.kept {w w':World} {b:Nat} {s:ByteArray} {d e0 e1 e2 e3 e4:Nat} (h:C7 w b s d e0 e1 e2 e3 e4) (hb:Below w.heap.size w w'):C7 w' b s d e0 e1 e2 e3 e4:=(hb.block _ (lt_of_block h)).trans h
theorem C7.cells {w:World} {b:Nat} {s:ByteArray} {d e0 e1 e2 e3 e4:Nat} (h:C7 w b s d e0 e1 e2 e3 e4) :
 w.cell? ⟨b,0,none⟩=some (.string s)/\w.cell? ⟨b,1,none⟩=some (.int .i64 d)/\w.cell? ⟨b,2,none⟩=some (.int .i64 e0)/\w.cell? ⟨b,3,none⟩=some (.int .i64 e1)/\w.cell? ⟨b,4,none⟩=some (.int .i64 e2)/\w.cell? ⟨b,5,none⟩=some (.int .i64 e3)/\w.cell? ⟨b,6,none⟩=some (.int .i64 e4):=by
 refine ⟨?_,?_,?_,?_,?_,?_,?_⟩ <;> · rw [cell_of_row w b _ _ _ (0,0) h];rfl
theorem C7.free {w:World} {b:Nat} {s:ByteArray} {d e0 e1 e2 e3 e4:Nat} (h:C7 w b s d e0 e1 e2 e3 e4) (j:Nat):w.frozen? ⟨b,j,none⟩=false:=frozen_of_row w b _ _ _ h
def oS (L:List (List UInt8)) (k i:Nat):Nat:=if i<=k then (bN (L.take i)).length else 0
theorem lD (L:List (List UInt8)) (i:Nat):oS L 0 i=0:=by
 unfold oS;split
 · next h =>
   have h0:i=0:=by omega
   rw [h0];rfl
 · rfl
theorem tO (L:List (List UInt8)) (k i:Nat) (h:i=k+1):oS L (k+1) i=(bN (L.take i)).length:=if_pos (by omega)
theorem bK (L:List (List UInt8)) (k i:Nat) (h:¬ i=k+1):oS L (k+1) i=oS L k i:=by
 unfold oS;by_cases h1:i<=k
 · rw [if_pos h1,if_pos (by omega)]
 · rw [if_neg h1,if_neg (by omega)]
structure CM (w wr:World) (s:ByteArray) (L:List (List UInt8)) (k:Nat):Prop where
 res:C7 wr w.heap.size ⟨#[]⟩ 0 0 0 0 0 0
 cut:C7 wr (w.heap.size+1) s k (oS L k 0) (oS L k 1) (oS L k 2) (oS L k 3) (oS L k 4)
 bel:Below w.heap.size w wr
theorem CM.kept {w wr w':World} {s:ByteArray} {L:List (List UInt8)} {k:Nat} (h:CM w wr s L k) (hb:Below wr.heap.size wr w'):CM w w' s L k :=
 ⟨h.res.kept hb,h.cut.kept hb,h.bel.trans (hb.mono h.bel.size)⟩
theorem CM.start (w:World) (s:ByteArray) (L:List (List UInt8)):CM w ((w.alloc (.cells (dU ⟨#[]⟩ 0 0 0 0 0 0) 190)).alloc (.cells (dU s 0 0 0 0 0 0) 190)) s L 0:=by
 refine ⟨?_,?_,(bA0 _ _).alloc (by simp) _⟩
 · exact (Below.heap_alloc _ _ _ (by simp)).trans (heap_alloc_new w _)
 · unfold C7
   rw [lD,lD,lD,lD,lD];have:=heap_alloc_new (w.alloc (.cells (dU ⟨#[]⟩ 0 0 0 0 0 0) 190)) (.cells (dU s 0 0 0 0 0 0) 190);rw [World.size_alloc] at this;exact this
theorem C7.count {w:World} {b:Nat} {s:ByteArray} {d e0 e1 e2 e3 e4:Nat} (h:C7 w b s d e0 e1 e2 e3 e4) (d':Nat):C7 (w.setCell ⟨b,1,none⟩ (.int .i64 d')) b s d' e0 e1 e2 e3 e4:=by
 have:=heap_setCell_same w b 1 _ _ (.int .i64 d') h;unfold C7;simpa using this
theorem C7.other {w:World} {b c j:Nat} {s:ByteArray} {d e0 e1 e2 e3 e4:Nat} (h:C7 w b s d e0 e1 e2 e3 e4) (hne:¬ b=c) (u:Value):C7 (w.setCell ⟨c,j,none⟩ u) b s d e0 e1 e2 e3 e4 :=
 (Below.heap_setCell w ⟨c,j,none⟩ u b hne).trans h
theorem CM.count {w wr:World} {s:ByteArray} {L:List (List UInt8)} {k:Nat} (h:CM w wr s L k) (hk:4<=k):CM w (wr.setCell ⟨w.heap.size+1,1,none⟩ (.int .i64 ((k+1:Nat):Int))) s L (k+1):=by
 refine ⟨h.res.other (by omega) _,?_,h.bel.setCell (p:=⟨w.heap.size+1,1,none⟩) (by show w.heap.size<=w.heap.size+1;omega) _⟩;rw [bK _ _ 0 (by omega),bK _ _ 1 (by omega),bK _ _ 2 (by omega),bK _ _ 3 (by omega),bK _ _ 4 (by omega)];exact h.cut.count _
theorem CM.more {w wr:World} {s:ByteArray} {L:List (List UInt8)} {k:Nat} (h:CM w wr s L k) (hk:k<4) :
 CM w ((wr.setCell ⟨w.heap.size+1,1,none⟩ (.int .i64 ((k+1:Nat):Int))).setCell ⟨w.heap.size+1,2+(k+1),none⟩ (.int .i64 (((bN (L.take (k+1))).length:Nat):Int))) s L (k+1):=by
 refine ⟨(h.res.other (by omega) _).other (by omega) _,?_,(h.bel.setCell (p:=⟨w.heap.size+1,1,none⟩) (by show w.heap.size<=w.heap.size+1;omega) _).setCell (p:=⟨w.heap.size+1,2+(k+1),none⟩) (by show w.heap.size<=w.heap.size+1;omega) _⟩;have h1:=h.cut.count (k+1);have h2:=heap_setCell_same _ (w.heap.size+1) (2+(k+1)) _ _ (.int .i64 (((bN (L.take (k+1))).length:Nat):Int)) h1;unfold C7;obtain rfl | rfl | rfl | rfl:k=0\/k=1\/k=2\/k=3:=by omega
 · rw [bK L 0 0 (by omega),tO L 0 1 rfl,bK L 0 2 (by omega),bK L 0 3 (by omega),bK L 0 4 (by omega)]
   simpa [dU] using h2
 · rw [bK L 1 0 (by omega),bK L 1 1 (by omega),tO L 1 2 rfl,bK L 1 3 (by omega),bK L 1 4 (by omega)]
   simpa [dU] using h2
 · rw [bK L 2 0 (by omega),bK L 2 1 (by omega),bK L 2 2 (by omega),tO L 2 3 rfl,bK L 2 4 (by omega)]
   simpa [dU] using h2
 · rw [bK L 3 0 (by omega),bK L 3 1 (by omega),bK L 3 2 (by omega),bK L 3 3 (by omega),tO L 3 4 rfl]
   simpa [dU] using h2
theorem C7.set {w:World} {b:Nat} {s:ByteArray} {d e0 e1 e2 e3 e4:Nat} (h:C7 w b s d e0 e1 e2 e3 e4) (s':ByteArray) (d' f0 f1 f2 f3 f4:Nat) :
 C7 (((((((w.setCell ⟨b,0,none⟩ (.string s')).setCell ⟨b,1,none⟩ (.int .i64 d')).setCell ⟨b,2,none⟩ (.int .i64 f0)).setCell ⟨b,3,none⟩ (.int .i64 f1)).setCell ⟨b,4,none⟩ (.int .i64 f2)).setCell ⟨b,5,none⟩ (.int .i64 f3)).setCell ⟨b,6,none⟩ (.int .i64 f4)) b s' d' f0 f1 f2 f3 f4:=by
 have:=heap_setCell_same _ b 6 _ _ (.int .i64 f4) (heap_setCell_same _ b 5 _ _ (.int .i64 f3) (heap_setCell_same _ b 4 _ _ (.int .i64 f2) (heap_setCell_same _ b 3 _ _ (.int .i64 f1) (heap_setCell_same _ b 2 _ _ (.int .i64 f0) (heap_setCell_same _ b 1 _ _ (.int .i64 d') (heap_setCell_same w b 0 _ _ (.string s') h))))));unfold C7;simpa using this
theorem fX {B:Nat} {a w:World} {b:Nat} (h:Below B a w) (hb:B<=b) (v0 v1 v2 v3 v4 v5 v6:Value) :
 Below B a (((((((w.setCell ⟨b,0,none⟩ v0).setCell ⟨b,1,none⟩ v1).setCell ⟨b,2,none⟩ v2).setCell ⟨b,3,none⟩ v3).setCell ⟨b,4,none⟩ v4).setCell ⟨b,5,none⟩ v5).setCell ⟨b,6,none⟩ v6) :=
 ((((((h.setCell (p:=⟨b,0,none⟩) hb v0).setCell (p:=⟨b,1,none⟩) hb v1).setCell (p:=⟨b,2,none⟩) hb v2).setCell (p:=⟨b,3,none⟩) hb v3).setCell (p:=⟨b,4,none⟩) hb v4).setCell (p:=⟨b,5,none⟩) hb v5).setCell (p:=⟨b,6,none⟩) hb v6
theorem dM {P:Program} {fn:Func} {p u:Tmp} {ty:TypeId} (h:fn.results=#[.cell p ty,.tmp u]) (tmps:Array Value) (w:World) (g:Nat) (t:TypeId) (cs:Array Value) (fr:Nat×Nat) (d:TypeDesc)
 (hp:tmps.getD p undef=.pointer (some ⟨g,0,none⟩)) (hg:w.heap[g]? = some (.cells cs t fr))
 (hu:P.underlying ty=some d) (hd:(match d with | .struct _ | .array _ _=>true | _=>false)=true) (hi:(P.info? ty).map (·.size)=some cs.size) :
 (results fn tmps).run P w=.ok (.tuple #[.agg cs,tmps.getD u undef]) w:=by
 rw [results_cell_tmp h,hp];simp [asAddr,Result.andThen,run_loadVar_row w g t ty cs fr d hg hu hd hi]
theorem mF (L:List (List UInt8)) (k:Nat):bN L=bN (L.take k)++bN (L.drop k):=by
 rw [<- Gc,List.take_append_drop]
theorem LB {q:List (List UInt8)} {a:List UInt8} (h:a∈q) (hb:bD a=false):errQ q=2:=by
 unfold errQ;rw [if_neg];intro e;have:=List.all_eq_true.1 e a h;rw [hb] at this;cases this
theorem nN {s:ByteArray} (h:¬ errP s.data.toList=0):DH s=It:=if_neg h
theorem Am {s:ByteArray} (h:errP s.data.toList=0):DH s=vV s (partsP s.data.toList):=if_pos h
theorem uH:∀ L:List (List UInt8),L.length<=(bN L).length
 | []=>Nat.le_refl _
 | a :: L => by
   have:=uH L;rw [cJ];simp;omega
theorem Jv (s:ByteArray) (L:List (List UInt8)) (hL:s.data.toList=bN L) (hf:JX L) (hne:¬ L=[]) (h1:¬ L=[[]]) (hm:s.size<=281474976710656) (w:World):Calls Tryz.prog 106 #[.string s] w fun e w'=>e=.returned (.tuple #[DH s,.int .i64 (errP s.data.toList)])/\Below w.heap.size w w':=by
 have hl:s.data.toList.length=s.size:=by simp
 have hcut:cutL s.data.toList=some L:=by rw [hL];exact Ju hne h1 hf
 have E:=aA (show errP s.data.toList=errQ L by unfold errP;rw [hcut]);have PA:=aA (show errQ L=0->partsP s.data.toList=L from fun h=>by unfold partsP;rw [hcut];exact if_pos h)
 have hs:2<=s.size:=by
  rw [<- hl,hL];match L,hne,h1 with
  | (c::a)::q,_,_=>rw [cJ];simp
  | []::b::q,_,_=>rw [cJ,cJ];simp
 have q0:(s.toList == [])=false:=by
  rw [beq_eq_false_iff_ne,Lib.toList_data];intro e;rw [e] at hl;simp at hl;omega
 have q1:=KQ hs 47;have HL:=aA hL;have HF:=aA hf;have ST:=aA (CM.start w s L);clear hcut hL hf hne h1;go_enter Tryz.func106,Tryz.ntmps106
 go_wp2_with fail
 go_loopw [5] (fun v wr=>∃ k:Nat,k<=L.length/\v=tv (bN (L.drop k))/\Hid ((L.take k).all bD=true)/\Hid (CM w wr s L k)) (fun v _=>match v with | .string x=>x.size | _=>0)
 case atStart =>
  refine ⟨0,Nat.zero_le _,?_,aA (by rfl),ST⟩;rw [List.drop_zero, <- HL.out]
 case round =>
  obtain ⟨k,hk,rfl,hall,hcm⟩:=hrel;by_cases hlt:k<L.length
  · obtain ⟨a,R,hdr⟩:∃ a R,L.drop k=a::R:=⟨_,_,List.drop_eq_getElem_cons hlt⟩
    have hR:L.drop (k+1)=R:=by rw [<- List.drop_drop,hdr];rfl
    have ham:a∈L:=List.mem_of_mem_drop (by rw [hdr];simp);have hafree:∀ c∈a,¬ c=47:=HF.out a ham;have hhj:=Gt (q:=R) hafree
    have htk:L.take (k+1)=L.take k++[a]:=by
     have:=List.drop_eq_getElem_cons hlt;rw [hdr] at this;rw [List.take_succ_eq_append_getElem hlt,(List.cons.inj this).1]
    have hlen:(bN (L.drop k)).length<=s.size:=by
     have:=congrArg List.length (mF L k);rw [<- HL.out,List.length_append] at this;omega
    have hlenY:(bN R).length+(bN (L.take (k+1))).length=s.size:=by
     have:=congrArg List.length (mF L (k+1));rw [<- HL.out,List.length_append,hR] at this;omega
    have hsm:(bN R).length<(bN (L.drop k)).length:=by rw [hdr,cJ];simp;omega
    have hal:a.length<=s.size:=by
     have:a.length<=(bN (L.drop k)).length:=by rw [hdr,cJ];simp;omega
     omega
    have hjne:bN (L.drop k) ≠ []:=by rw [hdr,cJ];simp
    obtain ⟨X,hX⟩:∃ X:ByteArray,⟨(bN (L.drop k)).toArray⟩=X:=⟨_,rfl⟩;obtain ⟨T,hT⟩:∃ X:ByteArray,⟨a.toArray⟩=X:=⟨_,rfl⟩;obtain ⟨Y,hY⟩:∃ X:ByteArray,⟨(bN R).toArray⟩=X:=⟨_,rfl⟩;have hXl:X.data.toList=bN (L.drop k):=by rw [<- hX]
    have hTl:T.data.toList=a:=by rw [<- hT]
    have hYl:Y.data.toList=bN R:=by rw [<- hY]
    have hXs:X.size=(bN (L.drop k)).length:=by rw [<- hXl];simp
    have hTs:T.size=a.length:=by rw [<- hTl];simp
    have hYs:Y.size=(bN R).length:=by rw [<- hYl];simp
    have qx:(X.toList == [])=false:=by rw [beq_eq_false_iff_ne,Lib.toList_data,hXl];exact hjne
    have FC:=aA (show ∀ w,Calls Tryz.prog 161 #[.string X] w fun e w'=>e=.returned (.tuple #[.string T,.string Y])/\Below w.heap.size w w' from fun w=>by
     have h:=yP X (by omega) w;rw [hXl,hdr,hhj.1,hhj.2] at h;unfold tv at h;rw [hT,hY] at h;exact h)
    have NC:=aA (show ∀ w,Calls Tryz.prog 54 #[.string T] w fun e w'=>e=.returned (.bool (bD a))/\w=w' from fun w=>by
     have h:=i8 T (by omega) w;rw [hTl] at h;exact h)
    have HY:=aA (show tv (bN (L.drop (k+1)))=.string Y by rw [hR];unfold tv;rw [hY]);unfold tv;rw [hX];have hYle:Y.size<=281474976710656:=by omega
    have hYX:Y.size<X.size:=by omega
    cases hg:bD a with
    | false =>
      have E2:=aA (show errP s.data.toList=2 by rw [E.out];exact LB ham hg);rw [hg] at NC;clear hg htk hlen hlenY hsm hal hjne hX hT hY hXl hTl hYl hXs hTs hYs hdr hR hhj hafree;go_wp2_with fail
      refine (FC.out _).mono ?_;rintro e w2 ⟨rfl,hb2⟩;have H2:=aA (hcm.out.kept hb2);clear hb2 hcm;go_wp2_with fail
      refine (NC.out _).mono ?_;rintro e w3 ⟨rfl,rfl⟩;obtain ⟨r0,r1,r2,r3,r4,r5,r6⟩:=H2.out.res.cells;have f:=H2.out.res.free;have f0:=f 0;have f1:=f 1;have f2:=f 2;have f3:=f 3;have f4:=f 4;have f5:=f 5;have f6:=f 6;clear f;go_wp2_with fail
      refine bodyPost_ret (dM rfl _ _ w.heap.size 190 (dU ⟨#[]⟩ 0 0 0 0 0 0) (0,0) _ rfl (H2.out.res.set ⟨#[]⟩ 0 0 0 0 0 0) Tryz.underlying190 rfl (by kernel_rfl)) rfl ?_;rw [nN (by rw [E2.out];decide),E2.out];exact ⟨rfl,fX H2.out.bel (Nat.le_refl _) _ _ _ _ _ _ _⟩
    | true =>
      rw [hg] at NC;have hall1:=aA (show (L.take (k+1)).all bD=true by rw [htk,List.all_append,hall.out];simp [hg]);have hln:=uH L;have hend:(s.size:Int)-(Y.size:Int)=(((bN (L.take (k+1))).length:Nat):Int):=by omega
      have hsk:k<281474976710656:=by
       have:=congrArg List.length HL.out;omega
      clear hg htk hlen hlenY hsm hal hjne hX hT hY hXl hTl hYl hXs hTs hYs hdr hR hhj hafree hall hln;have j1:IntKind.i64.wrap ((k:Int)+1)=(k:Int)+1:=IntWalk.i64_in _ (by omega);go_upto_region 11 with (first | (go_at_call 161;refine (FC.out _).mono ?_;rintro e w2 ⟨rfl,hb2⟩;have H2:=aA (hcm.out.kept hb2);clear hb2) | (go_at_call 54;refine (NC.out _).mono ?_;rintro e w3 ⟨rfl,rfl⟩))
      clear hcm FC NC;obtain ⟨r0,r1,r2,r3,r4,r5,r6⟩:=H2.out.cut.cells;have f1:=H2.out.cut.free 1;clear r0 r2 r3 r4 r5 r6;go_upto_region 12 with fail
      generalize hW:World.setCell w2 _ _=w3;have h3:C7 w3 (w.heap.size+1) s (k+1) (oS L k 0) (oS L k 1) (oS L k 2) (oS L k 3) (oS L k 4):=by rw [<- hW];exact H2.out.cut.count (k+1)
      have j2:w3.cell? ⟨w.heap.size+1,1,none⟩=some (.int .i64 ((k:Int)+1)):=h3.cells.2.1;clear f1 r1;by_cases h4:k<4
      · have M:=aA (H2.out.more h4)
        have M:=aA (show CM w (w3.setCell ⟨w.heap.size+1,2+(k+1),none⟩ (.int .i64 (((bN (L.take (k+1))).length:Nat):Int))) s L (k+1) by rw [<- hW];exact M.out);have f3:=h3.free (2+(k+1))
        have c3:∃ u,w3.cell? ⟨w.heap.size+1,2+(k+1),none⟩=some u:=by
         rw [cell_of_row w3 _ _ _ _ (0,0) h3];exact ⟨_,Array.getElem?_eq_getElem (by show 2+(k+1)<7;omega)⟩
        obtain ⟨u,c3⟩:=c3;have a1:(0:Int)<=(k:Int)+1:=by omega
        have a2:(k:Int)+1<5:=by omega
        have a3:((k:Int)+1).toNat=k+1:=by omega
        have a4:(k:Int)+1<=4:=by omega
        clear hW h3 H2;go_wp2_with fail
        exact ⟨⟨k+1,by omega,HY.out.symm,hall1,M⟩,hYX⟩
      · have M:=aA (H2.out.count (by omega))
        have M:=aA (show CM w w3 s L (k+1) by rw [<- hW];exact M.out);have a4:(4:Int)<(k:Int)+1:=by omega
        clear hW h3 H2;go_wp2_with fail
        exact ⟨⟨k+1,by omega,HY.out.symm,hall1,M⟩,hYX⟩
  · obtain rfl:k=L.length:=by omega
    have hg:L.all bD=true:=by have:=hall.out;rwa [List.take_length] at this
    rw [List.drop_length,yJ];obtain ⟨r0,r1,r2,r3,r4,r5,r6⟩:=hcm.out.res.cells;obtain ⟨c0,c1,c2,c3,c4,c5,c6⟩:=hcm.out.cut.cells;have f:=hcm.out.res.free;have f0:=f 0;have f1:=f 1;have f2:=f 2;have f3:=f 3;have f4:=f 4;have f5:=f 5;have f6:=f 6;clear f;unfold tv;by_cases h4:L.length<=4
    · have E2:=aA (show errP s.data.toList=0 by rw [E.out];exact sG.2 ⟨hg,h4⟩)
      have E3:=aA (show DH s=vV s L by rw [Am E2.out,PA.out (sG.2 ⟨hg,h4⟩)]);have a4:(L.length:Int)<=4:=by omega
      clear hg;go_wp2_with fail
      refine bodyPost_ret (dM rfl _ _ w.heap.size 190 _ (0,0) _ rfl (hcm.out.res.set s L.length (iS L 0) (iS L 1) (iS L 2) (iS L 3) (iS L 4)) Tryz.underlying190 rfl (by kernel_rfl)) rfl ?_;rw [E3.out,E2.out];exact ⟨rfl,fX hcm.out.bel (Nat.le_refl _) _ _ _ _ _ _ _⟩
    · have E2:=aA (show errP s.data.toList=4 by rw [E.out];unfold errQ;rw [if_pos hg,if_neg h4])
      have a4:(4:Int)<(L.length:Int):=by omega
      clear hg;go_wp2_with fail
      refine bodyPost_ret (dM rfl _ _ w.heap.size 190 (dU ⟨#[]⟩ 0 0 0 0 0 0) (0,0) _ rfl (hcm.out.res.set ⟨#[]⟩ 0 0 0 0 0 0) Tryz.underlying190 rfl (by kernel_rfl)) rfl ?_;rw [nN (by rw [E2.out];decide),E2.out];exact ⟨rfl,fX hcm.out.bel (Nat.le_refl _) _ _ _ _ _ _ _⟩
theorem C7.new (w:World) (s:ByteArray) (d e0 e1 e2 e3 e4:Nat):C7 (w.alloc (.cells (dU s d e0 e1 e2 e3 e4) 190)) w.heap.size s d e0 e1 e2 e3 e4:=heap_alloc_new w _
theorem LK (s:ByteArray) (hm:s.size<=281474976710656) (w:World):Calls Tryz.prog 106 #[.string s] w fun e w'=>e=.returned (.tuple #[DH s,.int .i64 (errP s.data.toList)])/\Below w.heap.size w w':=by
 have hl:s.data.toList.length=s.size:=by simp
 by_cases h0:s.data.toList=[]
 · have E2:=aA (show errP s.data.toList=2 by rw [h0];rfl)
   obtain rfl:s=⟨#[]⟩:=eL h0;clear h0 hl;go_enter Tryz.func106,Tryz.ntmps106
   go_upto_region 1 with fail
   generalize hW:World.alloc w _=w1;have N:=aA (show C7 w1 w.heap.size ⟨#[]⟩ 0 0 0 0 0 0 by rw [<- hW];exact C7.new w ⟨#[]⟩ 0 0 0 0 0 0);have bel:=aA (show Below w.heap.size w w1 by rw [<- hW];exact bA0 w _);obtain ⟨r0,r1,r2,r3,r4,r5,r6⟩:=N.out.cells;have f:=N.out.free;have f0:=f 0;have f1:=f 1;have f2:=f 2;have f3:=f 3;have f4:=f 4;have f5:=f 5;have f6:=f 6;clear f hW;go_wp2_with fail
   refine bodyPost_ret (dM rfl _ _ w.heap.size 190 (dU ⟨#[]⟩ 0 0 0 0 0 0) (0,0) _ rfl (N.out.set ⟨#[]⟩ 0 0 0 0 0 0) Tryz.underlying190 rfl (by kernel_rfl)) rfl ?_;rw [nN (by rw [E2.out];decide),E2.out];exact ⟨rfl,fX bel.out (Nat.le_refl _) _ _ _ _ _ _ _⟩
 by_cases h1:s.data.toList=[47]
 · have E2:=aA (show errP s.data.toList=0 by rw [h1];rfl)
   have E3:=aA (show DH s=vV s [] by rw [Am E2.out,h1];rfl);obtain rfl:s=⟨#[47]⟩:=eL h1;clear h0 h1 hl;go_enter Tryz.func106,Tryz.ntmps106
   go_upto_region 1 with fail
   generalize hW:World.alloc w _=w1;have N:=aA (show C7 w1 w.heap.size ⟨#[]⟩ 0 0 0 0 0 0 by rw [<- hW];exact C7.new w ⟨#[]⟩ 0 0 0 0 0 0);have bel:=aA (show Below w.heap.size w w1 by rw [<- hW];exact bA0 w _);obtain ⟨r0,r1,r2,r3,r4,r5,r6⟩:=N.out.cells;have f:=N.out.free;have f0:=f 0;have f1:=f 1;have f2:=f 2;have f3:=f 3;have f4:=f 4;have f5:=f 5;have f6:=f 6;clear f hW;go_wp2_with fail
   refine bodyPost_ret (dM rfl _ _ w.heap.size 190 (dU ⟨#[47]⟩ 0 0 0 0 0 0) (0,0) _ rfl (N.out.set ⟨#[47]⟩ 0 0 0 0 0 0) Tryz.underlying190 rfl (by kernel_rfl)) rfl ?_;rw [E3.out,E2.out];exact ⟨rfl,fX bel.out (Nat.le_refl _) _ _ _ _ _ _ _⟩
 cases e:s.data.toList with
 | nil=>exact absurd e h0
 | cons c r =>
   by_cases hc:c=47
   · subst hc
     have hr:¬ r=[]:=by rintro rfl;exact h1 e
     rw [<- e];refine Jv s (dG r) (by rw [e,jP]) (rK r) (zD r) ?_ hm w;intro h;have:=jP r;rw [h,yI] at this;exact hr (List.cons.inj this).2.symm
   · have E2:=aA (show errP s.data.toList=2 by rw [e];unfold errP;rw [Cd hc])
     have hsz:1<=s.size:=by rw [e] at hl;simp at hl;omega
     have q0:(s.toList == [])=false:=by rw [beq_eq_false_iff_ne,Lib.toList_data];exact h0
     have q1:(s.toList == [47])=false:=by rw [beq_eq_false_iff_ne,Lib.toList_data];exact h1
     have hnot:¬ ∃ h:0<s.size,s[0]=47:=by
      rintro ⟨h,h'⟩;have h00:s.data.toList[0]? = some s[0]:=List.getElem?_eq_getElem (by omega);rw [e] at h00;have:c=s[0]:=by simpa using h00
      exact hc (this.trans h')
     have FC:=aA (show ∀ w,Calls Tryz.prog 161 #[.string s] w fun e w'=>e=.returned (.tuple #[.string ⟨#[]⟩,.string ⟨#[]⟩])/\Below w.heap.size w w' from fun w=>by
      have h:=yP s hm w;rw [(vD hnot).1,(vD hnot).2] at h;exact h)
     have NC:=aA (show ∀ w,Calls Tryz.prog 54 #[.string ⟨#[]⟩] w fun e w'=>e=.returned (.bool false)/\w=w' from fun w=>i8 ⟨#[]⟩ (by decide) w);rw [<- e];have N2:=aA (show C7 ((w.alloc (.cells (dU ⟨#[]⟩ 0 0 0 0 0 0) 190)).alloc (.cells (dU s 0 0 0 0 0 0) 190)) w.heap.size ⟨#[]⟩ 0 0 0 0 0 0 from (Below.heap_alloc _ _ _ (by simp)).trans (C7.new w ⟨#[]⟩ 0 0 0 0 0 0));have bel2:=aA ((bA0 w (.cells (dU ⟨#[]⟩ 0 0 0 0 0 0) 190)).alloc (by simp) (.cells (dU s 0 0 0 0 0 0) 190));clear hnot hc e h0 h1;go_enter Tryz.func106,Tryz.ntmps106
     go_wp2_with fail
     go_loopw [5] (fun v wr=>v=.string s/\Hid (C7 wr w.heap.size ⟨#[]⟩ 0 0 0 0 0 0)/\Hid (Below w.heap.size w wr)) (fun _ _=>0)
     case atStart=>exact ⟨rfl,N2,bel2⟩
     case round =>
      obtain ⟨rfl,hN,hb⟩:=hrel;go_wp2_with fail
      refine (FC.out _).mono ?_;rintro e w2 ⟨rfl,hb2⟩;have N3:=aA (hN.out.kept hb2);have bel3:=aA (hb.out.trans (hb2.mono hb.out.size));clear hb2 hN hb;go_wp2_with fail
      refine (NC.out _).mono ?_;rintro e w3 ⟨rfl,rfl⟩;obtain ⟨r0,r1,r2,r3,r4,r5,r6⟩:=N3.out.cells;have f:=N3.out.free;have f0:=f 0;have f1:=f 1;have f2:=f 2;have f3:=f 3;have f4:=f 4;have f5:=f 5;have f6:=f 6;clear f;go_wp2_with fail
      refine bodyPost_ret (dM rfl _ _ w.heap.size 190 (dU ⟨#[]⟩ 0 0 0 0 0 0) (0,0) _ rfl (N3.out.set ⟨#[]⟩ 0 0 0 0 0 0) Tryz.underlying190 rfl (by kernel_rfl)) rfl ?_;rw [nN (by rw [E2.out];decide),E2.out];exact ⟨rfl,fX bel3.out (Nat.le_refl _) _ _ _ _ _ _ _⟩
end
section
open Go.RowKit
structure IsC (s:ByteArray) (q:List (List UInt8)):Prop where
 few:q.length<=4
 txt:¬ q=[]->s.data.toList=bN q
 sz:s.size<=281474976710656
theorem IsC.of {s:ByteArray} (h:errP s.data.toList=0) (hm:s.size<=281474976710656):IsC s (partsP s.data.toList):=by
 have k:=If h;refine ⟨k.2.1,fun hn=>?_,hm⟩;have:=k.2.2.1;rw [Ee,if_neg hn] at this;exact this.symm
theorem C7.boxed (w:World) (s:ByteArray) (q:List (List UInt8)):C7 (w.alloc (.cells (vV s q).cells 190)) w.heap.size s q.length (iS q 0) (iS q 1) (iS q 2) (iS q 3) (iS q 4):=heap_alloc_new w _
end
section
open Go.RowKit
theorem IsC.none {s:ByteArray} (hm:s.size<=281474976710656):IsC s []:=⟨Nat.zero_le _,fun h=>absurd rfl h,hm⟩
theorem LL (s:ByteArray) (hm:s.size<=281474976710656):∃ t,DH s=vV t (partsP s.data.toList)/\IsC t (partsP s.data.toList):=by
 by_cases h:errP s.data.toList=0
 · exact ⟨s,Am h,IsC.of h hm⟩
 · rw [nN h,Fp h]
   exact ⟨⟨#[]⟩,rfl,IsC.none (by decide)⟩
end
section
open Go.RowKit
theorem depth_any (s:ByteArray) (hm:s.size<=281474976710656) (w:World):Calls Tryz.prog 49 #[.string s] w fun e w'=>e=.returned (.int .i64 (depthP s.data.toList))/\Below w.heap.size w w':=by
 have CU:=aA (fun w=>LK s hm w);obtain ⟨t,ht,I⟩:=LL s hm;rw [ht] at CU;clear ht I;unfold depthP;obtain ⟨q,hq⟩:∃ q,partsP s.data.toList=q:=⟨_,rfl⟩;obtain ⟨x,hx⟩:∃ x,errP s.data.toList=x:=⟨_,rfl⟩;rw [hq,hx] at CU |-
 clear hq hx;unfold vV at CU;by_cases h0:x=0
 · subst h0
   rw [if_pos rfl];go_enter Tryz.func49,Tryz.ntmps49
   go_wp2_with fail
   refine (CU.out _).mono ?_;rintro e w1 ⟨rfl,hb1⟩;have B1:=aA hb1;clear hb1 CU;go_upto_region 2 with fail
   generalize hW:World.alloc w1 _=w2;have C2:=aA (show C7 w2 w1.heap.size t q.length (iS q 0) (iS q 1) (iS q 2) (iS q 3) (iS q 4) by rw [<- hW];exact C7.boxed w1 t q);have B2:=aA (show Below w.heap.size w w2 by rw [<- hW];exact B1.out.alloc B1.out.size _);clear hW;obtain ⟨c0,c1,c2,c3,c4,c5,c6⟩:=C2.out.cells;go_wp2_with fail
   go_ret;exact ⟨rfl,B2.out⟩
 · have e0:(x == 0)=false:=beq_eq_false_iff_ne.2 h0
   rw [if_neg h0];go_enter Tryz.func49,Tryz.ntmps49
   go_wp2_with fail
   refine (CU.out _).mono ?_;rintro e w1 ⟨rfl,hb1⟩;have B1:=aA hb1;clear hb1 CU;go_upto_region 2 with fail
   generalize hW:World.alloc w1 _=w2;have C2:=aA (show C7 w2 w1.heap.size t q.length (iS q 0) (iS q 1) (iS q 2) (iS q 3) (iS q 4) by rw [<- hW];exact C7.boxed w1 t q);have B2:=aA (show Below w.heap.size w w2 by rw [<- hW];exact B1.out.alloc B1.out.size _);clear hW;obtain ⟨c0,c1,c2,c3,c4,c5,c6⟩:=C2.out.cells;go_wp2_with fail
   go_ret;exact ⟨rfl,B2.out⟩
end
end
end Go.Proofs.YtgfkjkokmcejbaaGreatDoor.Wr
