/-
 No statement: what AggBackCard needs, of the texts OBase, InsL, DelL, SearchL, OKeep, OKeepA, OStep, OFold, OFoldL, OSame, OEvM.
-/
import Derived.Test.YtapcjnoaofmmiaaGreatDoorVB12
set_option maxHeartbeats 40000000
set_option maxRecDepth 100000
namespace Go.Proofs.YtapcjnoaofmmiaaGreatDoor
section
open Go.RowKit
theorem lL {w:World} {e:TypeId} {v:Value} {n:Nat} {xs:List Value} (h:w.ownsRow 0 e 1 v n xs) :
 (v=.slice none 0 0/\n=0/\xs=[]) \/
 ∃ g cap cur,v=.slice (some ⟨g,0,none⟩) n cap/\v.ownBlock=some g/\w.heap[g]? = some (.cells cur e (0,0))/\n<=cap/\cap<=maxLen/\cur.size=cap/\cur.toList.take n=xs/\xs.length=n/\g<w.heap.size:=by
 obtain ⟨h1,h2⟩:=h;rw [Nat.mul_one] at h1;rcases h2 with ⟨rfl,rfl⟩ | ⟨g,cap,cur,rfl,_,hg,a,b,c,d⟩
 · exact .inl ⟨rfl,rfl,List.length_eq_zero_iff.1 h1⟩
 · rw [Nat.mul_one] at c d
   exact .inr ⟨g,cap,cur,rfl,rfl,hg,a,b,c,d,h1,lt_of_block hg⟩
theorem r8 {w:World} {e:TypeId} {g cap n:Nat} {cur:Array Value} {xs:List Value} (hg:w.heap[g]? = some (.cells cur e (0,0))) (hn:n<=cap) (hm:cap<=maxLen) (hs:cur.size=cap) (ht:cur.toList.take n=xs) :
 w.ownsRow 0 e 1 (.slice (some ⟨g,0,none⟩) n cap) n xs:=by
 refine ⟨?_,.inr ⟨g,cap,cur,rfl,Nat.zero_le _,hg,hn,hm,by rw [Nat.mul_one];exact hs,by rw [Nat.mul_one];exact ht⟩⟩;rw [<- ht,List.length_take,Array.length_toList,Nat.mul_one];omega
theorem dG (b:Nat):∀ (vs:List Value) (o:Nat) (w:World),aL (· = b) w (w.setCells b o vs)
 | [],_,w=>aL.refl _ w
 | v::r,o,w=>((aL.refl (fun i=>i=b) w).setCell (p:=⟨b,o,none⟩) (Or.inl rfl) v).trans (dG b r (o+1) _) (fun _ h _=>h)
def nT (w w':World) (E:TypeId) (v:Value) (xs:List Value) (e:Ending):Prop :=
 ∃ v',e=.returned v'/\w'.ownsRow 0 E 1 v' xs.length xs/\w.grownBy w' v.ownBlock/\(v'.ownBlock=v.ownBlock\/∃ b,v'.ownBlock=some b/\w.heap.size<=b)
theorem uT {w:World} {e:TypeId} {g cap n i:Nat} {cur:Array Value} {xs:List Value} {x:Value} (hg:w.heap[g]? = some (.cells cur e (0,0))) (hs:cur.size=cap) (ht:cur.toList.take n=xs)
 (hx:xs.length=n) (hi:i<n) (hr:n+1<=cap) (hm:cap<=maxLen) (e':Ending) (he:e'=.returned (.slice (some ⟨g,0,none⟩) (n+1) cap)) :
 nT w ((w.drew.setCells g (i+1) (xs.drop i)).setCells g i [x]) e (.slice (some ⟨g,0,none⟩) n cap) (xs.take i++x::xs.drop i) e':=by
 obtain ⟨c1,h1,t1⟩:=cT g e (xs.drop i) (i+1) w.drew cur hg (by rw [List.length_drop];omega)
 have s1:c1.size=cap:=by
  rw [<- Array.length_toList,t1];simp [List.length_take];omega
 obtain ⟨c2,h2,t2⟩:=cT g e [x] i _ c1 h1 (by simp;omega)
 have s2:c2.size=cap:=by
  rw [<- Array.length_toList,t2];simp [List.length_take];omega
 have hl:(xs.take i++x::xs.drop i).length=n+1:=by simp [List.length_take];omega
 refine ⟨_,he,?_,dN (S:=(· = g)) (((aL.refl (· = g) w).drew.trans (dG g _ _ _) (fun _ h _=>h)).trans (dG g _ _ _) (fun _ h _=>h)) (fun k hk=>by subst hk;rfl),Or.inl rfl⟩;rw [hl];refine r8 h2 hr hm s2 ?_;rw [t2,t1]
 have e1:(cur.toList.take (i+1)++xs.drop i++cur.toList.drop (i+1+(xs.drop i).length)).take i=xs.take i:=by
  rw [List.append_assoc,List.take_append_of_le_length (by rw [List.length_take,Array.length_toList];omega),List.take_take, <- ht,List.take_take];congr 1;omega
 have e2:(cur.toList.take (i+1)++xs.drop i++cur.toList.drop (i+1+(xs.drop i).length)).drop (i+[x].length)=xs.drop i++cur.toList.drop (n+1):=by
  rw [List.append_assoc,List.drop_append_of_le_length (by rw [List.length_take,Array.length_toList];simp;omega),List.drop_take];have:i+1+(xs.drop i).length=n+1:=by rw [List.length_drop];omega
  rw [this];simp
 rw [e1,e2];have e3:xs.take i++[x]++(xs.drop i++cur.toList.drop (n+1))=(xs.take i++x::xs.drop i)++cur.toList.drop (n+1):=by simp
 rw [e3, <- hl,List.take_append_of_le_length (Nat.le_refl _),List.take_length]
theorem xP {w:World} {e:TypeId} {g cap n:Nat} {cur:Array Value} {xs:List Value} {x:Value} (hg:w.heap[g]? = some (.cells cur e (0,0))) (hs:cur.size=cap) (ht:cur.toList.take n=xs)
 (hx:xs.length=n) (hr:n+1<=cap) (hm:cap<=maxLen) (e':Ending) (he:e'=.returned (.slice (some ⟨g,0,none⟩) (n+1) cap)) :
 nT w (w.setCells g n [x]) e (.slice (some ⟨g,0,none⟩) n cap) (xs.take n++x::xs.drop n) e':=by
 obtain ⟨c2,h2,t2⟩:=cT g e [x] n w cur hg (by simp;omega)
 have s2:c2.size=cap:=by
  rw [<- Array.length_toList,t2];simp [List.length_take];omega
 have hl:(xs.take n++x::xs.drop n).length=n+1:=by simp [List.length_take];omega
 refine ⟨_,he,?_,dN (S:=(· = g)) (dG g _ _ _) (fun k hk=>by subst hk;rfl),Or.inl rfl⟩;rw [hl];refine r8 h2 hr hm s2 ?_;rw [t2,ht,List.take_of_length_le (by omega:xs.length<=n),List.drop_of_length_le (by omega:xs.length<=n),List.take_append_of_le_length (by simp;omega),List.take_of_length_le (by simp;omega)]
theorem rK {w w':World} {e:TypeId} {G n i:Nat} {v:Value} {ROW:Array Value} {xs:List Value} {x:Value} (hx:xs.length=n) (hi:i<=n) (hG:n+1<=G) (hm:G<=maxLen)
 (hw:aL (fun _=>False) w w') (hrow:w'.heap[w.heap.size]? = some (.cells ROW e (0,0))) (hs:ROW.size=G) (ht:ROW.toList.take (n+1)=xs.take i++x::xs.drop i) (e':Ending) (he:e'=.returned (.slice (some ⟨w.heap.size,0,none⟩) (n+1) G)) :
 nT w w' e v (xs.take i++x::xs.drop i) e':=by
 have hl:(xs.take i++x::xs.drop i).length=n+1:=by simp [List.length_take];omega
 refine ⟨_,he,?_,dN hw (fun _ h=>h.elim),Or.inr ⟨_,rfl,Nat.le_refl _⟩⟩;rw [hl];exact r8 hrow hG hm hs ht
theorem rL {w:World} {e:TypeId} {G n:Nat} {v:Value} {Z:Array Value} {xs:List Value} {x:Value} (hx:xs.length=n) (hG:n+1<=G) (hm:G<=maxLen) (hZ:Z.size=G-(n+1))
 (e':Ending) (he:e'=.returned (.slice (some ⟨w.heap.size,0,none⟩) (n+1) G)) :
 nT w (w.drew.alloc (.cells ((xs++[x]).toArray++Z) e)) e v (xs.take n++x::xs.drop n) e':=by
 refine rK (i:=n) (ROW:=(xs++[x]).toArray++Z) hx (Nat.le_refl _) hG hm ((aL.refl _ w).drew.alloc _) (heap_alloc_new w.drew _) (by simp;omega) ?_ e' he;rw [Array.toList_append,List.take_append_of_le_length (by simp;omega),List.take_of_length_le (by simp;omega),List.take_of_length_le (by omega:xs.length<=n),List.drop_of_length_le (by omega:xs.length<=n)]
theorem xQ {w:World} {e:TypeId} {G n i:Nat} {v:Value} {Y Z:Array Value} {xs:List Value} {x:Value} (hx:xs.length=n) (hi:i<n) (hG:n+1<=G) (hm:G<=maxLen) (hY:Y.size=n+1-i) (hZ:Z.size=G-(n+1))
 (e':Ending) (he:e'=.returned (.slice (some ⟨w.heap.size,0,none⟩) (n+1) G)) :
 nT w ((((w.alloc (.cells ((xs.take i).toArray++Y++Z) e)).drew.setCells w.heap.size i [x]).drew).setCells w.heap.size (i+1) (xs.drop i)) e v (xs.take i++x::xs.drop i) e':=by
 have hti:(xs.take i).length=i:=by rw [List.length_take];omega
 have h0:((w.alloc (.cells ((xs.take i).toArray++Y++Z) e)).drew).heap[w.heap.size]? = some (.cells ((xs.take i).toArray++Y++Z) e (0,0)):=heap_alloc_new w _;have s0:((xs.take i).toArray++Y++Z).size=G:=by simp [List.length_take];omega
 obtain ⟨c1,h1,t1⟩:=cT w.heap.size e [x] i _ _ h0 (by rw [s0];simp;omega)
 have s1:c1.size=G:=by
  rw [<- Array.length_toList,t1];simp [List.length_take];omega
 obtain ⟨c2,h2,t2⟩:=cT w.heap.size e (xs.drop i) (i+1) (((w.alloc (.cells ((xs.take i).toArray++Y++Z) e)).drew.setCells w.heap.size i [x]).drew) c1 h1 (by rw [s1,List.length_drop];omega)
 have s2:c2.size=G:=by
  rw [<- Array.length_toList,t2];simp [List.length_take];omega
 have k0:aL (fun k=>k=w.heap.size) w ((((w.alloc (.cells ((xs.take i).toArray++Y++Z) e)).drew.setCells w.heap.size i [x]).drew).setCells w.heap.size (i+1) (xs.drop i)) :=
  ((((aL.refl (fun k=>k=w.heap.size) w).alloc _).drew.trans (dG w.heap.size _ _ _) (fun _ h _=>h)).drew).trans (dG w.heap.size _ _ _) (fun _ h _=>h)
 refine rK (ROW:=c2) hx (Nat.le_of_lt hi) hG hm (k0.mono (fun k hk hl=>by omega)) h2 s2 ?_ e' he;rw [t2,t1]
 have e1:((((xs.take i).toArray++Y++Z).toList.take i++[x]++((xs.take i).toArray++Y++Z).toList.drop (i+[x].length))).take (i+1)=xs.take i++[x]:=by
  have e0:((xs.take i).toArray++Y++Z).toList.take i=xs.take i:=by
   rw [Array.toList_append,Array.toList_append,List.append_assoc,List.take_append_of_le_length (by simp [List.length_take];omega)];exact List.take_of_length_le (by simp [List.length_take];omega)
  rw [e0,List.take_append_of_le_length (by simp [List.length_take];omega),List.take_of_length_le (by simp [List.length_take];omega)]
 have hl:(xs.take i++x::xs.drop i).length=n+1:=by simp [List.length_take];omega
 rw [e1];have e3:∀ R:List Value,xs.take i++[x]++xs.drop i++R=(xs.take i++x::xs.drop i)++R:=fun R=>by simp
 rw [e3, <- hl,List.take_append_of_le_length (Nat.le_refl _),List.take_length]
def yG (w w':World) (E:TypeId) (v:Value) (xs:List Value) (e:Ending):Prop :=
 ∃ v',e=.returned v'/\w'.ownsRow 0 E 1 v' xs.length xs/\w.grownBy w' v.ownBlock/\v'.ownBlock=v.ownBlock
theorem IC {w:World} {e:TypeId} {g cap n i:Nat} {cur:Array Value} {xs:List Value} {z:Value} (hg:w.heap[g]? = some (.cells cur e (0,0))) (hs:cur.size=cap) (ht:cur.toList.take n=xs)
 (hx:xs.length=n) (hi:i<n) (hn:n<=cap) (hm:cap<=maxLen) (e':Ending) (he:e'=.returned (.slice (some ⟨g,0,none⟩) (n-1) cap)) :
 yG w ((w.drew.setCells g i (xs.drop (i+1))).setCells g (n-1) [z]) e (.slice (some ⟨g,0,none⟩) n cap) (xs.eraseIdx i) e':=by
 obtain ⟨c1,h1,t1⟩:=cT g e (xs.drop (i+1)) i w.drew cur hg (by rw [List.length_drop];omega)
 have s1:c1.size=cap:=by
  rw [<- Array.length_toList,t1];simp [List.length_take];omega
 obtain ⟨c2,h2,t2⟩:=cT g e [z] (n-1) _ c1 h1 (by simp;omega)
 have s2:c2.size=cap:=by
  rw [<- Array.length_toList,t2];simp [List.length_take];omega
 have hl:(xs.eraseIdx i).length=n-1:=by rw [List.length_eraseIdx,if_pos (by omega),hx]
 refine ⟨_,he,?_,dN (S:=(· = g)) (((aL.refl (· = g) w).drew.trans (dG g _ _ _) (fun _ h _=>h)).trans (dG g _ _ _) (fun _ h _=>h)) (fun k hk=>by subst hk;rfl),rfl⟩;rw [hl];refine r8 h2 (by omega) hm s2 ?_
 have hte:cur.toList.take i=xs.take i:=by
  rw [<- ht,List.take_take];congr 1;omega
 have hti:(xs.take i).length=i:=by rw [List.length_take];omega
 rw [t2,t1,hte,List.eraseIdx_eq_take_drop_succ];have hb:(xs.take i++xs.drop (i+1)).length=n-1:=by rw [List.length_append,hti,List.length_drop];omega
 rw [List.append_assoc,List.take_append_of_le_length (by simp [List.length_take];omega),List.take_take,Nat.min_self, <- hb,List.take_append_of_le_length (Nat.le_refl _),List.take_length]
section
variable {K:Type} {less:K->K->Bool}
variable [DecidableEq K]
end
end
section
open Go.RowKit Go.Lib
theorem nP:(Tryz.prog.info? 2).map (fun i=>(i.zero,i.size,i.bytes))=some (some (Value.int .i64 0),1,8):=by kernel_rfl
theorem D7 (w:World):(Go.sizeOf 2).run Tryz.prog w=.ok 1 w:=by kernel_rfl
theorem FZ:Tryz.prog.underlying 3=some (.int .i64):=by kernel_rfl
theorem fG:Tryz.prog.underlying 51=some (.slice 2):=by kernel_rfl
theorem A8 (b n c i vb:Nat) (cur:Array Value) (cs:List Value) (x:Value) (w:World) (hi:i<n) (hroom:n+1<=c) (hc63:c<=9223372036854775807) (hvb:vb ≠ b)
 (hb:w.heap[b]? = some (.cells cur 2 (0,0))) (hcur:cur.size=c) (hcl:cs.length=n) (ht:cur.toList.take n=cs) (hv:w.heap[vb]? = some (.cells #[x] 2 (0,0))) (h1c:∀ v∈cs,v.oneCell'=true) (h1v:x.oneCell'=true) :
 Calls Tryz.prog 111 #[.slice (some ⟨b,0,none⟩) n c,.int .i64 i,.slice (some ⟨vb,0,none⟩) 1 1] w fun e w' =>
  e=.returned (.slice (some ⟨b,0,none⟩) (n+1) c)/\w'=(w.drew.setCells b (i+1) (cs.drop i)).setCells b i [x]:=by
 have hcs:∀ j v,cs[j]? = some v->w.cell? ⟨b,j,none⟩=some v:=fun j v h=>fA hb ht h
 have hsp:∀ j,j<n+1->(w.cell? ⟨b,j,none⟩).isSome=true:=fun j h=>by
  rw [cell_of_row w b j cur _ (0,0) hb,Array.getElem?_eq_getElem (by omega)];rfl
 have hfz:∀ j,w.frozen? ⟨b,j,none⟩=false:=fun j=>frozen_of_row w b j cur _ hb
 have hvs:∀ j v,[x][j]? = some v->w.cell? ⟨vb,j,none⟩=some v:=fun j v h=>fA (n:=1) hv rfl h
 have hz2:¬ ((i:Int)=(n:Int)):=by omega
 have hsz:(Tryz.prog.info? 2).map (·.size)=some 1:=by
  obtain ⟨i0,hi0,h0,h1,h2⟩:=info_parts nP;rw [hi0];simp [h1]
 have hsa:w.shape? vb=some (2,1):=by simp [World.shape?,hv]
 have hsb:w.shape? b=some (2,c):=by simp [World.shape?,hb,hcur]
 have hov:∀ lb cb,(callFunc 154 #[.slice (some ⟨vb,0,none⟩) 1 1,.slice (some ⟨b,i+1,none⟩) lb cb]).run Tryz.prog w=.ok (.value (.bool false)) w:=fun lb cb=>by
  rw [run_callFunc_extern Tryz.func154 (by kernel_rfl) (by kernel_rfl) (by kernel_rfl) (e:=Extern.SlicesOverlaps.overlaps #[51,51] #[4]) (by kernel_rfl),
   Lib.run_overlaps_apart w 51 4 2 fG 1 D7 ⟨vb,0,none⟩ ⟨b,i+1,none⟩ 1 1 lb cb hvb 2 2 1 c hsa hsb (by omega) (frozen_of_row w vb 0 _ _ hv) (frozen_of_row w vb 1 _ _ hv)]
  rfl
 have hdl:(cs.drop i).length=n-i:=by rw [List.length_drop,hcl]
 have hw1:IntKind.i64.wrap ((i:Int)+1)=(i:Int)+1:=by rw [IntKind.wrap_i64];omega
 have hin:i<=n:=by omega
 have hb1:(0:Int)<=(i:Int)+1:=by omega
 have htn:((i:Int)+1).toNat=i+1:=by omega
 have hb3:(i:Int)<=(n:Int)+1:=by omega
 have hb2:¬ (c=i+1):=by omega
 have hb4:¬ (c=i):=by omega
 have hcp1:∀ ty dc sc,(Builtin.copy_ #[51,51] ty #[.slice (some ⟨b,i+1,none⟩) (n-i) dc,.slice (some ⟨b,i,none⟩) (n+1-i) sc]).run Tryz.prog w.drew=.ok (goInt (cs.drop i).length) (w.drew.setCells b (i+1) (cs.drop i)):=fun ty dc sc =>
  run_copy_cells w.drew _ _ ty 2 b (i+1) (n-i) dc ⟨b,i,none⟩ (n+1-i) sc (cs.drop i) fG hsz (by rw [hdl];simp only [Nat.min_def];split <;> omega)
   (fun j v hj=>by rw [Addr.add_lit];exact hcs (i+j) v (by rwa [List.getElem?_drop] at hj))
   (fun j hj=>hsp _ (by omega)) (fun j hj=>hfz _) (fun v hv=>h1c v (List.mem_of_mem_drop hv))
 obtain ⟨W1,hW1⟩:∃ W1,W1=w.drew.setCells b (i+1) (cs.drop i):=⟨_,rfl⟩
 have hsp1:∀ k,k<n+1->(W1.cell? ⟨b,k,none⟩).isSome=true:=fun k hk=>by
  rw [hW1];exact isSome_setCells b (cs.drop i) (i+1) w.drew (fun j hj=>hsp _ (by omega)) _ (hsp k hk)
 have hcp2:∀ (W:World),(∀ x,W.cell? x=W1.cell? x)->(∀ x,W.frozen? x=W1.frozen? x)->∀ ty dc,(Builtin.copy_ #[51,51] ty #[.slice (some ⟨b,i,none⟩) (n+1-i) dc,.slice (some ⟨vb,0,none⟩) 1 1]).run Tryz.prog W=.ok (goInt [x].length) (W.setCells b i [x]):=fun W hWc hWf ty dc =>
  run_copy_cells W _ _ ty 2 b i (n+1-i) dc ⟨vb,0,none⟩ 1 1 [x] fG hsz (by simp only [List.length_singleton,Nat.min_def];split <;> omega)
   (fun j v hj=>by
    rw [Addr.add_lit,Nat.zero_add,hWc,hW1,World.cell?_setCells_out b _ _ _ _ (fun h _=>absurd h hvb)];exact hvs j v hj)
   (fun j hj=>by rw [hWc];exact hsp1 _ (by simp at hj;omega)) (fun j hj=>by rw [hWf,hW1,World.frozen?_setCells];exact hfz _) (by simpa using h1v)
 rw [<- hW1] at hcp1;clear hcs hsp hfz hvs hsz hsa hsb hdl hsp1 hb hcur ht hv h1c h1v;go_enter Tryz.func111,Tryz.ntmps111
 go_wp2_with (simp only [hov])
 go_region_law (refine step_copy_runI rfl _ _ 51 51 rfl _ _ (by simp [Act.eval,Act.put]) (by simp [Act.eval,Act.put]) (hcp1 _ _ _) ?_)
 go_wp2_with (at_builtin;refine wpList_copy_runI _ rfl _ _ 51 51 rfl _ _ rfl rfl (hcp2 _ (fun _=>rfl) (fun _=>rfl) _ _) ?_)
 go_ret;first | exact ⟨rfl,rfl⟩ | exact ⟨rfl,by rw [hW1]⟩
theorem D9 (b n c vb:Nat) (cur:Array Value) (x:Value) (w:World) (hroom:n+1<=c) (hc63:c<=9223372036854775807)
 (hb:w.heap[b]? = some (.cells cur 2 (0,0))) (hcur:cur.size=c) (hv:w.heap[vb]? = some (.cells #[x] 2 (0,0))) (h1v:x.oneCell'=true) :
 Calls Tryz.prog 111 #[.slice (some ⟨b,0,none⟩) n c,.int .i64 n,.slice (some ⟨vb,0,none⟩) 1 1] w fun e w' =>
  e=.returned (.slice (some ⟨b,0,none⟩) (n+1) c)/\w'=w.setCells b n [x]:=by
 have hsrc:Src Tryz.prog 1 51 (.slice (some ⟨vb,0,none⟩) 1 1) 1 [x] w:=Src.ofSlice w fG ⟨vb,0,none⟩ 1 1 [x] rfl (fun j u hj=>by rw [Addr.add_lit,Nat.zero_add];exact fA (n:=1) hv rfl hj) (by simpa using h1v)
 have hsp:∀ j,j<1->(w.cell? ⟨b,0+n+j,none⟩).isSome=true:=fun j h=>by
  rw [cell_of_row w b _ cur _ (0,0) hb,Array.getElem?_eq_getElem (by omega)];rfl
 have hfz:∀ j,j<1->w.frozen? ⟨b,0+n+j,none⟩=false:=fun j _=>frozen_of_row w b _ cur _ hb
 clear hb hcur hv h1v;go_enter Tryz.func111,Tryz.ntmps111
 go_wp2_with (at_builtin;refine wpList_append_room1 _ rfl _ _ 51 51 rfl 2 _ _ fG nP b 0 n c rfl _ rfl 1 [x] hsrc hroom hsp hfz ?_)
 go_ret;exact ⟨rfl,rfl⟩
theorem Ac (base:Option Addr) (n c vb:Nat) (cs:List Value) (x:Value) (w:World) (hnc:n<=c) (hroom:c<n+1) (hbig:(n+1)*8<=140737488355328)
 (hcl:cs.length=n) (hnil:base=none->n=0) (hcs:∀ a,base=some a->∀ j v,cs[j]? = some v->w.cell? (a.add j)=some v) (hv:w.heap[vb]? = some (.cells #[x] 2 (0,0))) (h1v:x.oneCell'=true) :
 Calls Tryz.prog 111 #[.slice base n c,.int .i64 n,.slice (some ⟨vb,0,none⟩) 1 1] w fun e w' =>
  e=.returned (.slice (some ⟨w.heap.size,0,none⟩) (n+1) (grownCap w (n+1) c 2)) /\
  w'=w.drew.alloc (.cells ((cs++[x]).toArray++Builtin.zeroCells (Value.int .i64 0).cells (grownCap w (n+1) c 2-(n+1))) 2):=by
 obtain ⟨i0,hi0,hz0,hzs,hzb⟩:=info_parts nP
 have hsrc:Src Tryz.prog i0.size 51 (.slice (some ⟨vb,0,none⟩) 1 1) 1 [x] w:=by
  rw [hzs];exact Src.ofSlice w fG ⟨vb,0,none⟩ 1 1 [x] rfl (fun j u hj=>by rw [Addr.add_lit,Nat.zero_add];exact fA (n:=1) hv rfl hj) (by simpa using h1v)
 have hold:(Builtin.firstCells i0.size n (.slice base n c)).run Tryz.prog w.drew=.ok cs.toArray w.drew:=by
  rw [hzs];cases base with
  | none =>
    have h0:=hnil rfl;subst h0;rw [List.length_eq_zero_iff.1 hcl];exact run_firstCells_none w.drew 1 0 0 c
  | some a=>exact run_firstCells_some w.drew 1 n a n c cs (by omega) (fun j v hj=>hcs a rfl j v hj)
 have hrun:∀ ty,(Builtin.append_ #[51,51] ty #[.slice base n c,.slice (some ⟨vb,0,none⟩) 1 1]).run Tryz.prog w=_:=fun ty =>
  run_append_grow_src w 51 51 ty 2 i0 _ fG hi0 hz0 base n c cs hold _ 1 [x] hsrc hroom (by omega) (by rw [hzb];exact growslice_fits hroom hbig)
 clear hv h1v hcs hold hsrc;go_enter Tryz.func111,Tryz.ntmps111
 cases base with
 | none =>
   have h0:=hnil rfl;subst h0;go_wp2_with (at_builtin;refine Lib.wpList_append_run _ rfl _ _ _ _ rfl _ _ rfl rfl _ _ (hrun _) ?_)
   go_ret;exact ⟨rfl,rfl⟩
 | some a =>
   obtain ⟨ab,ao,asp⟩:=a;go_wp2_with (at_builtin;refine Lib.wpList_append_run _ rfl _ _ _ _ rfl _ _ rfl rfl _ _ (hrun _) ?_)
   all_goals (go_ret;exact ⟨rfl,rfl⟩)
theorem Ea (b n c i vb:Nat) (cur:Array Value) (cs:List Value) (x:Value) (w:World) (hi:i<n) (hnc:n<=c) (hroom:c<n+1) (hbig:(n+1)*8<=140737488355328)
 (hb:w.heap[b]? = some (.cells cur 2 (0,0))) (hcl:cs.length=n) (ht:cur.toList.take n=cs) (hv:w.heap[vb]? = some (.cells #[x] 2 (0,0))) (h1c:∀ v∈cs,v.oneCell'=true) (h1v:x.oneCell'=true) :
 Calls Tryz.prog 111 #[.slice (some ⟨b,0,none⟩) n c,.int .i64 i,.slice (some ⟨vb,0,none⟩) 1 1] w fun e w' =>
  e=.returned (.slice (some ⟨w.heap.size,0,none⟩) (n+1) (grownCap w (n+1) c 2)) /\
  w'=(((w.alloc (.cells ((cs.take i).toArray++Builtin.zeroCells (Value.int .i64 0).cells (n+1-i)++Builtin.zeroCells (Value.int .i64 0).cells (grownCap w (n+1) c 2-(n+1))) 2)).drew.setCells w.heap.size i [x]).drew).setCells w.heap.size (i+1) (cs.drop i):=by
 have hcs:∀ j v,cs[j]? = some v->w.cell? ⟨b,j,none⟩=some v:=fun j v h=>fA hb ht h
 have hvs:∀ j v,[x][j]? = some v->w.cell? ⟨vb,j,none⟩=some v:=fun j v h=>fA (n:=1) hv rfl h
 obtain ⟨i0,hi0,hz0,hzs,hzb⟩:=info_parts nP;have hz2:¬ ((i:Int)=(n:Int)):=by omega
 have hz3:(c:Int)<(n:Int)+1:=by omega
 have hsz:(Tryz.prog.info? 2).map (·.size)=some 1:=by rw [hi0];simp [hzs]
 have hbw:b<w.heap.size:=lt_of_block hb;have hvw:vb<w.heap.size:=lt_of_block hv;have hkk:(n:Int)+1-(i:Int)=((n+1-i:Nat):Int):=by omega
 have hik:i+(n+1-i)=n+1:=by omega
 have hold:(Builtin.firstCells i0.size i (.slice (some ⟨b,0,none⟩) i c)).run Tryz.prog w.drew=.ok (cs.take i).toArray w.drew:=by
  rw [hzs]
  exact run_firstCells_some w.drew 1 i ⟨b,0,none⟩ i c (cs.take i) (by rw [List.length_take];omega) (fun j v hj=>by
   rw [Addr.add_lit,Nat.zero_add];rw [List.getElem?_take] at hj;split at hj
   · exact hcs j v hj
   · cases hj)
 have hrz:∀ ty,(Builtin.append_ #[51,3] ty #[.slice (some ⟨b,0,none⟩) i c,.int .i64 ((n:Int)+1-(i:Int))]).run Tryz.prog w =
  .ok (.slice (some ⟨w.heap.size,0,none⟩) (n+1) (grownCap w (n+1) c 2)) (w.drew.alloc (.cells ((cs.take i).toArray++Builtin.zeroCells (Value.int .i64 0).cells (n+1-i)++Builtin.zeroCells (Value.int .i64 0).cells (grownCap w (n+1) c 2-(n+1))) 2)):=fun ty=>by
  have h:=Lib.run_append_grow_zeros w 51 3 ty 2 i0 _ .i64 .i64 fG FZ hi0 hz0 (some ⟨b,0,none⟩) i c (cs.take i) hold (n+1-i) (by omega) (by omega) (by omega) (by omega) (by rw [hzb];omega) (by rw [hzb,hik];exact growslice_fits hroom hbig);rw [hik] at h;rw [hkk];exact h
 obtain ⟨G,hG⟩:∃ G,G=grownCap w (n+1) c 2:=⟨_,rfl⟩;obtain ⟨ROW,hROW⟩:∃ ROW:Array Value,ROW=(cs.take i).toArray++Builtin.zeroCells (Value.int .i64 0).cells (n+1-i)++Builtin.zeroCells (Value.int .i64 0).cells (G-(n+1)):=⟨_,rfl⟩;rw [<- hG] at hrz |-
 rw [<- hROW] at hrz |-
 have hRl:n+1<=ROW.size:=by
  rw [hROW];simp [Builtin.zeroCells,Value.cells];omega
 obtain ⟨W1,hW1⟩:∃ W1,W1=w.drew.alloc (.cells ROW 2):=⟨_,rfl⟩;rw [<- hW1] at hrz
 have hN:∀ j,j<n+1->(W1.cell? ⟨w.heap.size,j,none⟩).isSome=true:=fun j hj=>by
  rw [hW1,World.cell?_alloc_at (w:=w.drew) ROW _ w.heap.size j rfl,Array.getElem?_eq_getElem (by omega)];rfl
 have hNf:∀ j,W1.frozen? ⟨w.heap.size,j,none⟩=false:=fun j=>by rw [hW1];exact World.frozen?_alloc_at (w:=w.drew) ROW _ w.heap.size j rfl
 have hOb:∀ j v,w.cell? ⟨b,j,none⟩=some v->W1.cell? ⟨b,j,none⟩=some v:=fun j v h=>by rw [hW1,World.cell?_alloc_past (w:=w.drew) _ b j hbw];exact h
 have hOv:∀ j v,w.cell? ⟨vb,j,none⟩=some v->W1.cell? ⟨vb,j,none⟩=some v:=fun j v h=>by rw [hW1,World.cell?_alloc_past (w:=w.drew) _ vb j hvw];exact h
 have hcpA:∀ (W:World),(∀ x,W.cell? x=W1.cell? x)->(∀ x,W.frozen? x=W1.frozen? x)->∀ ty dc,(Builtin.copy_ #[51,51] ty #[.slice (some ⟨w.heap.size,i,none⟩) (n+1-i) dc,.slice (some ⟨vb,0,none⟩) 1 1]).run Tryz.prog W=.ok (goInt [x].length) (W.setCells w.heap.size i [x]):=fun W hWc hWf ty dc =>
  run_copy_cells W _ _ ty 2 w.heap.size i (n+1-i) dc ⟨vb,0,none⟩ 1 1 [x] fG hsz (by simp only [List.length_singleton,Nat.min_def];split <;> omega)
   (fun j v hj=>by rw [Addr.add_lit,Nat.zero_add,hWc];exact hOv _ v (hvs j v hj))
   (fun j hj=>by rw [hWc];exact hN _ (by simp at hj;omega)) (fun j hj=>by rw [hWf];exact hNf _) (by simpa using h1v)
 have hGn:n+1<=G:=by rw [hG];exact grownCap_ge w _ _ _
 have hG63:G<=9223372036854775807:=by
  have:=grownCap_le_maxLen w (n+1) c 2 (by unfold maxLen;omega);rw [<- hG] at this;unfold maxLen at this;omega
 have hGi:¬ (G=i):=by omega
 have hGim:¬ (G=i+1):=by omega
 have hci:¬ (c=i):=by omega
 have hbN:b ≠ w.heap.size:=by omega
 have hdl:(cs.drop i).length=n-i:=by rw [List.length_drop,hcl]
 have hcpB:∀ (W:World),(∀ y,W.cell? y=(W1.setCells w.heap.size i [x]).cell? y)->(∀ y,W.frozen? y=(W1.setCells w.heap.size i [x]).frozen? y)->∀ ty dc sc,(Builtin.copy_ #[51,51] ty #[.slice (some ⟨w.heap.size,i+1,none⟩) (n-i) dc,.slice (some ⟨b,i,none⟩) (n-i) sc]).run Tryz.prog W=.ok (goInt (cs.drop i).length) (W.setCells w.heap.size (i+1) (cs.drop i)):=fun W hWc hWf ty dc sc =>
  run_copy_cells W _ _ ty 2 w.heap.size (i+1) (n-i) dc ⟨b,i,none⟩ (n-i) sc (cs.drop i) fG hsz (by rw [hdl];simp only [Nat.min_def];split <;> omega)
   (fun j v hj=>by
    rw [Addr.add_lit,hWc,World.cell?_setCells_out _ _ _ _ _ (fun h _=>absurd h hbN)];exact hOb _ v (hcs (i+j) v (by rwa [List.getElem?_drop] at hj)))
   (fun j hj=>by rw [hWc];exact isSome_setCells _ [x] i W1 (fun t ht=>hN _ (by simp at ht;omega)) _ (hN _ (by omega)))
   (fun j hj=>by rw [hWf,World.frozen?_setCells];exact hNf _) (fun v hv=>h1c v (List.mem_of_mem_drop hv))
 subst hW1;have hE1:∀ x,((w.alloc (.cells ROW 2)).drew).cell? x=(w.drew.alloc (.cells ROW 2)).cell? x:=fun x=>rfl
 have hE2:∀ x,((w.alloc (.cells ROW 2)).drew).frozen? x=(w.drew.alloc (.cells ROW 2)).frozen? x:=fun x=>rfl
 have hF1:∀ y,(((w.alloc (.cells ROW 2)).drew.setCells w.heap.size i [x]).drew).cell? y=((w.drew.alloc (.cells ROW 2)).setCells w.heap.size i [x]).cell? y:=fun y=>rfl
 have hF2:∀ y,(((w.alloc (.cells ROW 2)).drew.setCells w.heap.size i [x]).drew).frozen? y=((w.drew.alloc (.cells ROW 2)).setCells w.heap.size i [x]).frozen? y:=fun y=>rfl
 have hw1:IntKind.i64.wrap ((i:Int)+1)=(i:Int)+1:=by rw [IntKind.wrap_i64];omega
 have hb1:(0:Int)<=(i:Int)+1:=by omega
 have hin:i<=n:=by omega
 have htn:((i:Int)+1).toNat=i+1:=by omega
 have hb3:(i:Int)<=(n:Int):=by omega
 have hb5:(i:Int)<=(n:Int)+1:=by omega
 clear hkk hik hold hROW hG hRl hb ht hv h1c h1v hcs hvs hN hNf hOb hOv;go_enter Tryz.func111,Tryz.ntmps111
 go_wp2_with (first
  | (at_builtin;refine Lib.wpList_append_run _ rfl _ _ _ _ rfl _ _ rfl rfl _ _ (hrz _) ?_)
  | (at_builtin;refine wpList_copy_runI _ rfl _ _ 51 51 rfl _ _ rfl rfl (hcpA _ hE1 hE2 _ _) ?_)
  | (at_builtin;refine wpList_copy_runI _ rfl _ _ 51 51 rfl _ _ rfl rfl (hcpB _ (fun _=>rfl) (fun _=>rfl) _ _ _) ?_))
 go_region_law (refine step_copy_runI rfl _ _ 51 51 rfl (.slice (some ⟨w.heap.size,i+1,none⟩) (n-i) (G-(i+1))) (.slice (some ⟨b,i,none⟩) (n-i) (c-i)) (by simp [Act.eval,Act.put]) (by simp [Act.eval,Act.put]) (hcpB _ hF1 hF2 3 (G-(i+1)) (c-i)) ?_)
 go_wp2
 go_ret;exact ⟨rfl,rfl⟩
theorem Kf (v:Value) (n i vb:Nat) (xs:List Value) (x:Value) (w:World) (hn:n<=1000000) (hi:i<=n) (ho:w.ownsRow 0 2 1 v n xs) (hv:w.heap[vb]? = some (.cells #[x] 2 (0,0))) (hne:v.ownBlock ≠ some vb)
 (h1c:∀ u∈xs,u.oneCell'=true) (h1v:x.oneCell'=true) :
 Calls Tryz.prog 111 #[v,.int .i64 i,.slice (some ⟨vb,0,none⟩) 1 1] w fun e w'=>nT w w' 2 v (xs.take i++x::xs.drop i) e:=by
 rcases lL ho with ⟨rfl,rfl,rfl⟩ | ⟨g,cap,cur,rfl,hob,hg,hnc,hm,hs,ht,hx,_⟩
 · obtain rfl:i=0:=by omega
   refine (Ac none 0 0 vb [] x w (Nat.le_refl _) (by omega) (by omega) rfl (fun _=>rfl) (fun a h=>by cases h) hv h1v).mono fun e w' ⟨he,hw⟩=>?_
   subst hw;exact rL (xs:=[]) rfl (grownCap_ge w (0+1) 0 2) (grownCap_le_maxLen w (0+1) 0 2 (by unfold maxLen;omega)) (by simp [Builtin.zeroCells,Value.cells]) e he
 · have hne':vb ≠ g:=fun h=>hne (by rw [hob,h])
   have hm':cap<=9223372036854775807:=by unfold maxLen at hm;omega
   by_cases hr:n+1<=cap
   · by_cases hin:i=n
     · subst hin
       refine (D9 g i cap vb cur x w hr hm' hg hs hv h1v).mono fun e w' ⟨he,hw⟩=>?_
       subst hw;exact xP hg hs ht hx hr hm e he
     · refine (A8 g n cap i vb cur xs x w (by omega) hr hm' hne' hg hs hx ht hv h1c h1v).mono fun e w' ⟨he,hw⟩=>?_
       subst hw;exact uT hg hs ht hx (by omega) hr hm e he
   · have hG1:=grownCap_ge w (n+1) cap 2
     have hG2:=grownCap_le_maxLen w (n+1) cap 2 (by unfold maxLen;omega);by_cases hin:i=n
     · subst hin
       refine (Ac (some ⟨g,0,none⟩) i cap vb xs x w hnc (by omega) (by omega) hx (fun h=>by cases h) (fun a ha j u hj=>by cases ha;rw [Addr.add_lit,Nat.zero_add];exact fA hg ht hj) hv h1v).mono fun e w' ⟨he,hw⟩=>?_
       subst hw;exact rL hx hG1 hG2 (by simp [Builtin.zeroCells,Value.cells]) e he
     · refine (Ea g n cap i vb cur xs x w (by omega) hnc (by omega) (by omega) hg hx ht hv h1c h1v).mono fun e w' ⟨he,hw⟩=>?_
       subst hw;exact xQ hx (by omega) hG1 hG2 (by simp [Builtin.zeroCells,Value.cells]) (by simp [Builtin.zeroCells,Value.cells]) e he
end
section
open Go.RowKit Go.Lib
theorem Et:(Tryz.prog.info? 2).map (fun i=>(i.zero,i.size,i.bytes))=some (some (Value.int .i64 0),1,8):=by kernel_rfl
theorem Ai:Tryz.prog.underlying 51=some (.slice 2):=by kernel_rfl
theorem Ep (w:World):(zeroValue 2).run Tryz.prog w=.ok (Value.int .i64 0) w:=by kernel_rfl
theorem Er (g n cap i:Nat) (cur:Array Value) (xs:List Value) (w:World) (hi:i<n) (hn:n<=cap) (_:cap<=9223372036854775807)
 (hg:w.heap[g]? = some (.cells cur 2 (0,0))) (hs:cur.size=cap) (hx:xs.length=n) (ht:cur.toList.take n=xs) (h1:∀ v∈xs,v.oneCell'=true) :
 Calls Tryz.prog 112 #[.slice (some ⟨g,0,none⟩) n cap,.int .i64 i,.int .i64 ((i:Int)+1)] w fun e w' =>
  e=.returned (.slice (some ⟨g,0,none⟩) (n-1) cap)/\w'=(w.drew.setCells g i (xs.drop (i+1))).setCells g (n-1) [Value.int .i64 0]:=by
 obtain ⟨i0,hi0,hz0,hz1,hz2⟩:=info_parts Et;obtain ⟨news,hnews⟩:∃ news,news=xs.drop (i+1):=⟨_,rfl⟩;have hlen:news.length=n-(i+1):=by rw [hnews,List.length_drop,hx]
 have hcs:∀ j v,xs[j]? = some v->w.cell? ⟨g,j,none⟩=some v:=fun j v h=>fA hg ht h
 have hsp:∀ j,j<cap->(w.cell? ⟨g,j,none⟩).isSome=true:=fun j h=>by
  rw [cell_of_row w g j cur _ (0,0) hg,Array.getElem?_eq_getElem (by omega)];rfl
 have hfz:∀ j,w.frozen? ⟨g,j,none⟩=false:=fun j=>frozen_of_row w g j cur _ hg
 obtain ⟨A,hA,hsrc⟩:∃ A:Addr,(if cap=i+1 then some (⟨g,0,none⟩:Addr) else some ⟨g,i+1,none⟩)=some A/\Hid (∀ t u,news[t]? = some u->w.drew.cell? (A.add t)=some u):=by
  by_cases h:cap=i+1
  · refine ⟨⟨g,0,none⟩,by simp [h],fun t u hu=>?_⟩
    have h0:news.length=0:=by rw [hlen];omega
    rw [List.length_eq_zero_iff.1 h0] at hu;simp at hu
  · refine ⟨⟨g,i+1,none⟩,by simp [h],fun t u hu=>?_⟩
    rw [hnews,List.getElem?_drop] at hu;rw [Addr.add_lit];exact hcs _ _ hu
 have s1:Hid (news.length=(n-(i+1))*1):=by rw [Nat.mul_one];exact hlen
 have s2:Hid (∀ u∈news,u.oneCell'=true):=fun u hu=>h1 u (by rw [hnews] at hu;exact List.mem_of_mem_drop hu)
 have s3:Hid (∀ t,t<news.length->(w.drew.cell? ⟨g,0+i*1+t,none⟩).isSome=true/\w.drew.frozen? ⟨g,0+i*1+t,none⟩=false):=fun t ht=>by
  rw [hlen] at ht;exact ⟨hsp _ (by omega),hfz _⟩
 obtain ⟨W1,hW1⟩:∃ W1,W1=w.drew.setCells g (0+i*1) news:=⟨_,rfl⟩
 have hsp1:∀ j,j<cap->(W1.cell? ⟨g,j,none⟩).isSome=true:=fun j hj=>by
  rw [hW1];obtain ⟨c1,q1,t1⟩:=cT g 2 news (0+i*1) w.drew cur hg (by omega);rw [cell_of_row _ g j c1 _ (0,0) q1,Array.getElem?_eq_getElem (by rw [<- Array.length_toList,t1];simp [List.length_take];omega)];rfl
 have hfz1:∀ j,W1.frozen? ⟨g,j,none⟩=false:=fun j=>by rw [hW1,World.frozen?_setCells];exact hfz j
 have e1:n-(i+(n-(i+1)))=1:=by omega
 have hcl:∀ ty,(Builtin.clear_ #[51] ty #[.slice (some ⟨g,i+(n-(i+1)),none⟩) (n-(i+(n-(i+1)))) (cap-(i+(n-(i+1))))]).run Tryz.prog W1=.ok (.tuple #[]) (W1.setCells g (i+(n-(i+1))) (List.replicate (n-(i+(n-(i+1)))) (Value.int .i64 0))) :=
  fun ty=>Lib.run_clear_slice W1 _ _ ty _ Ai Ep rfl rfl g (i+(n-(i+1))) _ _ (by omega) (fun t ht=>hsp1 _ (by omega)) (fun t ht=>hfz1 _)
 have X:Hid (W1=w.drew.setCells g i news):=by
  show W1=_;rw [hW1,Nat.zero_add,Nat.mul_one]
 have hW:Hid (W1=w.drew.setCells g (0+i*1) news):=hW1;have N:Hid (news=xs.drop (i+1)):=hnews;have hic:i<=cap:=by omega
 have hjc:i+1<=cap:=by omega
 have hb1:(0:Int)<=(i:Int)+1:=by omega
 have hb2:(i:Int)+1<=(n:Int):=by omega
 have E1:Hid (n-(i+(n-(i+1)))=1):=e1;clear e1 hW1 hsp hsp1 hfz hfz1 hcs hnews hlen hg hs hx ht h1;go_enter Tryz.func112,Tryz.ntmps112
 go_wp2_with fail
 go_region_law (refine step_append_room rfl (.tmp 22) (.tmp 25) 51 rfl 2 i0 1 Ai hi0 hz1 g 0 i cap (by simp [Act.eval,Act.put]) A (n-(i+1)) (cap-(i+1)) news (by simp [Act.eval,Act.put]) s1.out hsrc.out s2.out (by omega) s3.out ?_;rw [<- hW.out])
 go_wp2
 go_ret;refine ⟨by rw [show n-1=i+(n-(i+1)) by omega];rfl,?_⟩;rw [E1.out,X.out,N.out,show n-1=i+(n-(i+1)) by omega];rfl
theorem Ki (v:Value) (n i:Nat) (xs:List Value) (w:World) (hn:n<=1000000) (hi:i<n) (ho:w.ownsRow 0 2 1 v n xs) (h1:∀ u∈xs,u.oneCell'=true) :
 Calls Tryz.prog 112 #[v,.int .i64 i,.int .i64 ((i:Int)+1)] w fun e w'=>yG w w' 2 v (xs.eraseIdx i) e:=by
 rcases lL ho with ⟨rfl,rfl,rfl⟩ | ⟨g,cap,cur,rfl,hob,hg,hnc,hm,hs,ht,hx,_⟩
 · omega
 · refine (Er g n cap i cur xs w hi hnc (by unfold maxLen at hm;omega) hg hs hx ht h1).mono fun e w' ⟨he,hw⟩=>?_
   subst hw;exact IC hg hs ht hx hi hnc hm e he
theorem IG (x:Int) (w:World):Calls Tryz.prog 176 #[.int .i64 x] w fun e w'=>e=.returned (.bool false)/\w=w':=by
 go_enter Tryz.func176,Tryz.ntmps176
 go_wp2
 go_ret;exact ⟨by simp,rfl⟩
theorem pA (x:Int) (w:World):Calls Tryz.prog 153 #[.int .i64 x] w fun e w'=>e=.returned (.bool false)/\w=w':=by
 go_enter Tryz.func153,Tryz.ntmps153
 go_wp2
 go_ret;exact ⟨by simp,rfl⟩
theorem IV (x y:Int) (b:Bool) (h:lsL x y=b) (w:World):Calls Tryz.prog 152 #[.int .i64 x,.int .i64 y] w fun e w'=>e=.returned (.bool b)/\w=w':=by
 subst h;go_enter Tryz.func152,Tryz.ntmps152
 go_wp2_with (go_at_call 176;refine (IG _ _).mono ?_;rintro e w' ⟨rfl,rfl⟩)
 go_ret;exact ⟨rfl,rfl⟩
theorem Kh {ks:List Int} (hr:cF lsL ks) {x y:Int} {p:Nat} (hp:pos lsL ks x=p) (hy:ks[p]? = some y) (b:Bool) (hb:decide (y=x)=b):b=has ks x:=by
 rw [wC fZ hr hp hy,hb]
/-- At a row that rises, of at least one element. -/
theorem wV (g n cap:Nat) (ks:List Int) (x:Int) (w:World) (hn:n<=1000000) (hl:ks.length=n) (hr:cF lsL ks) (hc:∀ j v,(ks.map (Value.int .i64))[j]? = some v->w.cell? ⟨g,j,none⟩=some v) :
 Calls Tryz.prog 110 #[.slice (some ⟨g,0,none⟩) n cap,.int .i64 x] w fun e w' =>
  e=.returned (.tuple #[.int .i64 (pos lsL ks x:Nat),.bool (has ks x)])/\∃ q,w'=w.drewN q:=by
 have hS:=sO fZ hr x;rw [hl] at hS;obtain ⟨I,hI⟩:∃ I,pos lsL ks x=I:=⟨_,rfl⟩;obtain ⟨B,hB⟩:∃ B,B=has ks x:=⟨_,rfl⟩;have hIn:I<=n:=by rw [<- hI, <- hl];exact sY _ _
 rw [hI] at hS;rw [hI, <- hB];have HE:=aA (p:=∀ y b,ks[I]? = some y->decide (y=x)=b->b=B) (fun y b hy hb=>by rw [hB];exact Kh hr hI hy b hb);have HN:=aA (p:=n<=I->false=B) (fun h=>by rw [hB];exact (tT fZ hr hI (by omega)).symm);have HC:=aA (p:=∀ t,t<n->w.cell? ⟨g,t,none⟩=some (.int .i64 (ks.getD t x))) (fun t ht=>hc t _ (by rw [List.getElem?_map,List.getD_eq_getElem?_getD,List.getElem?_eq_getElem (by omega)];rfl));have HG:=aA (p:=∀ t,t<n->ks[t]? = some (ks.getD t x)) (fun t ht=>by rw [List.getD_eq_getElem?_getD,List.getElem?_eq_getElem (by omega)];rfl);have HS:=aA hS;clear hS hI hB hc hr hl;go_enter Tryz.func110,Tryz.ntmps110
 go_wp2
 go_loopg [7,8] n (fun g s7 s8 wr=>∃ lo hi q:Nat,s7=.int .i64 lo/\s8=.int .i64 hi/\lo<=hi/\hi<=n/\hi-lo<=g/\wr=w.drewN q/\Hid (Lib.bsGo (fun t=>lsL (ks.getD t x) x) g lo hi=I))
 case atStart=>exact ⟨0,n,0,rfl,rfl,Nat.zero_le _,Nat.le_refl _,by omega,rfl,HS⟩
 case round =>
  obtain ⟨lo,hi,q,rfl,rfl,hlh,hin,hg,rfl,hb⟩:=hrel;by_cases hlt:lo<hi
  · have cm:=HC.out ((lo+hi) / 2) (by omega)
    obtain ⟨g',rfl⟩:∃ g',gk=g'+1:=⟨gk-1,by omega⟩;have hb1:=hb.out;clear hb;simp only [Lib.bsGo,hlt,if_true] at hb1;obtain ⟨y,hy⟩:∃ y,ks.getD ((lo+hi) / 2) x=y:=⟨_,rfl⟩;rw [hy] at cm;simp only [hy] at hb1;clear hy;cases hyx:lsL y x <;> simp only [hyx,if_true,Bool.false_eq_true,if_false] at hb1
    · have HB:=aA hb1
      have HY:=aA hyx;clear hb1 hyx;go_wp2_with (first | (go_at_call 152;refine (IV _ _ _ HY.out _).mono ?_;rintro e w' ⟨rfl,rfl⟩) | (go_at_call 153;refine (pA _ _).mono ?_;rintro e w' ⟨rfl,rfl⟩))
      go_roundg ((lo+hi) / 2-lo)
      case measure=>omega
      case rel=>exact ⟨lo,(lo+hi) / 2,_,rfl,by rw [show ((lo:Int)+(hi:Int)) / 2=(((lo+hi) / 2:Nat):Int) by omega],by omega,by omega,Nat.le_refl _,rfl,aA (by rw [<- HB.out];exact Lib.bsGo_fuel _ _ _ _ _ (Nat.le_refl _) (by omega))⟩
    · have HB:=aA hb1
      have HY:=aA hyx;clear hb1 hyx;go_wp2_with (first | (go_at_call 152;refine (IV _ _ _ HY.out _).mono ?_;rintro e w' ⟨rfl,rfl⟩) | (go_at_call 153;refine (pA _ _).mono ?_;rintro e w' ⟨rfl,rfl⟩))
      go_roundg (hi-((lo+hi) / 2+1))
      case measure=>omega
      case rel=>exact ⟨(lo+hi) / 2+1,hi,_,by rw [show ((lo:Int)+(hi:Int)) / 2+1=(((lo+hi) / 2+1:Nat):Int) by omega],rfl,by omega,hin,Nat.le_refl _,rfl,aA (by rw [<- HB.out];exact Lib.bsGo_fuel _ _ _ _ _ (Nat.le_refl _) (by omega))⟩
  · obtain rfl:hi=lo:=by omega
    obtain rfl:hi=I:=by
     rw [<- hb.out];cases gk <;> simp [Lib.bsGo]
    clear hb HS;by_cases hn:hi<n
    · have cl:=HC.out hi hn
      have hy:=HG.out hi hn;obtain ⟨y,hyd⟩:∃ y,ks.getD hi x=y:=⟨_,rfl⟩;rw [hyd] at cl hy;clear hyd;have HY:=aA hy;clear hy;by_cases hyx:y=x
      · subst hyx
        have HB:=HE.out y true HY.out (by simp);subst HB;clear HE HN HC HG;go_wp2_with (first | (go_at_call 153;refine (pA _ _).mono ?_;rintro e w' ⟨rfl,rfl⟩))
        go_ret2;exact ⟨rfl,_,rfl⟩
      · have hne:(y == x)=false:=by simpa using hyx
        have HB:=HE.out y false HY.out (by simpa using hyx);subst HB;have HX:=aA hyx;clear HE HN HC HG hyx;go_wp2_with (first | (go_at_call 153;refine (pA _ _).mono ?_;rintro e w' ⟨rfl,rfl⟩))
        all_goals (go_ret2;exact ⟨rfl,_,rfl⟩)
    · have HB:=HN.out (by omega)
      subst HB;clear HE HN HC HG;go_wp2_with (first | (go_at_call 153;refine (pA _ _).mono ?_;rintro e w' ⟨rfl,rfl⟩))
      go_ret2;exact ⟨rfl,_,rfl⟩
theorem wW (x:Int) (w:World) :
 Calls Tryz.prog 110 #[.slice none 0 0,.int .i64 x] w fun e w'=>e=.returned (.tuple #[.int .i64 (0:Nat),.bool false])/\w'=w:=by
 go_enter Tryz.func110,Tryz.ntmps110
 go_wp2
 go_loop [7,8] (fun s7 s8=>s7=.int .i64 0/\s8=.int .i64 0) (fun _ _=>0)
 case atStart=>exact ⟨rfl,rfl⟩
 case round =>
  obtain ⟨rfl,rfl⟩:=hrel;go_wp2
  go_ret2;exact ⟨rfl,rfl⟩
theorem Hg (v:Value) (n:Nat) (ks:List Int) (x:Int) (w:World) (hn:n<=1000000) (ho:w.ownsRow 0 2 1 v n (ks.map (Value.int .i64))) (hr:cF lsL ks) :
 Calls Tryz.prog 110 #[v,.int .i64 x] w fun e w' =>
  e=.returned (.tuple #[.int .i64 (pos lsL ks x:Nat),.bool (has ks x)])/\∃ q,w'=w.drewN q:=by
 rcases lL ho with ⟨rfl,rfl,hx⟩ | ⟨g,cap,cur,rfl,hob,hg,hnc,hm,hs,ht,hx,_⟩
 · obtain rfl:ks=[]:=List.map_eq_nil_iff.1 hx
   refine (wW x w).mono fun e w' ⟨he,hw⟩=>⟨he,0,hw⟩
 · exact wV g n cap ks x w hn (by simpa using hx) hr (fun j v hj=>fA hg ht hj)
def fF (most:Nat) (ks:List Int) (n:Int):List Int:=if has ks n=true then ks else (f7 lsL ks n).drop ((f7 lsL ks n).length-most)
theorem zL {ks:List Int} {n:Int} (h:¬ has ks n=true):f7 lsL ks n=ks.take (pos lsL ks n)++n::ks.drop (pos lsL ks n):=by unfold f7;rw [if_neg h]
theorem Cf (ks:List Int) (x:Int):pos lsL ks x<=ks.length:=by
 unfold pos;exact (List.takeWhile_sublist _).length_le
theorem pH {ks:List Int} {n:Int} (h:¬ has ks n=true):(f7 lsL ks n).length=ks.length+1:=by
 rw [zL h,List.length_append,List.length_cons,List.length_take,List.length_drop];have:=Cf ks n;omega
theorem zG {l:List Int} (h:cF lsL l) (k:Nat):cF lsL (l.drop k):=List.Pairwise.sublist (List.drop_sublist k l) h
theorem xM {most:Nat} {ks:List Int} (h:cF lsL ks) (n:Int):cF lsL (fF most ks n):=by
 unfold fF;split
 · exact h
 · exact zG (fT fZ h n) _
theorem DX {most:Nat} {ks:List Int} (h:ks.length<=most) (n:Int):(fF most ks n).length<=most:=by
 unfold fF;split
 · exact h
 · rw [List.length_drop];omega
def iJ (k:Nat) (l:List Int):List Int:=l.drop (l.length-k)
theorem vV (k:Nat) (l:List Int):(iJ k l).length=min k l.length:=by unfold iJ;rw [List.length_drop];omega
theorem j3 {k:Nat} {l:List Int} (h:l.length<=k):iJ k l=l:=by unfold iJ;rw [show l.length-k=0 by omega,List.drop_zero]
theorem jK {a b:List Int}:cF lsL (a++b) ↔ cF lsL a/\cF lsL b/\∀ x∈a,∀ y∈b,x<y:=by
 unfold cF;rw [List.pairwise_append];constructor
 · rintro ⟨h1,h2,h3⟩
   exact ⟨h1,h2,fun x hx y hy=>by have:=h3 x hx y hy;simpa [lsL] using this⟩
 · rintro ⟨h1,h2,h3⟩
   exact ⟨h1,h2,fun x hx y hy=>by have:=h3 x hx y hy;simpa [lsL] using this⟩
theorem qQ {k:Nat} {a c:List Int} (h:k<=c.length):iJ k (a++c)=iJ k c:=by
 unfold iJ;rw [List.length_append,show a.length+c.length-k=a.length+(c.length-k) by omega,List.drop_append,List.drop_of_length_le (by omega),List.nil_append];congr 1
 omega
theorem zN (b:List Int) (n:Int):b.length<=(f7 lsL b n).length:=by
 by_cases h:has b n=true
 · unfold f7;rw [if_pos h];exact Nat.le_refl _
 · rw [pH h];omega
theorem Hl {a b:List Int} (h:cF lsL (a++b)) {n y:Int} (hy:y∈b) (hn:y<=n):f7 lsL (a++b) n=a++f7 lsL b n:=by
 obtain ⟨h1,h2,h3⟩:=jK.1 h;refine oH fZ (fT fZ h n) (jK.2 ⟨h1,fT fZ h2 n,fun x hx z hz=>?_⟩) (fun x=>?_)
 · rcases (kS b n z).1 hz with hz | rfl
   · exact h3 x hx z hz
   · have:=h3 x hx y hy;omega
 · rw [kS,List.mem_append,List.mem_append,kS]
   constructor
   · rintro ((h | h) | h)
     · exact .inl h
     · exact .inr (.inl h)
     · exact .inr (.inr h)
   · rintro (h | h | h)
     · exact .inl (.inl h)
     · exact .inl (.inr h)
     · exact .inr h
theorem zM {a b:List Int} (h:cF lsL (a++b)) {n:Int} (hn:∀ y∈b,n<y):f7 lsL (a++b) n=f7 lsL a n++b:=by
 obtain ⟨h1,h2,h3⟩:=jK.1 h;refine oH fZ (fT fZ h n) (jK.2 ⟨fT fZ h1 n,h2,fun x hx z hz=>?_⟩) (fun x=>?_)
 · rcases (kS a n x).1 hx with hx | rfl
   · exact h3 x hx z hz
   · exact hn z hz
 · rw [kS,List.mem_append,List.mem_append,kS]
   constructor
   · rintro ((h | h) | h)
     · exact .inl (.inl h)
     · exact .inr h
     · exact .inl (.inr h)
   · rintro ((h | h) | h)
     · exact .inl (.inl h)
     · exact .inr h
     · exact .inl (.inr h)
theorem FQ {l:List Int} (h:cF lsL l) (k:Nat) (n:Int):iJ k (f7 lsL (iJ k l) n)=iJ k (f7 lsL l n):=by
 by_cases hk:l.length<=k
 · rw [j3 hk]
 obtain ⟨a,b,hab,hb⟩:∃ a b,l=a++b/\b=iJ k l:=⟨l.take (l.length-k),_,(List.take_append_drop _ _).symm,rfl⟩;have hbl:b.length=k:=by rw [hb,vV];omega
 rw [<- hb,hab];rw [hab] at h;by_cases hA:∃ y∈b,y<=n
 · obtain ⟨y,hy,hn⟩:=hA
   rw [Hl h hy hn,qQ (by rw [<- hbl];exact zN b n)]
 · have hn:∀ y∈b,n<y:=fun y hy=>by
    by_cases hl:y<=n
    · exact absurd ⟨y,hy,hl⟩ hA
    · omega
   rw [zM h hn,qQ (by omega),j3 (by omega:b.length<=k)];have e:=zM (a:=[]) (b:=b) (by simpa using (jK.1 h).2.1) hn;rw [List.nil_append] at e;rw [e,qQ (by omega),j3 (by omega)]
theorem A5 {most:Nat} {ks:List Int} (h:ks.length<=most) (n:Int):fF most ks n=iJ most (f7 lsL ks n):=by
 unfold fF;by_cases hh:has ks n=true
 · rw [if_pos hh]
   unfold f7;rw [if_pos hh,j3 h]
 · rw [if_neg hh];rfl
theorem DW (most:Nat) (l:List Int):∀ (ks:List Int),cF lsL ks->l.foldl (fF most) (iJ most ks)=iJ most (l.foldl (f7 lsL) ks):=by
 induction l with
 | nil=>intro ks _;rfl
 | cons n r ih =>
   intro ks h;rw [List.foldl_cons,List.foldl_cons,A5 (by rw [vV];omega),FQ h,ih _ (fT fZ h n)]
theorem Es (v:Value) (n:Nat) (xs:List Value) (w:World) (hn:n<=1000000) (ho:w.ownsRow 0 2 1 v n xs) :
 Calls Tryz.prog 112 #[v,.int .i64 0,.int .i64 0] w fun e w'=>e=.returned v/\w=w':=by
 rcases lL ho with ⟨rfl,rfl,rfl⟩ | ⟨g,cap,cur,rfl,hob,hg,hnc,hm,hs,ht,hx,_⟩
 · go_enter Tryz.func112,Tryz.ntmps112
   go_wp2_with fail
   go_ret;exact ⟨rfl,rfl⟩
 · have a1:(0:Int)<=(n:Int):=by omega
   have a2:(n:Int)<=(cap:Int):=by omega
   clear ho hob hg hs ht hx;go_enter Tryz.func112,Tryz.ntmps112
   go_wp2_with fail
   go_ret;exact ⟨rfl,rfl⟩
theorem Ch {w:World} {B n:Nat} {e:TypeId} {size:Nat} {v:Value} {xs:List Value} (h:w.ownsRow 0 e size v n xs) (hb:∀ b,v.ownBlock=some b->B<=b):w.ownsRow B e size v n xs:=by
 refine ⟨h.1,?_⟩;rcases h.2 with h2 | ⟨g,cap,cur,h1,h2,h3⟩
 · exact .inl h2
 · exact .inr ⟨g,cap,cur,h1,hb g (by rw [h1];rfl),h3⟩
theorem Ab (l:List Int):∀ u∈l.map (Value.int .i64),u.oneCell'=true:=fun u hu=>by
 obtain ⟨n, -,rfl⟩:=List.mem_map.1 hu;rfl
theorem DY (B:Nat) (v:Value) (ks:List Int) (n:Int) (most:Nat) (w:World) (hm:1<=most) (hm16:most<=1000) (hk:ks.length<=most) (hr:cF lsL ks) (hB:B<=w.heap.size) (ho:w.ownsRow B 2 1 v ks.length (ks.map (Value.int .i64))) :
 Calls Tryz.prog 65 #[v,.int .i64 n,.int .i64 (most:Nat)] w fun e w'=>∃ v',e=.returned v'/\w'.ownsRow B 2 1 v' (fF most ks n).length ((fF most ks n).map (Value.int .i64))/\aL (fun b=>v.ownBlock=some b) w w':=by
 have o0:=fU ho (Nat.zero_le B);have SR:=aA (Hg v ks.length ks n w (by omega) o0 hr);have HO:=aA ho;have HR:=aA hr;obtain ⟨av,cv,hv⟩:=cY ho;subst hv;clear o0 ho hr;cases hh:has ks n with
 | true =>
   rw [hh] at SR;have E:=aA (show fF most ks n=ks by unfold fF;rw [if_pos hh]);clear hh;go_enter Tryz.func65,Tryz.ntmps65
   go_wp2_with fail
   refine SR.out.mono ?_;rintro e w1 ⟨rfl,q,rfl⟩;go_wp2_with fail
   go_ret;refine ⟨_,rfl,?_,(aL.refl _ w).drewN q⟩;rw [E.out];exact dY (row:=none) HO.out ((aL.refl _ w).drewN q) (fun b hb=>by simp)
 | false =>
   rw [hh] at SR;have hh':¬ has ks n=true:=by rw [hh];decide
   have E:=aA (show fF most ks n=(f7 lsL ks n).drop ((f7 lsL ks n).length-most) by unfold fF;rw [if_neg hh']);have EL:=aA (pH hh');have EM:=aA (show (ks.map (Value.int .i64)).take (pos lsL ks n)++Value.int .i64 n::(ks.map (Value.int .i64)).drop (pos lsL ks n)=(f7 lsL ks n).map (Value.int .i64) by rw [zL hh',List.map_append,List.map_cons,List.map_take,List.map_drop]);have HP:=aA (Cf ks n);obtain ⟨pk,hpk⟩:∃ l,f7 lsL ks n=l:=⟨_,rfl⟩;rw [hpk] at E EL EM;obtain ⟨ps,hps⟩:∃ p,pos lsL ks n=p:=⟨_,rfl⟩;rw [hps] at SR HP EM;clear hh hh' hpk hps;go_enter Tryz.func65,Tryz.ntmps65
   go_wp2_with fail
   refine SR.out.mono ?_;rintro e w1 ⟨rfl,q,rfl⟩;have KD:=(aL.refl (fun b=>(Value.slice av ks.length cv).ownBlock=some b) w).drewN q;have o1:=dY (row:=none) HO.out ((aL.refl (fun i=>(none:Option Nat)=some i) w).drewN q) (fun b hb=>by simp);have hs1:(w.drewN q).heap.size=w.heap.size:=rfl;generalize w.drewN q=W at *;have NB:=heap_alloc_new W (.cells #[.int .i64 n] 2);have BA:=(Below.refl W.heap.size W).alloc (Nat.le_refl _) (.cells #[.int .i64 n] 2);have o2:=bO o1 BA;have IL:=aA (Kf (.slice av ks.length cv) ks.length ps W.heap.size (ks.map (Value.int .i64)) (.int .i64 n) (W.alloc (.cells #[.int .i64 n] 2)) (by omega) HP.out (fU o2 (Nat.zero_le _)) NB (fun e=>by have:=(o1.lt _ e).2;omega) (Ab ks) rfl);have KA:=aA (KD.trans (aE BA (fun b=>(Value.slice av ks.length cv).ownBlock=some b)) (fun i hi _=>hi));have HLB:=aA (fun b (hb:(Value.slice av ks.length cv).ownBlock=some b)=>(o1.lt b hb));rw [hs1] at IL;clear SR NB BA o1 o2 KD;go_wp2_with fail
   refine IL.out.mono ?_;rintro e w2 ⟨v1,rfl,o3,hg3,hb3⟩;rw [EM.out] at o3;have hlen:(pk.map (Value.int .i64)).length=ks.length+1:=by rw [List.length_map,EL.out]
   rw [hlen] at o3;obtain ⟨a1,c1,hv1⟩:=cY o3;subst hv1;have K3:=aA (KA.out.grown hg3 (fun k hk=>.inl hk))
   have HB1:=aA (show ∀ b,(Value.slice a1 (ks.length+1) c1).ownBlock=some b->B<=b by
    intro b hb;rcases hb3 with hb3 | ⟨b',hb',hle⟩
    · exact (HLB.out b (hb3.symm.trans hb)).1
    · rw [hb'] at hb
      cases hb;rw [World.size_alloc] at hle;omega)
   have HB2:=aA (show ∀ b,(Value.slice a1 (ks.length+1) c1).ownBlock=some b->(Value.slice av ks.length cv).ownBlock=some b\/w.heap.size<=b by
    intro b hb;rcases hb3 with hb3 | ⟨b',hb',hle⟩
    · exact .inl (hb3.symm.trans hb)
    · rw [hb'] at hb
      cases hb;rw [World.size_alloc] at hle;exact .inr (by omega))
   have O3:=aA o3;clear o3 hg3 hb3 IL KA;have m1:((ks.length+1:Nat):Int)=(ks.length:Int)+1:=rfl;by_cases hle:ks.length+1<=most
   · have CD:=aA (Es (.slice a1 (ks.length+1) c1) (ks.length+1) _ w2 (by omega) O3.out)
     have a2:max (0:Int) ((ks.length:Int)+1-(most:Int))=0:=by omega
     have EE:=aA (show fF most ks n=pk by rw [E.out,EL.out,show ks.length+1-most=0 by omega,List.drop_zero]);go_wp2_with fail
     refine CD.out.mono ?_;rintro e w3 ⟨rfl,rfl⟩;go_wp2_with fail
     go_ret;refine ⟨_,rfl,?_,K3.out⟩;rw [EE.out,EL.out];exact Ch O3.out HB1.out
   · have CD:=Ki (.slice a1 (ks.length+1) c1) (ks.length+1) 0 (pk.map (Value.int .i64)) w2 (by omega) (by omega) O3.out (Ab pk)
     have CD2:=aA (show Calls Tryz.prog 112 #[.slice a1 (ks.length+1) c1,.int .i64 0,.int .i64 1] w2 fun e w'=>yG w2 w' 2 (.slice a1 (ks.length+1) c1) ((pk.map (Value.int .i64)).eraseIdx 0) e from CD);have a2:max (0:Int) ((ks.length:Int)+1-(most:Int))=1:=by omega
     have EE:=aA (show fF most ks n=pk.drop 1 by rw [E.out,EL.out,show ks.length+1-most=1 by omega]);clear CD;go_wp2_with fail
     refine CD2.out.mono ?_;rintro e w3 ⟨v2,rfl,o4,hg4,hb4⟩
     have e1:(pk.map (Value.int .i64)).eraseIdx 0=(pk.drop 1).map (Value.int .i64):=by
      cases pk with
      | nil=>rfl
      | cons x r=>rfl
     rw [e1] at o4;have hlen2:((pk.drop 1).map (Value.int .i64)).length=(pk.drop 1).length:=by simp
     rw [hlen2] at o4;have O4:=aA o4;have K4:=aA (K3.out.grown hg4 (fun k hk=>HB2.out k hk));have HB4:=aA (fun b (hb:v2.ownBlock=some b)=>HB1.out b (hb4.symm.trans hb));clear o4 hg4 hb4;go_wp2_with fail
     go_ret;refine ⟨_,rfl,?_,K4.out⟩;rw [EE.out];exact Ch O4.out HB4.out
set_option maxHeartbeats 2000000
theorem Di (n u v:Int) (w:World) (h0:0<=n) (h1:n<=1000000):Calls Tryz.prog 60 #[.int .i64 n,.agg #[.int .i64 u,.int .i64 v]] w fun e w'=>e=.returned (.int .i64 (n+1))/\Below w.heap.size w w':=by
 go_enter Tryz.func60,Tryz.ntmps60
 go_wp2
 go_ret;exact ⟨rfl,(Below.refl _ w).alloc (Nat.le_refl _) _⟩
theorem Dh (n u v:Int) (w:World) (h0:bM n) (h1:bM u):Calls Tryz.prog 61 #[.int .i64 n,.agg #[.int .i64 u,.int .i64 v]] w fun e w'=>e=.returned (.int .i64 (dE (n+u)))/\Below w.heap.size w w':=by
 have VA:=aA (fun w=>yL n u w h0 h1);have B1:=aA ((Below.refl w.heap.size w).alloc (Nat.le_refl _) (jG u v));have N1:=heap_alloc_new w (jG u v);generalize hW:w.alloc (jG u v)=W at *;have HW:=aA hW;obtain ⟨⟨m0,m1⟩, -⟩:=two N1;clear hW N1 h0 h1;go_enter Tryz.func61,Tryz.ntmps61
 go_upto_region 1 with fail
 rw [show w.alloc (.cells #[.int .i64 u,.int .i64 v] 131)=W from HW.out];go_wp2_with fail
 refine (VA.out _).mono ?_;rintro e w1 ⟨rfl,rfl⟩;go_wp2_with fail
 go_ret;exact ⟨rfl,B1.out⟩
theorem Dg (B:Nat) (x:AG) (p:PA) (b:Nat) (vv:Value) (ks:List Int) (u v:Int) (most:Nat) (w:World) (hK:x.k=(most:Int)) (hm:1<=most) (hm16:most<=1000) (hk:ks.length<=most) (hr:cF lsL ks) (hB:B<=w.heap.size) (ho:w.ownsRow B 2 1 vv ks.length (ks.map (Value.int .i64)))
 (ha:w.heap[b]? = some (agP x p)) :
 Calls Tryz.prog 64 #[vv,.agg #[.int .i64 u,.int .i64 v],.pointer (some ⟨b,0,none⟩)] w fun e w'=>∃ v',e=.returned v'/\w'.ownsRow B 2 1 v' (fF most ks u).length ((fF most ks u).map (Value.int .i64))/\aL (fun b=>vv.ownBlock=some b) w w':=by
 have B1:=(Below.refl w.heap.size w).alloc (Nat.le_refl _) (jG u v);have N1:=heap_alloc_new w (jG u v);have hz:(w.alloc (jG u v)).heap.size=w.heap.size+1:=World.size_alloc _ _;have o1:=ho.alloc (jG u v);have a1:=(B1.block b (aC ha)).trans ha;have K1:aL (fun b=>vv.ownBlock=some b) w (w.alloc (jG u v)):=(aL.refl _ w).alloc _;generalize hW:w.alloc (jG u v)=W at *;have KA:=aA (DY B vv ks u most W hm hm16 hk hr (by omega) o1);have HW:=aA hW;have HK:=aA K1;obtain ⟨⟨n0,n1⟩, -⟩:=two N1;obtain ⟨m0,m1,m2,m3,m4,m5,m6,m7,m8,m9,m10⟩:=aD a1;rw [hK] at m1;obtain ⟨av,cv,rfl⟩:=cY ho;clear hW N1 o1 a1 K1 B1 ho hr hz ha;go_enter Tryz.func64,Tryz.ntmps64
 go_upto_region 1 with fail
 rw [show w.alloc (.cells #[.int .i64 u,.int .i64 v] 131)=W from HW.out];go_wp2_with fail
 refine KA.out.mono ?_;rintro e w1 ⟨v',rfl,h1,h2⟩;go_wp2_with fail
 go_ret;exact ⟨v',rfl,h1,HK.out.trans h2 (fun i h _=>h)⟩
abbrev vlA (k n:Int) (a:Option Addr) (l c:Nat):Obj:=.cells #[.int .i64 k,.int .i64 n,.string ⟨#[]⟩,.slice a l c] 53
theorem rH (n:Int) (w:World):Calls Tryz.prog 58 #[.int .i64 n] w fun e w'=>e=.returned (vlV 1 n none 0 0)/\Below w.heap.size w w':=by
 go_enter Tryz.func58,Tryz.ntmps58
 go_wp2_with fail
 obtain ⟨⟨y0,y1,y2,y3⟩, -⟩:=aO (heap_alloc_new w (vlA 1 n none 0 0));exact bodyPost_ret (v:=vlV 1 n none 0 0) (by simp [results,Tryz.results58,go_sem,y0,y1,y2,y3]) rfl ⟨rfl,(Below.refl _ _).alloc (Nat.le_refl _) _⟩
end
section
open Go.RowKit Go.Shelf
attribute [local go_sem] Oper.semAt_some
theorem qZ {B:Nat} {vs:Array Value} {t:TypeId} {fz:Nat×Nat} {W W':World} {row:Option Nat} (h:W.heap[B]? = some (.cells vs t fz)) (hg:W.grownBy W' row) (hr:∀ r,row=some r->∃ o:Obj,W.heap[r]? = some o/\o.isCells=false):W'.heap[B]? = some (.cells vs t fz) :=
 (hg.block B (aC h) (fun e=>by obtain ⟨o,ho,hc⟩:=hr B e.symm;rw [h] at ho;cases ho;cases hc)).trans h
theorem rQ {W W':World} (h:Below W.heap.size W W') (D:Nat):KeepsFrom D W W' :=
 (KeepsOthers.of_grownBy (row:=none) ⟨h.os,h.tape,h.output,h.size,fun k hk _=>h.block k hk⟩ (fun j o e=>by cases e)).from D
abbrev JG (bl ba bp:Nat) (L:List Q64) (w0:World):Prop:=SeqStopsK Fence.wide 3 Tryz.prog 107 (tkF bl ba bp) tkE (Below w0.heap.size) (fun ys=>ys=L) (fun pre=>pre <+: L) L.length w0
theorem uH {n₀ : Nat} {w:World} (hn:n₀ <= w.heap.size) (W:World) (l:Nat) (o o':Obj) (hl:w.heap.size<=l) (h:W.heap[l]? = some o):Below n₀ W (W.putObj l o') :=
 (Below.refl n₀ W).grown (grownBy_putObj' W l o') (by have:=(Array.getElem?_eq_some_iff.1 h).1;omega) (fun k e=>by cases e;omega)
theorem Ge (bl ba bp:Nat) (L:List Q64) (w0 w:World) (hL:L.length<=1000) (hseq:JG bl ba bp L w0) (hb0:Below w0.heap.size w0 w) (F:List Q64->Int) (hF0:F []=0)
 (hst:∀ (pre:List Q64) (q:Q64) (W:World),pre.length<L.length->Calls Tryz.prog 60 #[.int .i64 (F pre),AA q.1] W fun e W'=>e=.returned (.int .i64 (F (pre++[q])))/\Below W.heap.size W W') :
 CallsIn Fence.wide 4 Tryz.prog 59 #[.func (.func 107) #[] (tkF bl ba bp),.int .i64 0,.func (.func 60) #[] #[]] w fun e w'=>e=.returned (.int .i64 (F L))/\Below w.heap.size w w':=by
 refine callsIn_of_wp_marks Tryz.func59 rfl trivial ?_ rfl;simp only [Tryz.ntmps59,List.size_toArray,List.length_cons,List.length_nil,Nat.reduceAdd,Nat.reduceSub,Array.replicate_succ,Array.replicate_zero,List.push_toArray,List.append_toArray,List.nil_append,List.cons_append];gi_wp2
 obtain ⟨B,hB0⟩:∃ B,w.heap.size=B:=⟨_,rfl⟩;have bF:=(Boxed.new w 132 (.func (.func 60) #[] #[])).alloc (.cells #[.int .i64 0] 2);have bS:=Boxed.new (w.alloc (.cells #[.func (.func 60) #[] #[]] 132)) 2 (.int .i64 0);have hBw:Below B w ((w.alloc (.cells #[.func (.func 60) #[] #[]] 132)).alloc (.cells #[.int .i64 0] 2)):=((Below.refl _ w).alloc (by omega) _).alloc (by simp;omega) _;have hsz:((w.alloc (.cells #[.func (.func 60) #[] #[]] 132)).alloc (.cells #[.int .i64 0] 2)).heap.size=B+2:=by simp;omega
 simp only [World.size_alloc,hB0] at bF bS |-
 obtain ⟨W0,hW0⟩:∃ W0,(w.alloc (.cells #[.func (.func 60) #[] #[]] 132)).alloc (.cells #[.int .i64 0] 2)=W0:=⟨_,rfl⟩;rw [hW0] at bF bS hBw hsz |-
 have hz0:w0.heap.size<=B:=by have:=hb0.size;omega
 clear hW0
 refine wpIn_rangeFunc_ownH rfl (by decide) (gf:=107) (lb:=tkF bl ba bp) rfl trivial (enters_of Tryz.func107 (by kernel_rfl) rfl)
  hseq belowK_t (belowK_b (by omega)) (hb0.trans (hBw.mono hz0)) (fun _=>rfl)
  (fun pre W=>(Boxed W (B+1) 2 (.int .i64 (F pre))/\Boxed W B 132 (.func (.func 60) #[] #[]))/\Below B w W)
  (fun _ _ _=>False)
  (OwnFrom.and (OwnFrom.and (Own.from (boxed_own _ _ _) _) (Own.from (boxed_own _ _ _) _)) (ownFrom_below (by omega) (by omega)))
  (fun _ _ _ _ _ hs _ _=>hs)
  ⟨⟨by rw [hF0];exact bS,bF⟩,hBw⟩
  (fun x a' W=>∃ Bx,B+1<Bx/\W.heap[Bx]? = some (jG x.1.1 x.1.2)/\a'={ tmps:=#[.func (.func 107) #[] (tkF bl ba bp),.int .i64 0,.func (.func 60) #[] #[],undef,undef,.pointer (some ⟨B,0,none⟩),.int .i64 0,.pointer (some ⟨B+1,0,none⟩),.pointer (some ⟨Bx,0,none⟩),.int .i64 0,.func (.func 107) #[] (tkF bl ba bp),AA x.1,undef,undef,undef,undef,undef],defers:=[] })
  (fun x a' _ X Y row hs hg hr=>by obtain ⟨Bx,h1,h2,h3⟩:=hs;exact ⟨Bx,h1,qZ h2 hg (fun r e=>(hr r e).2),h3⟩)
  ?assign ?body ?done ?stop
 case assign =>
  rintro l pre x W K ⟨⟨bS1,bF1⟩,hB1⟩ hK;have h2:=bS1.lt;gi_wp2
  exact hK _ _ ((KeepsOthers.alloc _ _).from _) ((Below.refl _ W).alloc (by omega) _) ⟨⟨bS1.alloc _,bF1.alloc _⟩,hB1.alloc (by omega) _⟩ ⟨W.heap.size,bS1.lt,heap_alloc_new W _,rfl⟩
 case body =>
  rintro l pre x a' W hl ⟨r,hr⟩ ⟨⟨bS1,bF1⟩,hB1⟩ ⟨Bx,hBx,bX,rfl⟩ hlt;obtain ⟨⟨x0,x1⟩, -⟩:=two bX;have c1:=bS1.cell;have c2:=bF1.cell;have ST:=aA (hst pre x W hlt);have hz:=bS1.lt;gi_wp2_with (refine ⟨trivial,?_⟩;gi_at_call 60;refine (CallsIn.inRound l (callsIn_wide.2 ST.out)).mono ?_;rintro e W2 ⟨rfl,hb2⟩;have bS2:Boxed W2 (B+1) 2 (.int .i64 (F pre)):=(hb2.block _ bS1.lt).trans bS1;have bF2:Boxed W2 B 132 (.func (.func 60) #[] #[]):=(hb2.block _ bF1.lt).trans bF1;have d1:=bS2.cell;have d2:=bF2.cell;have f1:=bS2.frozen)
  exact ⟨(rQ hb2 _).trans ((KeepsOthers.setCell _ _ _).from _),(hb2.mono (by omega)).setCell (p:=⟨B+1,0,none⟩) (by simp;omega) _,⟨bS2.set _,bF2.other (by omega) _⟩,(hB1.trans (hb2.mono (by omega))).setCell (p:=⟨B+1,0,none⟩) (by simp) _⟩
 case done =>
  rintro D ys W hD rfl ⟨⟨bS1,bF1⟩,hB1⟩ hK;have c1:=bS1.cell;gi_wp2
  refine ⟨by simp,.inl ⟨_,_,rfl,run_takeDeferred hK,?_⟩⟩;exact ⟨_,results_tmp rfl _ _ _,rfl,by rw [hB0];exact hB1.trans (uH (w:=W0) (by omega) W D _ _ hD hK)⟩
 case stop =>
  rintro D c pre W _ _ h _;exact h.elim
theorem Gd (bl ba bp:Nat) (L:List Q64) (w0 w:World) (hL:L.length<=1000) (hseq:JG bl ba bp L w0) (hb0:Below w0.heap.size w0 w) (F:List Q64->Int) (hF0:F []=0)
 (hst:∀ (pre:List Q64) (q:Q64) (W:World),pre.length<L.length->Calls Tryz.prog 61 #[.int .i64 (F pre),AA q.1] W fun e W'=>e=.returned (.int .i64 (F (pre++[q])))/\Below W.heap.size W W') :
 CallsIn Fence.wide 4 Tryz.prog 59 #[.func (.func 107) #[] (tkF bl ba bp),.int .i64 0,.func (.func 61) #[] #[]] w fun e w'=>e=.returned (.int .i64 (F L))/\Below w.heap.size w w':=by
 refine callsIn_of_wp_marks Tryz.func59 rfl trivial ?_ rfl;simp only [Tryz.ntmps59,List.size_toArray,List.length_cons,List.length_nil,Nat.reduceAdd,Nat.reduceSub,Array.replicate_succ,Array.replicate_zero,List.push_toArray,List.append_toArray,List.nil_append,List.cons_append];gi_wp2
 obtain ⟨B,hB0⟩:∃ B,w.heap.size=B:=⟨_,rfl⟩;have bF:=(Boxed.new w 132 (.func (.func 61) #[] #[])).alloc (.cells #[.int .i64 0] 2);have bS:=Boxed.new (w.alloc (.cells #[.func (.func 61) #[] #[]] 132)) 2 (.int .i64 0);have hBw:Below B w ((w.alloc (.cells #[.func (.func 61) #[] #[]] 132)).alloc (.cells #[.int .i64 0] 2)):=((Below.refl _ w).alloc (by omega) _).alloc (by simp;omega) _;have hsz:((w.alloc (.cells #[.func (.func 61) #[] #[]] 132)).alloc (.cells #[.int .i64 0] 2)).heap.size=B+2:=by simp;omega
 simp only [World.size_alloc,hB0] at bF bS |-
 obtain ⟨W0,hW0⟩:∃ W0,(w.alloc (.cells #[.func (.func 61) #[] #[]] 132)).alloc (.cells #[.int .i64 0] 2)=W0:=⟨_,rfl⟩;rw [hW0] at bF bS hBw hsz |-
 have hz0:w0.heap.size<=B:=by have:=hb0.size;omega
 clear hW0
 refine wpIn_rangeFunc_ownH rfl (by decide) (gf:=107) (lb:=tkF bl ba bp) rfl trivial (enters_of Tryz.func107 (by kernel_rfl) rfl)
  hseq belowK_t (belowK_b (by omega)) (hb0.trans (hBw.mono hz0)) (fun _=>rfl)
  (fun pre W=>(Boxed W (B+1) 2 (.int .i64 (F pre))/\Boxed W B 132 (.func (.func 61) #[] #[]))/\Below B w W)
  (fun _ _ _=>False)
  (OwnFrom.and (OwnFrom.and (Own.from (boxed_own _ _ _) _) (Own.from (boxed_own _ _ _) _)) (ownFrom_below (by omega) (by omega)))
  (fun _ _ _ _ _ hs _ _=>hs)
  ⟨⟨by rw [hF0];exact bS,bF⟩,hBw⟩
  (fun x a' W=>∃ Bx,B+1<Bx/\W.heap[Bx]? = some (jG x.1.1 x.1.2)/\a'={ tmps:=#[.func (.func 107) #[] (tkF bl ba bp),.int .i64 0,.func (.func 61) #[] #[],undef,undef,.pointer (some ⟨B,0,none⟩),.int .i64 0,.pointer (some ⟨B+1,0,none⟩),.pointer (some ⟨Bx,0,none⟩),.int .i64 0,.func (.func 107) #[] (tkF bl ba bp),AA x.1,undef,undef,undef,undef,undef],defers:=[] })
  (fun x a' _ X Y row hs hg hr=>by obtain ⟨Bx,h1,h2,h3⟩:=hs;exact ⟨Bx,h1,qZ h2 hg (fun r e=>(hr r e).2),h3⟩)
  ?assign ?body ?done ?stop
 case assign =>
  rintro l pre x W K ⟨⟨bS1,bF1⟩,hB1⟩ hK;have h2:=bS1.lt;gi_wp2
  exact hK _ _ ((KeepsOthers.alloc _ _).from _) ((Below.refl _ W).alloc (by omega) _) ⟨⟨bS1.alloc _,bF1.alloc _⟩,hB1.alloc (by omega) _⟩ ⟨W.heap.size,bS1.lt,heap_alloc_new W _,rfl⟩
 case body =>
  rintro l pre x a' W hl ⟨r,hr⟩ ⟨⟨bS1,bF1⟩,hB1⟩ ⟨Bx,hBx,bX,rfl⟩ hlt;obtain ⟨⟨x0,x1⟩, -⟩:=two bX;have c1:=bS1.cell;have c2:=bF1.cell;have ST:=aA (hst pre x W hlt);have hz:=bS1.lt;gi_wp2_with (refine ⟨trivial,?_⟩;gi_at_call 61;refine (CallsIn.inRound l (callsIn_wide.2 ST.out)).mono ?_;rintro e W2 ⟨rfl,hb2⟩;have bS2:Boxed W2 (B+1) 2 (.int .i64 (F pre)):=(hb2.block _ bS1.lt).trans bS1;have bF2:Boxed W2 B 132 (.func (.func 61) #[] #[]):=(hb2.block _ bF1.lt).trans bF1;have d1:=bS2.cell;have d2:=bF2.cell;have f1:=bS2.frozen)
  exact ⟨(rQ hb2 _).trans ((KeepsOthers.setCell _ _ _).from _),(hb2.mono (by omega)).setCell (p:=⟨B+1,0,none⟩) (by simp;omega) _,⟨bS2.set _,bF2.other (by omega) _⟩,(hB1.trans (hb2.mono (by omega))).setCell (p:=⟨B+1,0,none⟩) (by simp) _⟩
 case done =>
  rintro D ys W hD rfl ⟨⟨bS1,bF1⟩,hB1⟩ hK;have c1:=bS1.cell;gi_wp2
  refine ⟨by simp,.inl ⟨_,_,rfl,run_takeDeferred hK,?_⟩⟩;exact ⟨_,results_tmp rfl _ _ _,rfl,by rw [hB0];exact hB1.trans (uH (w:=W0) (by omega) W D _ _ hD hK)⟩
 case stop =>
  rintro D c pre W _ _ h _;exact h.elim
end
section
open Go.RowKit Go.Shelf
attribute [local go_sem] Oper.semAt_some
theorem zE {w:World} {B:Nat} {e:TypeId} {size:Nat} {v:Value} {n:Nat} {xs:List Value} (h:w.ownsRow B e size v n xs):∀ g,v.ownBlock=some g->B<=g:=by
 intro g hg;rcases h.2 with ⟨rfl,_⟩ | ⟨g',cap,cur,rfl,hb,_⟩
 · cases hg
 · simp only [Value.ownBlock,Option.some.injEq] at hg
   omega
theorem Dq {w w':World} {B:Nat} {e:TypeId} {size:Nat} {v:Value} {n:Nat} {xs:List Value} (h:w.ownsRow B e size v n xs) (hk:aL (fun b=>v.ownBlock=some b) w w') (D:Nat):KeepsFrom D w w' :=
 ⟨hk.size,fun k o _ h0 ho=>hk.heap h0 (fun hg=>by
  rcases h.2 with ⟨rfl,_⟩ | ⟨g',cap,cur,rfl,hb,hgb,_⟩
  · cases hg
  · simp only [Value.ownBlock,Option.some.injEq] at hg
    subst hg;rw [hgb] at h0;cases h0;cases ho)⟩
abbrev ivK (l:List Int):List Value:=l.map (Value.int .i64)
abbrev qD (most:Nat) (pre:List Q64):List Int:=pre.foldl (fun ks q=>fF most ks q.1.1) []
theorem C7 (most:Nat) (pre:List Q64) (q:Q64):qD most (pre++[q])=fF most (qD most pre) q.1.1:=by simp [qD]
theorem Ca (most:Nat):∀ (pre:List Q64) (ks:List Int),cF lsL ks->ks.length<=most->cF lsL (pre.foldl (fun ks q=>fF most ks q.1.1) ks)/\(pre.foldl (fun ks q=>fF most ks q.1.1) ks).length<=most
 | [],_,h,hl=>⟨h,hl⟩
 | _::pre,_,h,hl=>Ca most pre _ (xM h _) (DX hl _)
theorem Gb (bl ba bp ea:Nat) (x:AG) (p:PA) (most:Nat) (L:List Q64) (w0 w:World) (hK:x.k=(most:Int)) (hm:1<=most) (hm16:most<=1000) (hea:w.heap[ea]? = some (agP x p)) (hseq:JG bl ba bp L w0) (hb0:Below w0.heap.size w0 w) :
 CallsIn Fence.wide 4 Tryz.prog 63 #[.func (.func 107) #[] (tkF bl ba bp),.slice none 0 0,.func (.func 64) #[] #[.pointer (some ⟨ea,0,none⟩)]] w fun e w' =>
  ∃ v,e=.returned v/\w'.ownsRow w.heap.size 2 1 v (qD most L).length (ivK (qD most L))/\Below w.heap.size w w':=by
 refine callsIn_of_wp_marks Tryz.func63 rfl trivial ?_ rfl;simp only [Tryz.ntmps63,List.size_toArray,List.length_cons,List.length_nil,Nat.reduceAdd,Nat.reduceSub,Array.replicate_succ,Array.replicate_zero,List.push_toArray,List.append_toArray,List.nil_append,List.cons_append];gi_wp2
 obtain ⟨B,hB0⟩:∃ B,w.heap.size=B:=⟨_,rfl⟩;have bF:=(Boxed.new w 136 (.func (.func 64) #[] #[.pointer (some ⟨ea,0,none⟩)])).alloc (.cells #[.slice none 0 0] 51);have bS:=Boxed.new (w.alloc (.cells #[.func (.func 64) #[] #[.pointer (some ⟨ea,0,none⟩)]] 136)) 51 (.slice none 0 0);have hBw:Below B w ((w.alloc (.cells #[.func (.func 64) #[] #[.pointer (some ⟨ea,0,none⟩)]] 136)).alloc (.cells #[.slice none 0 0] 51)):=((Below.refl _ w).alloc (by omega) _).alloc (by simp;omega) _;have hsz:((w.alloc (.cells #[.func (.func 64) #[] #[.pointer (some ⟨ea,0,none⟩)]] 136)).alloc (.cells #[.slice none 0 0] 51)).heap.size=B+2:=by simp;omega
 simp only [World.size_alloc,hB0] at bF bS |-
 obtain ⟨W0,hW0⟩:∃ W0,(w.alloc (.cells #[.func (.func 64) #[] #[.pointer (some ⟨ea,0,none⟩)]] 136)).alloc (.cells #[.slice none 0 0] 51)=W0:=⟨_,rfl⟩;rw [hW0] at bF bS hBw hsz |-
 have hz0:w0.heap.size<=B:=by have:=hb0.size;omega
 have hel:ea<B:=by have:=aC hea;omega
 clear hW0
 refine wpIn_rangeFunc_ownH rfl (by decide) (gf:=107) (lb:=tkF bl ba bp) rfl trivial (enters_of Tryz.func107 (by kernel_rfl) rfl)
  hseq belowK_t (belowK_b (by omega)) (hb0.trans (hBw.mono hz0)) (fun _=>rfl)
  (fun pre W=>((∃ v,Boxed W (B+1) 51 v/\W.ownsRow (B+2) 2 1 v (qD most pre).length (ivK (qD most pre))/\True)/\Boxed W B 136 (.func (.func 64) #[] #[.pointer (some ⟨ea,0,none⟩)]))/\Below B w W)
  (fun _ _ _=>False)
  (OwnFrom.and (OwnFrom.and (Own.from (holdsRow_own (B+2) (B+1) _ _ 1 (fun pre=>(qD most pre).length) (fun pre=>ivK (qD most pre)) (fun _ _=>True)) _) (Own.from (boxed_own _ _ _) _)) (ownFrom_below (by omega) (by omega)))
  (fun _ _ _ _ _ hs _ _=>hs)
  ⟨⟨⟨_,bS,World.ownsRow_nil _ _ _ _,trivial⟩,bF⟩,hBw⟩
  (fun x a' W=>∃ Bx,B+1<Bx/\W.heap[Bx]? = some (jG x.1.1 x.1.2)/\a'={ tmps:=#[.func (.func 107) #[] (tkF bl ba bp),.slice none 0 0,.func (.func 64) #[] #[.pointer (some ⟨ea,0,none⟩)],undef,undef,.pointer (some ⟨B,0,none⟩),.slice none 0 0,.pointer (some ⟨B+1,0,none⟩),.pointer (some ⟨Bx,0,none⟩),.slice none 0 0,.func (.func 107) #[] (tkF bl ba bp),AA x.1,undef,undef,undef,undef,undef],defers:=[] })
  (fun x a' _ X Y row hs hg hr=>by obtain ⟨Bx,h1,h2,h3⟩:=hs;exact ⟨Bx,h1,qZ h2 hg (fun r e=>(hr r e).2),h3⟩)
  ?assign ?body ?done ?stop
 case assign =>
  rintro l pre x W K ⟨⟨⟨v,bS1,rS1, -⟩,bF1⟩,hB1⟩ hK;have h2:=bS1.lt;gi_wp2
  exact hK _ _ ((KeepsOthers.alloc _ _).from _) ((Below.refl _ W).alloc (by omega) _) ⟨⟨⟨v,bS1.alloc _,rS1.alloc _,trivial⟩,bF1.alloc _⟩,hB1.alloc (by omega) _⟩ ⟨W.heap.size,bS1.lt,heap_alloc_new W _,rfl⟩
 case body =>
  rintro l pre q a' W hl ⟨r,hr⟩ ⟨⟨⟨v,bS1,rS1, -⟩,bF1⟩,hB1⟩ ⟨Bx,hBx,bX,rfl⟩ hlt;obtain ⟨⟨x0,x1⟩, -⟩:=two bX;have c1:=bS1.cell;have c2:=bF1.cell;have hz:=bS1.lt;have hlx:=aC bX;obtain ⟨k1,k2⟩:=Ca most pre [] List.Pairwise.nil (Nat.zero_le _);have ST:=aA (Dg (B+2) x p ea v (qD most pre) q.1.1 q.1.2 most W hK hm hm16 k2 k1 (by omega) rS1 ((hB1.block ea (by omega)).trans hea));have hrb:=zE rS1;have hrk:=fun W2 hk=>Dq (w':=W2) rS1 hk
  obtain ⟨av,cv,rfl⟩:=cY rS1;gi_wp2_with (refine ⟨trivial,?_⟩;gi_at_call 64;refine (CallsIn.inRound l (callsIn_wide.2 ST.out)).mono ?_;rintro e W2 ⟨v',rfl,rS2,hk2⟩;obtain ⟨av2,cv2,rfl⟩:=cY rS2;have bS2:=(show W2.heap[B+1]? = _ from hk2.heap bS1 (fun h=>by have:=hrb _ h;omega));have bF2:Boxed W2 B 136 (.func (.func 64) #[] #[.pointer (some ⟨ea,0,none⟩)]):=hk2.heap bF1 (fun h=>by have:=hrb _ h;omega);have d1:=Boxed.cell bS2;have d2:=bF2.cell;have f1:=Boxed.frozen bS2)
  have hb2:Below (B+2) W W2:=hk2.below (fun i hi=>hrb i hi) (by omega);have rb2:=zE rS2;refine ⟨(hrk _ hk2 _).trans ((KeepsOthers.setCell _ _ _).from _),(hb2.mono (by omega)).setCell (p:=⟨B+1,0,none⟩) (by simp;omega) _,⟨⟨_,Boxed.set _ bS2,?_,trivial⟩,bF2.other (by omega) _⟩,(hB1.trans (hb2.mono (by omega))).setCell (p:=⟨B+1,0,none⟩) (by simp) _⟩;rw [C7];exact rS2.kept (grownBy_setCell' W2 (B+1) _) (.inr fun e=>by have:=rb2 _ e;omega)
 case done =>
  rintro D ys W hD rfl ⟨⟨⟨v,bS1,rS1, -⟩,bF1⟩,hB1⟩ hK;have c1:=bS1.cell;gi_wp2
  refine ⟨by simp,.inl ⟨_,_,rfl,run_takeDeferred hK,?_⟩⟩;exact ⟨_,results_tmp rfl _ _ _,_,rfl,fU (ownsRow_putObj rS1 _ hK rfl) (by omega),by rw [hB0];exact hB1.trans (uH (w:=W0) (by omega) W D _ _ hD hK)⟩
 case stop =>
  rintro D c pre W _ _ h _;exact h.elim
def OkD (d:CD):Prop:=aF d.a=0/\aF d.b=0/\cX d.a.f/\cX d.b.f
def zC (c d:CD):Bool:=(c.op.toList == d.op.toList) && bW c.a d.a && bW c.b d.b
theorem sQ (c d:CD) (r q:List CD):eI (c::r) (d::q)=(zC c d && eI r q):=rfl
theorem sP:∀ {x y:List CD},x.length ≠ y.length->eI x y=false
 | [],[],h=>absurd rfl h
 | [],_::_,_=>rfl
 | _::_,[],_=>rfl
 | a::x,b::y,h=>by rw [sQ,sP (by simpa using h),Bool.and_false]
theorem wZ (x y:CD) (G G':Nat->Prop) (a1:Option Addr) (c1:Nat) (a2:Option Addr) (c2:Nat) (a3:Option Addr) (c3:Nat) (a4:Option Addr) (c4:Nat) (w:World) (hx:OkD x) (hy:OkD y)
 (r1:aI G w a1 x.a.ks) (r2:aI G w a2 x.b.ks) (r3:aI G' w a3 y.a.ks) (r4:aI G' w a4 y.b.ks) :
 Calls Tryz.prog 56 #[cdV x a1 c1 a2 c2,cdV y a3 c3 a4 c4] w fun e w'=>e=.returned (.bool (zC x y))/\Below w.heap.size w w':=by
 have B0:=(Below.refl w.heap.size w).alloc (Nat.le_refl _) (cdX x a1 c1 a2 c2);have N0:=heap_alloc_new w (cdX x a1 c1 a2 c2);have hs0:(w.alloc (cdX x a1 c1 a2 c2)).heap.size=w.heap.size+1:=World.size_alloc _ _;generalize hW0:w.alloc (cdX x a1 c1 a2 c2)=W0 at *;have B1:=(Below.refl W0.heap.size W0).alloc (Nat.le_refl _) (cdX y a3 c3 a4 c4);have N1:=heap_alloc_new W0 (cdX y a3 c3 a4 c4);have NA:=(B1.block w.heap.size (by omega)).trans N0;have BB:=B0.trans (B1.mono (by omega));generalize hW:W0.alloc (cdX y a3 c3 a4 c4)=W at *;rw [hs0] at N1;have HW0:=aA hW0;have HW:=aA hW;have HB:=aA BB;have HA:=aA NA;have HN:=aA N1;obtain ⟨x1,x2,x3,x4⟩:=hx;obtain ⟨y1,y2,y3,y4⟩:=hy;have SA:=aA (fun V (hV:Below w.heap.size w V)=>nF x.a y.a G G' V a1 a3 c1 c3 ((aN _).1 x1).1 x3 ((aN _).1 x1).2 ((aN _).1 y1).1 y3 ((aN _).1 y1).2 (r1.kept hV) (r3.kept hV));have SB:=aA (fun V (hV:Below w.heap.size w V)=>nF x.b y.b G G' V a2 a4 c2 c4 ((aN _).1 x2).1 x4 ((aN _).1 x2).2 ((aN _).1 y2).1 y4 ((aN _).1 y2).2 (r2.kept hV) (r4.kept hV));obtain ⟨z0,hz0⟩:∃ z,(x.op.toList == y.op.toList)=z:=⟨_,rfl⟩;obtain ⟨z1,hz1⟩:∃ z,bW x.a y.a=z:=⟨_,rfl⟩;obtain ⟨z2,hz2⟩:∃ z,bW x.b y.b=z:=⟨_,rfl⟩;unfold zC;rw [hz0,hz1,hz2];rw [hz1] at SA;rw [hz2] at SB;obtain ⟨p0,p1,p2,p3,p4,p5,p6,p7,p8⟩:=kQ NA;obtain ⟨q0,q1,q2,q3,q4,q5,q6,q7,q8⟩:=kQ N1;obtain ⟨r,hr⟩:∃ r,(z0 && z1 && z2)=r:=⟨_,rfl⟩;rw [hr];have HR:=aA hr;clear hW0 hW B0 B1 N0 N1 NA BB r1 r2 r3 r4 x1 x2 x3 x4 y1 y2 y3 y4 hz1 hz2 hr hs0;go_enter Tryz.func56,Tryz.ntmps56
 go_upto_region 1 with fail
 rw [show w.alloc (.cells #[.string x.op,.string x.a.op,.string x.a.nm,.int .i64 x.a.n,.slice a1 x.a.ks.len c1,.string x.b.op,.string x.b.nm,.int .i64 x.b.n,.slice a2 x.b.ks.len c2] 98)=W0 from HW0.out,
  show W0.alloc (.cells #[.string y.op,.string y.a.op,.string y.a.nm,.int .i64 y.a.n,.slice a3 y.a.ks.len c3,.string y.b.op,.string y.b.nm,.int .i64 y.b.n,.slice a4 y.b.ks.len c4] 98)=W from HW.out]
 cases z0 with
 | false =>
   have TR:=aA (show false=r from HR.out);go_wp2_with fail
   go_ret;exact ⟨congrArg (fun z=>Ending.returned (.bool z)) TR.out,HB.out⟩
 | true =>
   go_wp2_with fail
   refine (SA.out W HB.out).mono ?_;rintro e w2 ⟨rfl,hb⟩;have HB2:=aA (HB.out.trans (hb.mono HB.out.size));have N2:=(hb.block _ (aC HN.out)).trans HN.out;have A2:=(hb.block _ (aC HA.out)).trans HA.out;clear hb SA p0 p1 p2 p3 p4 p5 p6 p7 p8 q0 q1 q2 q3 q4 q5 q6 q7 q8;obtain ⟨p0,p1,p2,p3,p4,p5,p6,p7,p8⟩:=kQ A2;obtain ⟨q0,q1,q2,q3,q4,q5,q6,q7,q8⟩:=kQ N2;clear N2 A2;cases z1 with
   | false =>
     have TR:=aA (show false=r from HR.out);go_wp2_with fail
     go_ret;exact ⟨congrArg (fun z=>Ending.returned (.bool z)) TR.out,HB2.out⟩
   | true =>
     have TR:=aA (show z2=r from HR.out);go_wp2_with fail
     refine (SB.out w2 HB2.out).mono ?_;rintro e w3 ⟨rfl,hb⟩;have HB3:=aA (HB2.out.trans (hb.mono HB2.out.size));clear hb;go_wp2_with fail
     go_ret;exact ⟨congrArg (fun z=>Ending.returned (.bool z)) TR.out,HB3.out⟩
theorem t7 (la lb:List CD) (G G':Nat->Prop) (aa:Option Addr) (ca:Nat) (ab:Option Addr) (cb:Nat) (hla:la.length<=1000) (w:World) (ha:∀ d∈la,OkD d) (hb:∀ d∈lb,OkD d) (h1:eN G w aa la) (h2:eN G' w ab lb) :
 Calls Tryz.prog 55 #[.slice aa la.length ca,.slice ab lb.length cb,.func (.func 56) #[] #[]] w fun e w'=>e=.returned (.bool (eI la lb))/\Below w.heap.size w w':=by
 have H1:=aA h1;have H2:=aA h2;have HA:=aA ha;have HBB:=aA hb;have B0:=aA (Below.refl w.heap.size w);clear h1 h2 ha hb;by_cases hl:la.length=lb.length
 · have a1:((la.length:Int) != (lb.length:Int))=false:=by rw [hl];simp
   obtain ⟨r,hr⟩:∃ r,eI la lb=r:=⟨_,rfl⟩;rw [hr];have HRr:=aA hr;have HL:=aA hl;have hlb:lb.length<=1000:=by omega
   clear hr hl;go_enter Tryz.func55,Tryz.ntmps55
   go_wp2_with fail
   go_loopw [7,8,9,17] (fun v7 v8 v9 i wr=>∃ (k:Nat) (y7 y8 y9:Value),v7=y7/\v8=y8/\v9=y9/\i=.int .i64 k/\k<=la.length/\Hid (eI (la.drop k) (lb.drop k)=r)/\Hid (Below w.heap.size w wr)) (fun _ _ _ i _=>la.length-(intOf i).toNat)
   case atStart=>exact ⟨0,_,_,_,rfl,rfl,rfl,rfl,Nat.zero_le _,HRr,B0⟩
   case round =>
    obtain ⟨k,y7,y8,y9,rfl,rfl,rfl,rfl,hk,hD,hB⟩:=hrel;by_cases hlt:k<la.length
    · have hlt2:k<lb.length:=by have:=HL.out;omega
      obtain ⟨da,hda⟩:∃ d,la[k]? = some d:=⟨_,List.getElem?_eq_getElem hlt⟩;obtain ⟨db,hdb⟩:∃ d,lb[k]? = some d:=⟨_,List.getElem?_eq_getElem hlt2⟩;have hna:¬ la=[]:=fun e=>by rw [e] at hlt;simp at hlt
      have hnb:¬ lb=[]:=fun e=>by rw [e] at hlt2;simp at hlt2
      obtain ⟨b1,o1,hw1, -,hl1,cc1⟩:=(H1.out.kept hB.out).resolve_left hna;obtain ⟨a1',c1,a2',c2,⟨p0,p1,p2,p3,p4,p5,p6,p7,p8⟩,r1,r2⟩:=cc1 k da hda;have hz:=hB.out.size;have BA1:=(Below.refl wr.heap.size wr).alloc (Nat.le_refl _) (cdX da a1' c1 a2' c2);have NB1:=heap_alloc_new wr (cdX da a1' c1 a2' c2);have hs1:(wr.alloc (cdX da a1' c1 a2' c2)).heap.size=wr.heap.size+1:=World.size_alloc _ _;have r1':=r1.kept BA1;have r2':=r2.kept BA1;generalize hV:wr.alloc (cdX da a1' c1 a2' c2)=V at BA1 NB1 hs1 r1' r2';have HBV:=hB.out.trans (BA1.mono (by omega));obtain ⟨b2,o2,hw2, -,hl2,cc2⟩:=(H2.out.kept HBV).resolve_left hnb;obtain ⟨a3',c3,a4',c4,⟨q0,q1,q2,q3,q4,q5,q6,q7,q8⟩,r3,r4⟩:=cc2 k db hdb;have BA2:=(Below.refl V.heap.size V).alloc (Nat.le_refl _) (cdX db a3' c3 a4' c4);have NB2:=heap_alloc_new V (cdX db a3' c3 a4' c4);have hs2:(V.alloc (cdX db a3' c3 a4' c4)).heap.size=wr.heap.size+2:=by rw [World.size_alloc];omega
      have CA:=wZ da db G G' a1' c1 a2' c2 a3' c3 a4' c4 (V.alloc (cdX db a3' c3 a4' c4)) (HA.out da (List.mem_of_getElem? hda)) (HBB.out db (List.mem_of_getElem? hdb)) (r1'.kept BA2) (r2'.kept BA2) (r3.kept BA2) (r4.kept BA2);generalize hU:V.alloc (cdX db a3' c3 a4' c4)=U at BA2 NB2 hs2 CA;rw [hs1] at NB2;have N1:=(BA2.block wr.heap.size (by omega)).trans NB1;have HBU:=aA (HBV.trans (BA2.mono (by omega)));have HV:=aA hV;have HU:=aA hU;have HCA:=aA CA
      have dr:∀ (l:List CD) (d:CD),l[k]? = some d->l.drop k=d::l.drop (k+1):=fun l d h=>by
       have hlt':=(List.getElem?_eq_some_iff.1 h).1;rw [List.drop_eq_getElem_cons hlt',(List.getElem?_eq_some_iff.1 h).2]
      have HD2:=aA (show (zC da db && eI (la.drop (k+1)) (lb.drop (k+1)))=r by rw [<- hD.out,dr la da hda,dr lb db hdb,sQ]);have a2:(k:Int)<(la.length:Int):=by omega
      have a3:(k:Int)<(lb.length:Int):=by omega
      have a4:(0:Int)<=(k:Int):=by omega
      have a5:((k:Int)).toNat=k:=by omega
      obtain ⟨m0,m1,m2,m3,m4,m5,m6,m7,m8⟩:=kQ N1;obtain ⟨n0,n1,n2,n3,n4,n5,n6,n7,n8⟩:=kQ NB2;obtain ⟨z,hz2⟩:∃ z,zC da db=z:=⟨_,rfl⟩;rw [hz2] at HCA HD2;rw [hw1,hw2];clear hV hU NB1 NB2 N1 BA1 BA2 HBV hz2 CA hda hdb hna hnb hw1 hw2 cc1 cc2 r1 r2 r3 r4 r1' r2' dr;go_upto_region 6 with fail
      rw [show wr.alloc (.cells #[.string da.op,.string da.a.op,.string da.a.nm,.int .i64 da.a.n,.slice a1' da.a.ks.len c1,.string da.b.op,.string da.b.nm,.int .i64 da.b.n,.slice a2' da.b.ks.len c2] 98)=V from HV.out];go_upto_region 7 with fail
      rw [show V.alloc (.cells #[.string db.op,.string db.a.op,.string db.a.nm,.int .i64 db.a.n,.slice a3' db.a.ks.len c3,.string db.b.op,.string db.b.nm,.int .i64 db.b.n,.slice a4' db.b.ks.len c4] 98)=U from HU.out];clear p0 p1 p2 p3 p4 p5 p6 p7 p8 q0 q1 q2 q3 q4 q5 q6 q7 q8;go_wp2_with fail
      refine HCA.out.mono ?_;rintro e w3 ⟨rfl,hb3⟩;have B3:=aA (HBU.out.trans (hb3.mono (by omega)));clear hb3 HCA m0 m1 m2 m3 m4 m5 m6 m7 m8 n0 n1 n2 n3 n4 n5 n6 n7 n8;cases z with
      | true =>
        have D3:=aA (show eI (la.drop (k+1)) (lb.drop (k+1))=r by have:=HD2.out;rwa [Bool.true_and] at this);go_wp2_with fail
        go_roundw
        case rel=>exact ⟨k+1,_,_,_,rfl,rfl,rfl,by go_num,by omega,D3,B3⟩
        case measure=>simp [intOf];omega
      | false =>
        have D3:=aA (show r=false by have:=HD2.out;rw [Bool.false_and] at this;exact this.symm);go_wp2_with fail
        go_ret;rw [D3.out];exact ⟨rfl,B3.out⟩
    · obtain rfl:k=la.length:=by omega
      have D3:=aA (show r=true by rw [<- hD.out,List.drop_of_length_le (Nat.le_refl _),List.drop_of_length_le (by rw [HL.out];exact Nat.le_refl _)];rfl);go_wp2_with fail
      go_ret;rw [D3.out];exact ⟨rfl,hB.out⟩
 · have a1:((la.length:Int) != (lb.length:Int))=true:=by rw [bne_iff_ne];omega
   rw [sP hl];go_enter Tryz.func55,Tryz.ntmps55
   go_wp2_with fail
   go_ret;exact ⟨rfl,B0.out⟩
theorem AC {x:AG} (h:x.fn.data.toList=aP) (gs:List (ByteArray->Option Int)):iV x gs=(iL x gs).map (fun _=>((0:Int),(0:Int))):=by
 have hE:eP x.fn.data.toList=false:=by rw [h];decide
 have hB:bP x.fn.data.toList=false:=by rw [h];decide
 unfold iV iL;induction gs with
 | nil=>rfl
 | cons g gs ih =>
   have h1:kF x g=if dT g x.wh=true then some (0,0) else none:=by unfold kF;rw [hE,hB];cases dT g x.wh <;> rfl
   rw [List.filterMap_cons,List.filter_cons,h1];cases dT g x.wh
   · simpa using ih
   · simp [ih]
theorem Ff {x:AG} (hE:eP x.fn.data.toList=true) (hB:bP x.fn.data.toList=false) (gs:List (ByteArray->Option Int)):iV x gs=(Bo x gs).map (fun e=>(e,(0:Int))):=by
 unfold iV Bo iL;induction gs with
 | nil=>rfl
 | cons g gs ih =>
   have h1:kF x g=if dT g x.wh=true then (evT g x.e).map (fun e=>(e,0)) else none:=by unfold kF;rw [hE,hB];cases dT g x.wh <;> cases evT g x.e <;> rfl
   rw [List.filterMap_cons,List.filter_cons,h1];cases dT g x.wh
   · simpa using ih
   · cases he:evT g x.e <;> simp [he,ih]
abbrev uQ (pre:List Q64):Int:=pre.foldl (fun s q=>dE (s+q.1.1)) 0
theorem Df (pre:List Q64) (q:Q64):uQ (pre++[q])=dE (uQ pre+q.1.1):=by simp [uQ]
theorem He:∀ (pre:List Q64),bM (uQ pre):=by
 intro pre;have z:bM 0:=by unfold bM;omega
 have:∀ (l:List Q64) (s:Int),bM s->bM (l.foldl (fun s q=>dE (s+q.1.1)) s):=by
  intro l;induction l with
  | nil=>exact fun s h=>h
  | cons q l ih=>exact fun s _=>ih _ (k8 _)
 exact this pre 0 z
theorem F8 {L:List Q64} {evs:List Int} (h:L.map Subtype.val=evs.map (fun e=>(e,(0:Int)))):L.map (fun q=>q.1.1)=evs:=by
 have h2:=congrArg (List.map Prod.fst) h;simpa [List.map_map,Function.comp_def] using h2
theorem I4 {L:List Q64} {evs:List Int} (h:L.map (fun q=>q.1.1)=evs):uQ L=evs.foldl (fun s e=>dE (s+e)) 0:=by rw [<- h,List.foldl_map]
theorem I1 {L:List Q64} {evs:List Int} (h:L.map (fun q=>q.1.1)=evs) (most:Nat):qD most L=iJ most (evs.foldl (f7 lsL) []):=by
 subst h;rw [<- DW most (L.map (fun q=>q.1.1)) [] List.Pairwise.nil,List.foldl_map];simp [qD,iJ]
theorem AN {x:AG} (h:eM x=0) (hn:fC x) (hS:SzG x):OkX x:=by
 obtain ⟨h1,h2,h3,h4,h5,h6⟩:=cB h;refine ⟨fun he=>?_,fun he=>?_,fun d hd=>?_,by omega⟩
 · have hc:¬ x.fn.data.toList=aP:=fun hc=>by unfold eP at he;rw [hc] at he;simp at he
   exact ⟨h3 hc,hn.e,hS.e⟩
 · have hc:x.fn.data.toList=aQ:=by unfold bP at he;simpa using he
   exact ⟨h4 hc,hn.g,hS.g⟩
 · have:=eU x.wh h6 d hd
   exact ⟨⟨(this.2.1),(hn.c d hd).1,(hS.c d hd).1⟩,⟨(this.2.2),(hn.c d hd).2,(hS.c d hd).2⟩⟩
end
end Go.Proofs.YtapcjnoaofmmiaaGreatDoor
