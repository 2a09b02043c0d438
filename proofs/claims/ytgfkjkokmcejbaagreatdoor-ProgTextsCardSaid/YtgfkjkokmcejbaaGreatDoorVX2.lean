/-
 No statement: what ProgTextsLift needs, of the texts OE2.
-/
import Derived.Test.YtgfkjkokmcejbaaGreatDoorVX1
set_option maxHeartbeats 40000000
set_option maxRecDepth 100000
open List renaming length_append -> Tb, length_cons -> Te, length_eq_zero_iff -> Tg, length_take -> Th
open Go.World renaming size_alloc -> Tc
open Nat renaming le_refl -> Td
namespace Go.Proofs.YtgfkjkokmcejbaaGreatDoor
open Go.RowKit Tryz
theorem So (s:Tr) (_h1:1<=s.size) (a:s.size<=281474976710656) (w:World) {n:Nat} (hn:bR aZ s.data.toList=n) (_hle:n<=s.size) (a1:1<n) (a2:((s[0].toNat:Int) == 48)=true):Calls prog 215 #[.string s] w fun e w'=>e=.returned (.tuple #[tkV 0 ⟨#[]⟩ 0 0,.int .i64 2])/\Below w.heap.size w w':=by
 have C:=aA (p:=∀ w,Calls prog 239 #[.string s,.func (.func 214) #[] #[]] w fun e w'=>e=.returned (.int .i64 (n:Int))/\w=w') (fun w=>by have:=e9 s a w;rwa [hn] at this);clear hn;go_enter func215,ntmps215
 go_wp2_with ((go_at_call 239;refine (C.out _).mono ?_;rintro e w' ⟨rfl,rfl⟩))
 refine bodyPost_ret (v:=.tuple #[tkV 0 ⟨#[]⟩ 0 0,.int .i64 2]) (by simp [results,results215,go_sem]) rfl ⟨rfl,?_⟩;exact bA0 _ _
theorem Rr (s:Tr) (_h1:1<=s.size) (b:s.size<=281474976710656) (w:World) {n:Nat} (hn:bR aZ s.data.toList=n) (_hle:n<=s.size) (a1:¬ 1<n) (c:n<s.size) (a:bH s[n]=true):Calls prog 215 #[.string s] w fun e w'=>e=.returned (.tuple #[tkV 0 ⟨#[]⟩ 0 0,.int .i64 2])/\Below w.heap.size w w':=by
 have C:=aA (p:=∀ w,Calls prog 239 #[.string s,.func (.func 214) #[] #[]] w fun e w'=>e=.returned (.int .i64 (n:Int))/\w=w') (fun w=>by have:=e9 s b w;rwa [hn] at this);have D:=aA (p:=∀ w,Calls prog 212 #[.int .u8 s[n].toNat] w fun e w'=>e=.returned (.bool true)/\w=w') (fun w=>by have:=eR s[n] w;rwa [a] at this);clear a;clear hn;go_enter func215,ntmps215
 go_wp2_with (first | (go_at_call 239;refine (C.out _).mono ?_;rintro e w' ⟨rfl,rfl⟩) | (go_at_call 212;refine (D.out _).mono ?_;rintro e w' ⟨rfl,rfl⟩))
 refine bodyPost_ret (v:=.tuple #[tkV 0 ⟨#[]⟩ 0 0,.int .i64 2]) (by simp [results,results215,go_sem]) rfl ⟨rfl,?_⟩;exact bA0 _ _
theorem Rq (s:Tr) (_h1:1<=s.size) (b:s.size<=281474976710656) (w:World) {n:Nat} (hn:bR aZ s.data.toList=n) (_hle:n<=s.size) (a1:1<n) (a2:((s[0].toNat:Int) == 48)=false) (c:n<s.size) (a:bH s[n]=true):Calls prog 215 #[.string s] w fun e w'=>e=.returned (.tuple #[tkV 0 ⟨#[]⟩ 0 0,.int .i64 2])/\Below w.heap.size w w':=by
 have C:=aA (p:=∀ w,Calls prog 239 #[.string s,.func (.func 214) #[] #[]] w fun e w'=>e=.returned (.int .i64 (n:Int))/\w=w') (fun w=>by have:=e9 s b w;rwa [hn] at this);have D:=aA (p:=∀ w,Calls prog 212 #[.int .u8 s[n].toNat] w fun e w'=>e=.returned (.bool true)/\w=w') (fun w=>by have:=eR s[n] w;rwa [a] at this);clear a;clear hn;go_enter func215,ntmps215
 go_wp2_with (first | (go_at_call 239;refine (C.out _).mono ?_;rintro e w' ⟨rfl,rfl⟩) | (go_at_call 212;refine (D.out _).mono ?_;rintro e w' ⟨rfl,rfl⟩))
 refine bodyPost_ret (v:=.tuple #[tkV 0 ⟨#[]⟩ 0 0,.int .i64 2]) (by simp [results,results215,go_sem]) rfl ⟨rfl,?_⟩;exact bA0 _ _
theorem Pv (s:Tr) (_h1:1<=s.size) (l:s.size<=281474976710656) (w:World) {n:Nat} (hn:bR aZ s.data.toList=n) (_hle:n<=s.size) (a1:¬ 1<n) (H:n<s.size) (g:bH s[n]=false) {v:Int} (hp:Lib.parseIntB 64 (s.extract 0 n).data.toList=.ok v):Calls prog 215 #[.string s] w fun e w'=>e=.returned (.tuple #[tkV 2 (s.extract 0 n) v 0,.int .i64 0])/\Below w.heap.size w w':=by
 have C:=aA (p:=∀ w,Calls prog 239 #[.string s,.func (.func 214) #[] #[]] w fun e w'=>e=.returned (.int .i64 (n:Int))/\w=w') (fun w=>by have:=e9 s l w;rwa [hn] at this);have D:=aA (p:=∀ w,Calls prog 212 #[.int .u8 s[n].toNat] w fun e w'=>e=.returned (.bool false)/\w=w') (fun w=>by have:=eR s[n] w;rwa [g] at this);clear g;have P:=aA (fun w=>tD (s.extract 0 n) v (by rw [ByteArray.size_extract];omega) hp w);have T:=aA (fun w=>i7 2 (s.extract 0 n) (by rw [ByteArray.size_extract];omega) w);clear hp;clear hn;go_enter func215,ntmps215
 go_wp2_with (first | (go_at_call 239;refine (C.out _).mono ?_;rintro e w' ⟨rfl,rfl⟩) | (go_at_call 212;refine (D.out _).mono ?_;rintro e w' ⟨rfl,rfl⟩))
 refine (P.out _).mono ?_;rintro e k ⟨rfl,a⟩;have b:=(a.block w.heap.size (by simp)).trans (heap_alloc_new w _);have t:=aA (show Below w.heap.size w k from (bA0 w _).trans (a.mono (by simp)));have f:=aA b;clear a;clear b;go_wp2_with fail
 refine (T.out _).mono ?_;rintro e j ⟨rfl,a⟩;have c:=aG f.out;have b:=(a.block w.heap.size c).trans f.out;have h:=aA (show Below w.heap.size w j from t.out.trans (a.mono (by omega)));obtain ⟨⟨z,y,x,u⟩,G,E,B,A⟩:=aL b;have c2:=aA b;have d:=aG b;clear a b;go_wp2_with fail
 obtain ⟨⟨r,q,o,m⟩, -⟩:=aL (tQ c2.out (.int .i64 2) (.string (s.extract 0 n)) (.int .i64 v) (.int .i64 0) (tkO 2 (s.extract 0 n) v 0));exact bodyPost_ret (v:=.tuple #[tkV 2 (s.extract 0 n) v 0,.int .i64 0]) (by simp [results,results215,go_sem,r,q,o,m]) rfl ⟨rfl,(cG h.out (Td _) _ _ _ _).alloc (by have:=(cG h.out (Td w.heap.size) (.int .i64 2) (.string (s.extract 0 n)) (.int .i64 v) (.int .i64 0)).size;exact this) _⟩
theorem Pw (s:Tr) (_h1:1<=s.size) (g:s.size<=281474976710656) (w:World) {n:Nat} (hn:bR aZ s.data.toList=n) (_hle:n<=s.size) (a1:¬ 1<n) (H:n<s.size) (d:bH s[n]=false) (a:iE w) (hp:∀ v,¬ Lib.parseIntB 64 (s.extract 0 n).data.toList=.ok v):Calls prog 215 #[.string s] w fun e w'=>e=.returned (.tuple #[tkV 0 ⟨#[]⟩ 0 0,.int .i64 1])/\Below w.heap.size w w':=by
 have C:=aA (p:=∀ w,Calls prog 239 #[.string s,.func (.func 214) #[] #[]] w fun e w'=>e=.returned (.int .i64 (n:Int))/\w=w') (fun w=>by have:=e9 s g w;rwa [hn] at this);have D:=aA (p:=∀ w,Calls prog 212 #[.int .u8 s[n].toNat] w fun e w'=>e=.returned (.bool false)/\w=w') (fun w=>by have:=eR s[n] w;rwa [d] at this);clear d;have P:=aA (fun w (a:iE w)=>nQ (s.extract 0 n) (by rw [ByteArray.size_extract];omega) w a hp);have a:=aA a;clear hp;clear hn;go_enter func215,ntmps215
 go_wp2_with (first | (go_at_call 239;refine (C.out _).mono ?_;rintro e w' ⟨rfl,rfl⟩) | (go_at_call 212;refine (D.out _).mono ?_;rintro e w' ⟨rfl,rfl⟩))
 refine (P.out _ (a.out.step (bA0 w _))).mono ?_;rintro e f ⟨⟨t,q,r,rfl⟩,b⟩;have c:=(b.block w.heap.size (by simp)).trans (heap_alloc_new w _);have o:=aA (show Below w.heap.size w f from (bA0 w _).trans (b.mono (by simp)));have m:=aA c;clear b;obtain ⟨⟨z,y,x,u⟩,G,E,B,A⟩:=aL c;clear c;go_wp2_with fail
 obtain ⟨⟨l,k,j,h⟩, -⟩:=aL (aY m.out (.int .i64 0) (.string ⟨#[]⟩) (.int .i64 0) (.int .i64 0));exact bodyPost_ret (v:=.tuple #[tkV 0 ⟨#[]⟩ 0 0,.int .i64 1]) (by simp [results,results215,go_sem,l,k,j,h]) rfl ⟨rfl,cG o.out (Td _) _ _ _ _⟩
theorem Pt (s:Tr) (_h1:1<=s.size) (l:s.size<=281474976710656) (w:World) {n:Nat} (hn:bR aZ s.data.toList=n) (_hle:n<=s.size) (a1:1<n) (a2:((s[0].toNat:Int) == 48)=false) (H:n<s.size) (g:bH s[n]=false) {v:Int} (hp:Lib.parseIntB 64 (s.extract 0 n).data.toList=.ok v):Calls prog 215 #[.string s] w fun e w'=>e=.returned (.tuple #[tkV 2 (s.extract 0 n) v 0,.int .i64 0])/\Below w.heap.size w w':=by
 have C:=aA (p:=∀ w,Calls prog 239 #[.string s,.func (.func 214) #[] #[]] w fun e w'=>e=.returned (.int .i64 (n:Int))/\w=w') (fun w=>by have:=e9 s l w;rwa [hn] at this);have D:=aA (p:=∀ w,Calls prog 212 #[.int .u8 s[n].toNat] w fun e w'=>e=.returned (.bool false)/\w=w') (fun w=>by have:=eR s[n] w;rwa [g] at this);clear g;have P:=aA (fun w=>tD (s.extract 0 n) v (by rw [ByteArray.size_extract];omega) hp w);have T:=aA (fun w=>i7 2 (s.extract 0 n) (by rw [ByteArray.size_extract];omega) w);clear hp;clear hn;go_enter func215,ntmps215
 go_wp2_with (first | (go_at_call 239;refine (C.out _).mono ?_;rintro e w' ⟨rfl,rfl⟩) | (go_at_call 212;refine (D.out _).mono ?_;rintro e w' ⟨rfl,rfl⟩))
 refine (P.out _).mono ?_;rintro e k ⟨rfl,a⟩;have b:=(a.block w.heap.size (by simp)).trans (heap_alloc_new w _);have t:=aA (show Below w.heap.size w k from (bA0 w _).trans (a.mono (by simp)));have f:=aA b;clear a;clear b;go_wp2_with fail
 refine (T.out _).mono ?_;rintro e j ⟨rfl,a⟩;have c:=aG f.out;have b:=(a.block w.heap.size c).trans f.out;have h:=aA (show Below w.heap.size w j from t.out.trans (a.mono (by omega)));obtain ⟨⟨z,y,x,u⟩,G,E,B,A⟩:=aL b;have c2:=aA b;have d:=aG b;clear a b;go_wp2_with fail
 obtain ⟨⟨r,q,o,m⟩, -⟩:=aL (tQ c2.out (.int .i64 2) (.string (s.extract 0 n)) (.int .i64 v) (.int .i64 0) (tkO 2 (s.extract 0 n) v 0));exact bodyPost_ret (v:=.tuple #[tkV 2 (s.extract 0 n) v 0,.int .i64 0]) (by simp [results,results215,go_sem,r,q,o,m]) rfl ⟨rfl,(cG h.out (Td _) _ _ _ _).alloc (by have:=(cG h.out (Td w.heap.size) (.int .i64 2) (.string (s.extract 0 n)) (.int .i64 v) (.int .i64 0)).size;exact this) _⟩
theorem Pu (s:Tr) (_h1:1<=s.size) (g:s.size<=281474976710656) (w:World) {n:Nat} (hn:bR aZ s.data.toList=n) (_hle:n<=s.size) (a1:1<n) (a2:((s[0].toNat:Int) == 48)=false) (H:n<s.size) (d:bH s[n]=false) (a:iE w) (hp:∀ v,¬ Lib.parseIntB 64 (s.extract 0 n).data.toList=.ok v):Calls prog 215 #[.string s] w fun e w'=>e=.returned (.tuple #[tkV 0 ⟨#[]⟩ 0 0,.int .i64 1])/\Below w.heap.size w w':=by
 have C:=aA (p:=∀ w,Calls prog 239 #[.string s,.func (.func 214) #[] #[]] w fun e w'=>e=.returned (.int .i64 (n:Int))/\w=w') (fun w=>by have:=e9 s g w;rwa [hn] at this);have D:=aA (p:=∀ w,Calls prog 212 #[.int .u8 s[n].toNat] w fun e w'=>e=.returned (.bool false)/\w=w') (fun w=>by have:=eR s[n] w;rwa [d] at this);clear d;have P:=aA (fun w (a:iE w)=>nQ (s.extract 0 n) (by rw [ByteArray.size_extract];omega) w a hp);have a:=aA a;clear hp;clear hn;go_enter func215,ntmps215
 go_wp2_with (first | (go_at_call 239;refine (C.out _).mono ?_;rintro e w' ⟨rfl,rfl⟩) | (go_at_call 212;refine (D.out _).mono ?_;rintro e w' ⟨rfl,rfl⟩))
 refine (P.out _ (a.out.step (bA0 w _))).mono ?_;rintro e f ⟨⟨t,q,r,rfl⟩,b⟩;have c:=(b.block w.heap.size (by simp)).trans (heap_alloc_new w _);have o:=aA (show Below w.heap.size w f from (bA0 w _).trans (b.mono (by simp)));have m:=aA c;clear b;obtain ⟨⟨z,y,x,u⟩,G,E,B,A⟩:=aL c;clear c;go_wp2_with fail
 obtain ⟨⟨l,k,j,h⟩, -⟩:=aL (aY m.out (.int .i64 0) (.string ⟨#[]⟩) (.int .i64 0) (.int .i64 0));exact bodyPost_ret (v:=.tuple #[tkV 0 ⟨#[]⟩ 0 0,.int .i64 1]) (by simp [results,results215,go_sem,l,k,j,h]) rfl ⟨rfl,cG o.out (Td _) _ _ _ _⟩
theorem Pr (s:Tr) (_h1:1<=s.size) (k:s.size<=281474976710656) (w:World) {n:Nat} (hn:bR aZ s.data.toList=n) (_hle:n<=s.size) (a1:¬ 1<n) (E:¬ n<s.size) {v:Int} (hp:Lib.parseIntB 64 (s.extract 0 n).data.toList=.ok v):Calls prog 215 #[.string s] w fun e w'=>e=.returned (.tuple #[tkV 2 (s.extract 0 n) v 0,.int .i64 0])/\Below w.heap.size w w':=by
 have C:=aA (p:=∀ w,Calls prog 239 #[.string s,.func (.func 214) #[] #[]] w fun e w'=>e=.returned (.int .i64 (n:Int))/\w=w') (fun w=>by have:=e9 s k w;rwa [hn] at this);have P:=aA (fun w=>tD (s.extract 0 n) v (by rw [ByteArray.size_extract];omega) hp w);have T:=aA (fun w=>i7 2 (s.extract 0 n) (by rw [ByteArray.size_extract];omega) w);clear hp;clear hn;go_enter func215,ntmps215
 go_wp2_with ((go_at_call 239;refine (C.out _).mono ?_;rintro e w' ⟨rfl,rfl⟩))
 refine (P.out _).mono ?_;rintro e j ⟨rfl,a⟩;have b:=(a.block w.heap.size (by simp)).trans (heap_alloc_new w _);have r:=aA (show Below w.heap.size w j from (bA0 w _).trans (a.mono (by simp)));have f:=aA b;clear a;clear b;go_wp2_with fail
 refine (T.out _).mono ?_;rintro e h ⟨rfl,a⟩;have c:=aG f.out;have b:=(a.block w.heap.size c).trans f.out;have g:=aA (show Below w.heap.size w h from r.out.trans (a.mono (by omega)));obtain ⟨⟨y,x,u,t⟩,D,B,A,z⟩:=aL b;have c2:=aA b;have d:=aG b;clear a b;go_wp2_with fail
 obtain ⟨⟨q,o,m,l⟩, -⟩:=aL (tQ c2.out (.int .i64 2) (.string (s.extract 0 n)) (.int .i64 v) (.int .i64 0) (tkO 2 (s.extract 0 n) v 0));exact bodyPost_ret (v:=.tuple #[tkV 2 (s.extract 0 n) v 0,.int .i64 0]) (by simp [results,results215,go_sem,q,o,m,l]) rfl ⟨rfl,(cG g.out (Td _) _ _ _ _).alloc (by have:=(cG g.out (Td w.heap.size) (.int .i64 2) (.string (s.extract 0 n)) (.int .i64 v) (.int .i64 0)).size;exact this) _⟩
theorem Ps (s:Tr) (_h1:1<=s.size) (f:s.size<=281474976710656) (w:World) {n:Nat} (hn:bR aZ s.data.toList=n) (_hle:n<=s.size) (a1:¬ 1<n) (E:¬ n<s.size) (a:iE w) (hp:∀ v,¬ Lib.parseIntB 64 (s.extract 0 n).data.toList=.ok v):Calls prog 215 #[.string s] w fun e w'=>e=.returned (.tuple #[tkV 0 ⟨#[]⟩ 0 0,.int .i64 1])/\Below w.heap.size w w':=by
 have C:=aA (p:=∀ w,Calls prog 239 #[.string s,.func (.func 214) #[] #[]] w fun e w'=>e=.returned (.int .i64 (n:Int))/\w=w') (fun w=>by have:=e9 s f w;rwa [hn] at this);have P:=aA (fun w (a:iE w)=>nQ (s.extract 0 n) (by rw [ByteArray.size_extract];omega) w a hp);have a:=aA a;clear hp;clear hn;go_enter func215,ntmps215
 go_wp2_with ((go_at_call 239;refine (C.out _).mono ?_;rintro e w' ⟨rfl,rfl⟩))
 refine (P.out _ (a.out.step (bA0 w _))).mono ?_;rintro e d ⟨⟨r,o,q,rfl⟩,b⟩;have c:=(b.block w.heap.size (by simp)).trans (heap_alloc_new w _);have m:=aA (show Below w.heap.size w d from (bA0 w _).trans (b.mono (by simp)));have l:=aA c;clear b;obtain ⟨⟨y,x,u,t⟩,D,B,A,z⟩:=aL c;clear c;go_wp2_with fail
 obtain ⟨⟨k,j,h,g⟩, -⟩:=aL (aY l.out (.int .i64 0) (.string ⟨#[]⟩) (.int .i64 0) (.int .i64 0));exact bodyPost_ret (v:=.tuple #[tkV 0 ⟨#[]⟩ 0 0,.int .i64 1]) (by simp [results,results215,go_sem,k,j,h,g]) rfl ⟨rfl,cG m.out (Td _) _ _ _ _⟩
theorem Pp (s:Tr) (_h1:1<=s.size) (k:s.size<=281474976710656) (w:World) {n:Nat} (hn:bR aZ s.data.toList=n) (_hle:n<=s.size) (a1:1<n) (a2:((s[0].toNat:Int) == 48)=false) (E:¬ n<s.size) {v:Int} (hp:Lib.parseIntB 64 (s.extract 0 n).data.toList=.ok v):Calls prog 215 #[.string s] w fun e w'=>e=.returned (.tuple #[tkV 2 (s.extract 0 n) v 0,.int .i64 0])/\Below w.heap.size w w':=by
 have C:=aA (p:=∀ w,Calls prog 239 #[.string s,.func (.func 214) #[] #[]] w fun e w'=>e=.returned (.int .i64 (n:Int))/\w=w') (fun w=>by have:=e9 s k w;rwa [hn] at this);have P:=aA (fun w=>tD (s.extract 0 n) v (by rw [ByteArray.size_extract];omega) hp w);have T:=aA (fun w=>i7 2 (s.extract 0 n) (by rw [ByteArray.size_extract];omega) w);clear hp;clear hn;go_enter func215,ntmps215
 go_wp2_with ((go_at_call 239;refine (C.out _).mono ?_;rintro e w' ⟨rfl,rfl⟩))
 refine (P.out _).mono ?_;rintro e j ⟨rfl,a⟩;have b:=(a.block w.heap.size (by simp)).trans (heap_alloc_new w _);have r:=aA (show Below w.heap.size w j from (bA0 w _).trans (a.mono (by simp)));have f:=aA b;clear a;clear b;go_wp2_with fail
 refine (T.out _).mono ?_;rintro e h ⟨rfl,a⟩;have c:=aG f.out;have b:=(a.block w.heap.size c).trans f.out;have g:=aA (show Below w.heap.size w h from r.out.trans (a.mono (by omega)));obtain ⟨⟨y,x,u,t⟩,D,B,A,z⟩:=aL b;have c2:=aA b;have d:=aG b;clear a b;go_wp2_with fail
 obtain ⟨⟨q,o,m,l⟩, -⟩:=aL (tQ c2.out (.int .i64 2) (.string (s.extract 0 n)) (.int .i64 v) (.int .i64 0) (tkO 2 (s.extract 0 n) v 0));exact bodyPost_ret (v:=.tuple #[tkV 2 (s.extract 0 n) v 0,.int .i64 0]) (by simp [results,results215,go_sem,q,o,m,l]) rfl ⟨rfl,(cG g.out (Td _) _ _ _ _).alloc (by have:=(cG g.out (Td w.heap.size) (.int .i64 2) (.string (s.extract 0 n)) (.int .i64 v) (.int .i64 0)).size;exact this) _⟩
theorem Pq (s:Tr) (_h1:1<=s.size) (f:s.size<=281474976710656) (w:World) {n:Nat} (hn:bR aZ s.data.toList=n) (_hle:n<=s.size) (a1:1<n) (a2:((s[0].toNat:Int) == 48)=false) (E:¬ n<s.size) (a:iE w) (hp:∀ v,¬ Lib.parseIntB 64 (s.extract 0 n).data.toList=.ok v):Calls prog 215 #[.string s] w fun e w'=>e=.returned (.tuple #[tkV 0 ⟨#[]⟩ 0 0,.int .i64 1])/\Below w.heap.size w w':=by
 have C:=aA (p:=∀ w,Calls prog 239 #[.string s,.func (.func 214) #[] #[]] w fun e w'=>e=.returned (.int .i64 (n:Int))/\w=w') (fun w=>by have:=e9 s f w;rwa [hn] at this);have P:=aA (fun w (a:iE w)=>nQ (s.extract 0 n) (by rw [ByteArray.size_extract];omega) w a hp);have a:=aA a;clear hp;clear hn;go_enter func215,ntmps215
 go_wp2_with ((go_at_call 239;refine (C.out _).mono ?_;rintro e w' ⟨rfl,rfl⟩))
 refine (P.out _ (a.out.step (bA0 w _))).mono ?_;rintro e d ⟨⟨r,o,q,rfl⟩,b⟩;have c:=(b.block w.heap.size (by simp)).trans (heap_alloc_new w _);have m:=aA (show Below w.heap.size w d from (bA0 w _).trans (b.mono (by simp)));have l:=aA c;clear b;obtain ⟨⟨y,x,u,t⟩,D,B,A,z⟩:=aL c;clear c;go_wp2_with fail
 obtain ⟨⟨k,j,h,g⟩, -⟩:=aL (aY l.out (.int .i64 0) (.string ⟨#[]⟩) (.int .i64 0) (.int .i64 0));exact bodyPost_ret (v:=.tuple #[tkV 0 ⟨#[]⟩ 0 0,.int .i64 1]) (by simp [results,results215,go_sem,k,j,h,g]) rfl ⟨rfl,cG m.out (Td _) _ _ _ _⟩
theorem DZ (s:Tr) (k:Int) (n:Nat) (v:Int):xS s.data.toList (.tok k n v)=.tuple #[tkV k (s.extract 0 n) v 0,.int .i64 0]:=by
 rw [zF];rfl
theorem H9 {s:Tr} (a:1<=s.size):s.data.toList.head? = some s[0]:=by
 rw [List.head?_eq_getElem?];exact List.getElem?_eq_getElem (by simp;omega)
theorem GJ {s:Tr} {n:Nat} (hn:bR aZ s.data.toList=n):∀ c∈(s.extract 0 n).data.toList,isD c:=by
 intro c a;rw [fI, <- hn,mC] at a;have:=List.all_takeWhile (p:=aZ) (l:=s.data.toList);exact (rC c).1 (List.all_eq_true.1 this c a)
theorem Mu (s:Tr) (g:1<=s.size) (hd:aZ s[0]=true) (j:s.size<=281474976710656) (w:World) (t:iE w):Calls prog 215 #[.string s] w fun e w'=>e=.returned (xS s.data.toList (l5 s.data.toList))/\Below w.heap.size w w':=by
 obtain ⟨n,hn⟩:∃ n,bR aZ s.data.toList=n:=⟨_,rfl⟩;have hl:s.data.toList.length=s.size:=by simp
 have a:n<=s.size:=by rw [<- hn];have:=uC aZ s.data.toList;omega
 have b:=H9 g
 have z:1<=n:=by
  rw [<- hn];cases e:s.data.toList with
  | nil=>rw [e] at hl;simp at hl;omega
  | cons c r =>
    rw [e] at b;obtain B:c=s[0]:=by simpa using b
    exact tA (by rw [B];exact hd)
 have m:(s.data.toList.drop n).head? = if h:n<s.size then some s[n] else none:=by
  rw [List.head?_drop];by_cases h:n<s.size
  · rw [dif_pos h];exact List.getElem?_eq_getElem (by omega)
  · rw [dif_neg h];exact List.getElem?_eq_none (by omega)
 have D:=GJ hn;have p:=fI s n;unfold l5;rw [hn,b,m];by_cases A:1<n/\s[0]=48
 · rw [if_pos (.inl ⟨A.1,by rw [A.2]⟩)]
   exact So s g j w hn a A.1 (by rw [A.2];decide)
 · have a3:1<n->((s[0].toNat:Int) == 48)=false:=fun h=>by
    rw [beq_eq_false_iff_ne];intro e
    exact A ⟨h, UInt8.toNat_inj.1 (by have : s[0].toNat = 48 := by omega
                                      rw [this];rfl)⟩
   by_cases f:n<s.size
   · cases l:bH s[n] with
     | true =>
       rw [if_pos (.inr ⟨s[n],by rw [dif_pos f],l⟩)];by_cases a1:1<n
       · exact Rq s g j w hn a a1 (a3 a1) f l
       · exact Rr s g j w hn a a1 f l
     | false =>
       rw [if_neg (by
        rintro (⟨x,y⟩ | ⟨d,x,y⟩)
        · exact A ⟨x,by simpa using y⟩
        · rw [dif_pos f] at x
          cases x;rw [l] at y;cases y)]
       rw [<- p];by_cases k:9223372036854775807<dV (s.extract 0 n).data.toList
       · rw [if_pos k]
         by_cases a1:1<n
         · exact Pu s g j w hn a a1 (a3 a1) f l t (lB D k)
         · exact Pw s g j w hn a a1 f l t (lB D k)
       · rw [if_neg k]
         have hp:=tE (d:=(s.extract 0 n).data.toList) (by
          intro e;have:=congrArg List.length e;rw [p,Th,List.length_nil] at this;omega) D (by
          intro r hr;rw [p] at hr;have q:(s.data.toList.take n).head? = some s[0]:=by rw [List.head?_take,if_neg (by omega)];exact b
          rw [hr] at q;have o:s[0]=48:=by simpa using q.symm
          have u:n=1:=by
           rcases Nat.lt_or_ge 1 n with h | h
           · exact absurd ⟨h,o⟩ A
           · omega
          have:=congrArg List.length hr;rw [Th,Te] at this;exact Tg.1 (by omega)) (by omega)
         rw [DZ];by_cases a1:1<n
         · exact Pt s g j w hn a a1 (a3 a1) f l hp
         · exact Pv s g j w hn a a1 f l hp
   · rw [if_neg (by
         rintro (⟨x,y⟩ | ⟨d,x,y⟩)
         · exact A ⟨x,by simpa using y⟩
         · rw [dif_neg f] at x
           cases x)]
     rw [<- p];by_cases k:9223372036854775807<dV (s.extract 0 n).data.toList
     · rw [if_pos k]
       by_cases a1:1<n
       · exact Pq s g j w hn a a1 (a3 a1) f t (lB D k)
       · exact Ps s g j w hn a a1 f t (lB D k)
     · rw [if_neg k]
       have hp:=tE (d:=(s.extract 0 n).data.toList) (by
        intro e;have:=congrArg List.length e;rw [p,Th,List.length_nil] at this;omega) D (by
        intro r hr;rw [p] at hr;have q:(s.data.toList.take n).head? = some s[0]:=by rw [List.head?_take,if_neg (by omega)];exact b
        rw [hr] at q;have o:s[0]=48:=by simpa using q.symm
        have u:n=1:=by
         rcases Nat.lt_or_ge 1 n with h | h
         · exact absurd ⟨h,o⟩ A
         · omega
        have:=congrArg List.length hr;rw [Th,Te] at this;exact Tg.1 (by omega)) (by omega)
       rw [DZ];by_cases a1:1<n
       · exact Pp s g j w hn a a1 (a3 a1) f hp
       · exact Pr s g j w hn a a1 f hp
theorem uG {f:Fst} {l:Tq}:∃ k s n p e,xS l f=.tuple #[tkV k s n p,.int .i64 e]:=by
 cases f with
 | bad e=>exact ⟨_,_,_,_,_,rfl⟩
 | tok k n v=>exact ⟨_,_,_,_,_,rfl⟩
theorem Gh (s:Tr) (z:1<=s.size) (y:s.size<=281474976710656) (w:World) (g:iE w):Calls prog 176 #[.string s] w fun e w'=>e=.returned (xS s.data.toList (bV s.data.toList))/\Below w.heap.size w w':=by
 have x:bV s.data.toList=if bH s[0] then jM s.data.toList else if aZ s[0] then l5 s.data.toList else iF s.data.toList:=by
  have hl:s.data.toList.length=s.size:=by simp
  have H:=H9 z;cases e:s.data.toList with
  | nil=>rw [e] at hl;simp at hl;omega
  | cons c r =>
    rw [e] at H;have:c=s[0]:=by simpa using H
    rw [<- this];rfl
 rw [x];cases hs:bH s[0] with
 | true =>
   rw [if_pos rfl];have C:=aA (p:=∀ w,Calls prog 212 #[.int .u8 s[0].toNat] w fun e w'=>e=.returned (.bool true)/\w=w') (fun w=>by have:=eR s[0] w;rwa [hs] at this);obtain ⟨k,t,n,p,er,hr⟩:=uG (f:=jM s.data.toList) (l:=s.data.toList);have T:=aA (fun w=>Ju s y w);rw [hr] at T |-
   clear hs x hr;go_enter func176,ntmps176
   go_wp2_with (go_at_call 212;refine (C.out _).mono ?_;rintro e w' ⟨rfl,rfl⟩)
   refine (T.out _).mono ?_;rintro e d ⟨rfl,a⟩;have b:=(a.block w.heap.size (by simp)).trans (heap_alloc_new w _);have u:=aA (show Below w.heap.size w d from (bA0 w _).trans (a.mono (by simp)));obtain ⟨⟨G,E,B,A⟩,N,M,L,I⟩:=aL b;have q:=aA b;clear a b;go_wp2_with fail
   obtain ⟨⟨o,m,j,h⟩, -⟩:=aL (aY q.out (.int .i64 k) (.string t) (.int .i64 n) (.int .i64 p));exact bodyPost_ret (v:=.tuple #[tkV k t n p,.int .i64 er]) (by simp [results,results176,go_sem,o,m,j,h]) rfl ⟨rfl,cG u.out (Td _) _ _ _ _⟩
 | false =>
   rw [if_neg (by decide)];have C:=aA (p:=∀ w,Calls prog 212 #[.int .u8 s[0].toNat] w fun e w'=>e=.returned (.bool false)/\w=w') (fun w=>by have:=eR s[0] w;rwa [hs] at this);cases hd:aZ s[0] with
   | true =>
     rw [if_pos rfl];have D:=aA (p:=∀ w,Calls prog 214 #[.int .u8 s[0].toNat] w fun e w'=>e=.returned (.bool true)/\w=w') (fun w=>by have:=oA s[0] w;rwa [hd] at this);obtain ⟨k,t,n,p,er,hr⟩:=uG (f:=l5 s.data.toList) (l:=s.data.toList);have T:=aA (fun w (g:iE w)=>Mu s z hd y w g);have g:=aA g;rw [hr] at T |-
     clear hs x hr hd;go_enter func176,ntmps176
     go_wp2_with (first | (go_at_call 212;refine (C.out _).mono ?_;rintro e w' ⟨rfl,rfl⟩) | (go_at_call 214;refine (D.out _).mono ?_;rintro e w' ⟨rfl,rfl⟩))
     refine (T.out _ (g.out.step (bA0 w _))).mono ?_;rintro e d ⟨rfl,a⟩;have b:=(a.block w.heap.size (by simp)).trans (heap_alloc_new w _);have u:=aA (show Below w.heap.size w d from (bA0 w _).trans (a.mono (by simp)));obtain ⟨⟨G,E,B,A⟩,N,M,L,I⟩:=aL b;have q:=aA b;clear a b;go_wp2_with fail
     obtain ⟨⟨o,m,j,h⟩, -⟩:=aL (aY q.out (.int .i64 k) (.string t) (.int .i64 n) (.int .i64 p));exact bodyPost_ret (v:=.tuple #[tkV k t n p,.int .i64 er]) (by simp [results,results176,go_sem,o,m,j,h]) rfl ⟨rfl,cG u.out (Td _) _ _ _ _⟩
   | false =>
     rw [if_neg (by decide)];have D:=aA (p:=∀ w,Calls prog 214 #[.int .u8 s[0].toNat] w fun e w'=>e=.returned (.bool false)/\w=w') (fun w=>by have:=oA s[0] w;rwa [hd] at this);obtain ⟨k,t,n,p,er,hr⟩:=uG (f:=iF s.data.toList) (l:=s.data.toList);have T:=aA (fun w=>Gg s z y w);rw [hr] at T |-
     clear hs x hr hd;go_enter func176,ntmps176
     go_wp2_with (first | (go_at_call 212;refine (C.out _).mono ?_;rintro e w' ⟨rfl,rfl⟩) | (go_at_call 214;refine (D.out _).mono ?_;rintro e w' ⟨rfl,rfl⟩))
     refine (T.out _).mono ?_;rintro e d ⟨rfl,a⟩;have b:=(a.block w.heap.size (by simp)).trans (heap_alloc_new w _);have u:=aA (show Below w.heap.size w d from (bA0 w _).trans (a.mono (by simp)));obtain ⟨⟨G,E,B,A⟩,N,M,L,I⟩:=aL b;have q:=aA b;clear a b;go_wp2_with fail
     obtain ⟨⟨o,m,j,h⟩, -⟩:=aL (aY q.out (.int .i64 k) (.string t) (.int .i64 n) (.int .i64 p));exact bodyPost_ret (v:=.tuple #[tkV k t n p,.int .i64 er]) (by simp [results,results176,go_sem,o,m,j,h]) rfl ⟨rfl,cG u.out (Td _) _ _ _ _⟩
section
def Sa (w:World) (u:Value) (m:Nat) (news:List Value):Prop :=
 (u=.slice none 0 0/\m=0/\news=[])\/∃ a c,u=.slice (some a) m c/\news.length=m/\∀ j x,news[j]? = some x->w.cell? (a.add j)=some x
variable {P : Program}
theorem wM {w:World} {base:Nat} {t ty e:TypeId} {i:TypeInfo} {z:Value} {bytes:Nat} (s:P.underlying t=some (.slice e)) (y:P.info? e=some i) (hz:i.zero=some z) (g:i.size=1) (q:i.bytes=bytes) (p:z.cells.size=1)
 {v u:Value} {n m:Nat} {xs b:List Value} (d:w.ownsRow base e 1 v n xs) (j:Sa w u m b) (B:∀ x∈b,x.oneCell'=true) (r:n+m<=maxLen) (f:(n+m)*bytes<=140737488355328) (k:base<=w.heap.size) :
 ∃ l w',(Builtin.append_ #[t,t] ty #[v,u]).run P w=.ok l w'/\w'.ownsRow base e 1 l (n+m) (xs++b)/\w.grownBy w' v.ownBlock/\(v ≠ .slice none 0 0->l ≠ .slice none 0 0):=by
 rcases j with ⟨rfl,rfl,rfl⟩ | ⟨a,c,rfl,hl,hn⟩
 · have hr:=run_append_owned_none (P:=P) w base t ty e i 1 s y v n xs d
   exact ⟨v,w,hr,by simpa using d,World.grownBy.refl w _,fun h=>h⟩
 · obtain ⟨l,w',hr,ho,A,o⟩:=run_append_own (P:=P) w base t ty e i z 1 bytes s y hz g q p (by omega) v n xs d a m c b (by rw [Nat.mul_one];exact hl) hn B r f k
   exact ⟨l,w',hr,ho,A,fun h C=>h (o.1 C).1⟩
theorem rY {ops:Array Oper} {rest:List Oper} {o:Oper} {a:Act} {w:World} {Q:Exit->Act->World->Prop}
 (g:o.guard=none) (s x:Operand) (t:TypeId) (c:o.op=Op.call { callee:=Callee.builtin Builtin.append,args:=#[s,x],argTypes:=#[t,t] })
 {base:Nat} {e:TypeId} {i:TypeInfo} {z:Value} {bytes:Nat} (ht:P.underlying t=some (.slice e)) (hi:P.info? e=some i) (hz:i.zero=some z) (hsize:i.size=1) (hby:i.bytes=bytes) (hzs:z.cells.size=1)
 (v u:Value) (n m:Nat) (xs news:List Value) (hs:a.eval s=v) (hx:a.eval x=u) (hown:w.ownsRow base e 1 v n xs) (hfrom:Sa w u m news) (h1:∀ x∈news,x.oneCell'=true) (h63:n+m<=maxLen) (hbytes:(n+m)*bytes<=140737488355328) (hbase:base<=w.heap.size)
 (hK:∀ b w',w'.ownsRow base e 1 b (n+m) (xs++news)->w.grownBy w' v.ownBlock->(v ≠ .slice none 0 0->b ≠ .slice none 0 0)->wpList P ops Q rest (a.put o.dst b) w') :
 wpList P ops Q (o::rest) a w:=by
 refine wpList_plain g fun K h=>?_
 obtain ⟨b,w',hr,ho,f,d⟩:=wM (P:=P) (ty:=o.type) ht hi hz hsize hby hzs hown hfrom h1 h63 hbytes hbase;unfold Oper.wp;simp [execOp,c,resolve,invoke,builtin,hs,hx,hr,Result.andThen];exact h _ _ (hK _ _ ho f d)
theorem LG {w:World} {base:Nat} {e:TypeId} {size:Nat} {v:Value} {n:Nat} {xs:List Value} (h:w.ownsRow base e size v n xs):w.drew.ownsRow base e size v n xs:=h
end
section
variable {P : Program}
end
theorem cK {w w':World} {base:Nat} {e:TypeId} {size:Nat} {v:Value} {n:Nat} {xs:List Value} (h:w.ownsRow base e size v n xs) (a:Below w.heap.size w w'):w'.ownsRow base e size v n xs :=
 World.ownsRow.kept (row:=none) h ⟨a.os,a.tape,a.output,a.size,fun k b _=>a.block k b⟩ (by cases v.ownBlock <;> simp)
theorem qL {w:World} {base:Nat} {e:TypeId} {size:Nat} {a:Addr} {n c j:Nat} {xs:List Value} {u:Value} (h:w.ownsRow base e size (.slice (some a) n c) n xs) (b:xs[j]? = some u):∃ g,a=⟨g,0,none⟩/\w.cell? ⟨g,j,none⟩=some u:=by
 rcases h.2 with ⟨h,_⟩ | ⟨g,m,d,f,_,l,_,_,_,k⟩
 · cases h
 · simp only [Value.slice.injEq,Option.some.injEq] at f
   obtain ⟨rfl,_,_⟩:=f;refine ⟨g,rfl,?_⟩;rw [cell_of_row w g j d e (0,0) l];rw [<- k,List.getElem?_take] at b;split at b
   · simpa using b
   · cases b
section
theorem mP {w:World} {B C:Nat} {e:TypeId} {size:Nat} {v:Value} {n:Nat} {xs:List Value} (h:w.ownsRow B e size v n xs) (d:C<=B):w.ownsRow C e size v n xs:=by
 refine ⟨h.1,?_⟩;rcases h.2 with a | ⟨g,c,b,a,f,rest⟩
 · exact .inl a
 · exact .inr ⟨g,c,b,a,by omega,rest⟩
theorem eL {w:World} {B m size:Nat} {e:TypeId} {v:Value} {xs:List Value} (h:w.ownsRow B e size v m xs):∃ a c,v=.slice a m c:=by
 rcases h.2 with ⟨rfl,b⟩ | ⟨g,d,_,rfl,_⟩
 · rw [b];exact ⟨_,_,rfl⟩
 · exact ⟨_,_,rfl⟩
theorem JR {w w':World} {row:Option Nat} (h:w.grownBy w' none):w.grownBy w' row:=⟨h.os,h.tape,h.output,h.size,fun k a _=>h.block k a (by simp)⟩
variable {P : Program}
theorem pB {w:World} {base size:Nat} {t ty e:TypeId} {i:TypeInfo} {z:Value} {bytes:Nat} (E:P.underlying t=some (.slice e)) (G:P.info? e=some i) (hz:i.zero=some z) (f:i.size=size) (A:i.bytes=bytes) (s:z.cells.size=size) (l:0<size)
 {v:Value} {n m c:Nat} {a:Addr} {xs b:List Value} (d:w.ownsRow base e size v n xs) (hl:b.length=m*size) (hn:∀ j u,b[j]? = some u->w.cell? (a.add j)=some u) (C:∀ x∈b,x.oneCell'=true) (B:n+m<=maxLen) (h:(n+m)*bytes<=140737488355328) (k:base<=w.heap.size) :
 ∃ o w',(Builtin.append_ #[t,t] ty #[v,.slice (some a) m c]).run P w=.ok o w'/\w'.ownsRow base e size o (n+m) (xs++b)/\w.grownBy w' v.ownBlock/\∀ q,o.ownBlock=some q->v.ownBlock=some q\/w.heap.size<=q:=by
 rcases d.2 with ⟨rfl,rfl⟩ | ⟨g,r,R,rfl,N,S,H,M,L,D⟩
 · have hx:xs=[]:=List.eq_nil_of_length_eq_zero (by simpa using d.1)
   subst hx;obtain ⟨o,w',hr,r1,r2,_⟩:=run_append_own (P:=P) w w.heap.size t ty e i z size bytes E G hz f A s l (.slice none 0 0) 0 [] (World.ownsRow_nil w _ e size) a m c b hl hn C B h (Td _);exact ⟨o,w',hr,mP r1 k,r2,fun q y=>.inr (r1.lt q y).1⟩
 · by_cases p:n+m<=r
   · obtain ⟨w',hr,r1,r2⟩:=run_append_fits (P:=P) w base t ty e i size E G f g n r xs d a m c b hl hn C p
     exact ⟨_,w',hr,r1,r2,fun q y=>.inl y⟩
   · have ho:∀ j u,xs[j]? = some u->w.cell? ((⟨g,0,none⟩:Addr).add j)=some u:=fun j u I=>by
      rw [Addr.add_lit,Nat.zero_add];obtain ⟨T,C,O⟩:=qL d I;simp only [Addr.mk.injEq,and_true] at C;subst C;exact O
     obtain ⟨o,w',hr,r1,r2⟩:=run_append_arg_grows (P:=P) w t ty e i z size bytes E G hz f A s l ⟨g,0,none⟩ n r xs d.1 ho a m c b hl hn (by omega) B h;exact ⟨o,w',hr,mP r1 k,JR r2,fun q y=>.inr (r1.lt q y).1⟩
theorem aS {ops:Array Oper} {rest:List Oper} {o:Oper} {a:Act} {w:World} {Q:Exit->Act->World->Prop}
 (g:o.guard=none) (s x:Operand) (t:TypeId) (d:o.op=Op.call { callee:=Callee.builtin Builtin.append,args:=#[s,x],argTypes:=#[t,t] })
 {base size:Nat} {e:TypeId} {i:TypeInfo} {z:Value} {bytes:Nat} (ht:P.underlying t=some (.slice e)) (hi:P.info? e=some i) (hz:i.zero=some z) (hsize:i.size=size) (hby:i.bytes=bytes) (hzs:z.cells.size=size) (hpos:0<size)
 (v:Value) (n m c:Nat) (ad:Addr) (xs news:List Value) (hs:a.eval s=v) (hx:a.eval x=.slice (some ad) m c) (hown:w.ownsRow base e size v n xs) (hl:news.length=m*size) (hn:∀ j u,news[j]? = some u->w.cell? (ad.add j)=some u) (h1:∀ x∈news,x.oneCell'=true) (h63:n+m<=maxLen) (hbytes:(n+m)*bytes<=140737488355328) (hbase:base<=w.heap.size)
 (hK:∀ b w',w'.ownsRow base e size b (n+m) (xs++news)->w.grownBy w' v.ownBlock->(∀ q,b.ownBlock=some q->v.ownBlock=some q\/w.heap.size<=q)->wpList P ops Q rest (a.put o.dst b) w') :
 wpList P ops Q (o::rest) a w:=by
 refine wpList_plain g fun K h=>?_
 obtain ⟨b,w',hr,ho,f,k⟩:=pB (P:=P) (ty:=o.type) (c:=c) ht hi hz hsize hby hzs hpos hown hl hn h1 h63 hbytes hbase;unfold Oper.wp;simp [execOp,d,resolve,invoke,builtin,hs,hx,hr,Result.andThen];exact h _ _ (hK _ _ ho f k)
end
def tkL (t:Tk):List Value:=[.int .i64 t.kind,.string ⟨t.text.toArray⟩,.int .i64 t.num,.int .i64 t.place]
def fV (ts:List Tk):List Value:=ts.flatMap tkL
theorem Hh:∀ (ts:List Tk) {j i:Nat} (a:j<ts.length),i<4->(fV ts)[j*4+i]? = (tkL ts[j])[i]?
 | [],_,_,a,_=>by simp at a
 | t :: ts, 0, i, _, hi => by
   show (tkL t++fV ts)[0*4+i]? = _;rw [Nat.zero_mul,Nat.zero_add,List.getElem?_append_left (by show i<4;exact hi)];rfl
 | t :: ts, j + 1, i, a, hi => by
   show (tkL t++fV ts)[(j+1)*4+i]? = _;rw [List.getElem?_append_right (by show 4<=_;omega)];have:=Hh ts (j:=j) (i:=i) (by simpa using a) hi;rw [show (j+1)*4+i-(tkL t).length=j*4+i by show _-4=_;omega,this];rfl
theorem lN (t:Tk):∀ u∈tkL t,u.oneCell'=true:=by
 intro u a;simp only [tkL,List.mem_cons,List.not_mem_nil,or_false] at a;rcases a with rfl | rfl | rfl | rfl <;> rfl
theorem iA (ts:List Tk) (t:Tk):fV (ts++[t])=fV ts++tkL t:=by unfold fV;simp
def gY (l:Tq):fR:=if 1024<l.length then .bad 0 4 else cR l 0
def xB (E:TypeId) (L:fR) (w:World) (e:Ending) (w':World):Prop:=Below w.heap.size w w' /\
 match L with
 | .bad p er=>e=.returned (.tuple #[.slice none 0 0,.int .i64 (p:Nat),.int .i64 er])
 | .ok ts=>∃ a c,e=.returned (.tuple #[.slice a ts.length c,.int .i64 0,.int .i64 0])/\w'.ownsRow w.heap.size E 4 (.slice a ts.length c) ts.length (fV ts)
theorem On:(prog.info? 261).map (fun i=>(i.zero,i.size,i.bytes))=some (some (.agg #[.int .i64 0,.string ⟨#[]⟩,.int .i64 0,.int .i64 0]),4,40):=by kernel_rfl
theorem BG {l:Tq} {e:Int} (h:bV l=.bad e):e=1\/e=2\/e=5:=by
 cases l with
 | nil=>cases h;exact .inr (.inl rfl)
 | cons c r =>
   simp only [bV] at h;split at h
   · unfold jM at h
     split at h
     · cases h;exact .inr (.inr rfl)
     · cases h
   · split at h
     · unfold l5 at h
       split at h
       · cases h;exact .inr (.inl rfl)
       · split at h
         · cases h;exact .inl rfl
         · cases h
     · unfold iF at h
       split at h
       · cases h;exact .inr (.inl rfl)
       · cases h
theorem vZ (s:Tr) (hm:s.size<=281474976710656) (w:World) (H:iE w):Calls prog 115 #[.string s] w (xB 261 (gY s.data.toList) w):=by
 have hl:s.data.toList.length=s.size:=by simp
 by_cases jg:1024<s.size
 · have P:=aA (show xB 261 (gY s.data.toList) w (.returned (.tuple #[.slice none 0 0,.int .i64 0,.int .i64 4])) w from by
    unfold gY;rw [if_pos (by omega)];exact ⟨Below.refl _ _,rfl⟩)
   clear hl;go_enter func115,ntmps115
   go_wp2_with fail
   go_ret3
   exact P.out
 obtain ⟨i0,hi,jc,jb,ja⟩:=info_parts On;have Z:prog.underlying 198=some (.slice 261):=underlying198;obtain ⟨L,S⟩:∃ L,s.data.toList=L:=⟨_,rfl⟩;have SK:=aA (p:=∀ (p:Nat) (hp:p<=s.size) w,Calls prog 175 #[.string s,.int .i64 p] w fun e w'=>e=.returned (.int .i64 ((p+bR (· == 32) (L.drop p):Nat):Int))/\w=w') (fun p hp w=>by rw [<- S];exact Jo s p hp hm w)
 have FI:=aA (p:=∀ (p:Nat) (hp:p<s.size) w (H:iE w),Calls prog 176 #[.string (s.extract p s.size)] w fun e w'=>e=.returned (xS (L.drop p) (bV (L.drop p)))/\Below w.heap.size w w') (fun p hp w H=>by
  rw [<- S, <- qN];exact Gh (s.extract p s.size) (by rw [ByteArray.size_extract];omega) (by rw [ByteArray.size_extract];omega) w H)
 have O:L.length=s.size:=by rw [<- S];exact hl
 have b:∀ p,p<=s.size->p+bR (· == 32) (L.drop p)<=s.size:=fun p hp=>by
  have:=uC (· == 32) (L.drop p);rw [List.length_drop] at this;omega
 have a:∀ p,p<=s.size->cR (L.drop p) p=cR (L.drop (p+bR (· == 32) (L.drop p))) (p+bR (· == 32) (L.drop p)):=fun p _=>by
  rw [Mn,List.drop_drop]
 have c:∀ p,¬ (L.drop (p+bR (· == 32) (L.drop p))).head? = some 32:=fun p=>by
  rw [<- List.drop_drop];exact II _
 have y:gY s.data.toList=cR L 0:=by
  unfold gY;rw [if_neg (by omega),S]
 rw [y];obtain ⟨E,x⟩:∃ E,cR L 0=E:=⟨_,rfl⟩;rw [x]
 have K0:=aA (show cR (L.drop (0+bR (· == 32) (L.drop 0))) (0+bR (· == 32) (L.drop 0))=E by
  rw [<- x, <- a 0 (by omega),List.drop_zero])
 have H0:=aA (c 0);have N0:=b 0 (by omega);have D0:=aA (SK.out 0 (by omega));obtain ⟨k0,M⟩:∃ k0,0+bR (· == 32) (L.drop 0)=k0:=⟨_,rfl⟩;rw [M] at K0 H0 N0 D0;have ji:=aA b;have jh:=aA a;have jj:=aA c;have HW:=aA H;have l:=aA O;clear y x M b a c S hl H O;go_enter func115,ntmps115
 go_wp2_with (go_at_call 175;refine (D0.out _).mono ?_;rintro e w' ⟨rfl,rfl⟩)
 go_loopw [5,6] (fun v i wr=>∃ (k:Nat) (B:Tp) (vc:Nat) (T:List Tk),v=.slice B T.length vc/\i=.int .i64 k/\k<=s.size/\T.length<=k/\Hid (¬ (L.drop k).head? = some 32)/\Hid ((cR (L.drop k) k).after T=E)/\Hid (wr.ownsRow w.heap.size 261 4 (.slice B T.length vc) T.length (fV T))/\Hid (Below w.heap.size w wr)) (fun _ i _=>s.size-(intOf i).toNat)
 case atStart=>exact ⟨k0,none,0,[],rfl,rfl,N0,by simp,H0,aA (by rw [rI];exact K0.out),aA (World.ownsRow_nil _ _ _ _),aA (Below.refl _ _)⟩
 case round =>
  obtain ⟨k,B,vc,T,rfl,rfl,hk,jn,hH,y,hO,z⟩:=hrel;by_cases jf:k<s.size
  · have o:¬ L.drop k=[]:=by
     intro e;have:=congrArg List.length e;rw [List.length_drop,l.out,List.length_nil] at this;omega
    have LW:=aA (HW.out.step z.out);have F:=aA (FI.out k jf wr LW.out);rcases Bm (L.drop k) k hH.out with ⟨h,_⟩ | ⟨er,_,C,hx⟩ | ⟨kd,n,d,_,C,jl,je,hx⟩
    · exact absurd h o
    · have q:((er:Int) != 0)=true:=by rcases BG C with h | h | h <;> rw [h] <;> decide
      have R:=aA (show E=.bad k er by rw [<- y.out,hx];rfl);have V:=aA (p:=Calls prog 176 #[.string (s.extract k s.size)] wr fun e w'=>e=.returned (.tuple #[tkV 0 ⟨#[]⟩ 0 0,.int .i64 er])/\Below wr.heap.size wr w') (by have:=F.out;rw [C] at this;exact this);clear C hx o F;go_wp2_with fail
      refine V.out.mono ?_;rintro e f ⟨rfl,r⟩;have hz:=z.out.size;have D:=aA (z.out.trans (r.mono hz));clear r;go_wp2_with fail
      go_ret3
      rw [R.out];exact ⟨D.out.alloc D.out.size _,rfl⟩
    · have V:=aA (p:=Calls prog 176 #[.string (s.extract k s.size)] wr fun e w'=>e=.returned (.tuple #[tkV kd ⟨((L.drop k).take n).toArray⟩ d 0,.int .i64 0])/\Below wr.heap.size wr w') (by have:=F.out;rw [C] at this;exact this)
      rw [List.length_drop,l.out] at je;obtain ⟨t,ht⟩:∃ t:Tk,t=⟨kd,(L.drop k).take n,d,k⟩:=⟨_,rfl⟩
      have jd:(⟨((L.drop k).take n).toArray⟩:Tr).size=n:=by
       show ((L.drop k).take n).toArray.size=n;rw [List.size_toArray,Th,List.length_drop,l.out];omega
      have U:=aA (show (cR (L.drop (k+n)) (k+n)).after (T++[t])=E by
       rw [<- y.out,hx,gD,List.drop_drop,ht])
      obtain ⟨X,hX⟩:∃ X:Tr,⟨((L.drop k).take n).toArray⟩=X:=⟨_,rfl⟩;rw [hX] at V jd;have g:=aA (show tkL t=[.int .i64 kd,.string X,.int .i64 d,.int .i64 k] by rw [ht, <- hX];rfl);have hz:=z.out.size;have D1:=aA (SK.out (k+n) (by omega));have N1:=ji.out (k+n) (by omega);have H1:=aA (jj.out (k+n));have E1:=aA (jh.out (k+n) (by omega));obtain ⟨m,I⟩:∃ m,k+n+bR (· == 32) (L.drop (k+n))=m:=⟨_,rfl⟩;have jm:k+n<=m:=by omega
      rw [I] at D1 N1 H1 E1;have E3:=aA (show (cR (L.drop m) m).after (T++[t])=E by rw [<- E1.out];exact U.out);clear C hx o F ht U hX I E1;go_wp2_with fail
      refine V.out.mono ?_;rintro e f ⟨rfl,r⟩;have D:=aA (z.out.trans (r.mono hz));have O1:=aA (cK hO.out r);have jk:=r.size;have B2:=aA (show Below w.heap.size w (f.alloc (tkO kd X d k)) from D.out.alloc D.out.size _);have OA:=aA (show ((f.alloc (tkO kd X d k)).alloc (tkO kd X d k)).ownsRow w.heap.size 261 4 (.slice B T.length vc) T.length (fV T) from (O1.out.alloc _).alloc _)
      have NA:=aA (p:=∀ j u,(tkL t)[j]? = some u->((f.alloc (tkO kd X d k)).alloc (tkO kd X d k)).cell? ((⟨f.heap.size+1,0,none⟩:Addr).add j)=some u) (fun j u hj=>by
       rw [g.out] at hj;rw [Addr.add_lit,Nat.zero_add,cell_of_row _ _ _ _ _ (0,0) (show ((f.alloc (tkO kd X d k)).alloc (tkO kd X d k)).heap[f.heap.size+1]? = some (tkO kd X d k) by have:=heap_alloc_new (f.alloc (tkO kd X d k)) (tkO kd X d k);rwa [Tc] at this)];simpa using hj)
      have CB:=aA (show ((f.alloc (tkO kd X d k)).alloc (tkO kd X d k)).heap[f.heap.size]? = some (tkO kd X d k) from (Below.heap_alloc _ _ _ (by rw [Tc];omega)).trans (heap_alloc_new f _));have BA:=aA (show w.heap.size<=((f.alloc (tkO kd X d k)).alloc (tkO kd X d k)).heap.size by rw [Tc,Tc];omega);have A:=aA (fun q hq=>O1.out.lt q hq);clear r;go_wp2_with (at_builtin;refine aS rfl _ _ 198 rfl (base:=w.heap.size) Z hi jc jb ja rfl (by decide) (.slice B T.length vc) T.length 1 1 ⟨f.heap.size+1,0,none⟩ (fV T) (tkL t) rfl rfl OA.out rfl NA.out (lN _) (by unfold maxLen;omega) (by omega) BA.out ?_)
      intro v6 Y ho hg _;obtain ⟨G,c6,rfl⟩:=eL ho;have B6:=aA (show Below w.heap.size w Y from (B2.out.alloc B2.out.size _).grown hg BA.out (fun q hq=>(A.out q hq).1));have O6:=aA (show Y.ownsRow w.heap.size 261 4 (.slice G (T++[t]).length c6) (T++[t]).length (fV (T++[t])) by rw [iA,Tb];exact ho)
      have C6:Y.heap[f.heap.size]? = some (tkO kd X d k):=by
       rw [hg.block f.heap.size (aG CB.out) (fun e=>by have:=(A.out _ e.symm).2;omega)];exact CB.out
      obtain ⟨⟨m0,m1,m2,m3⟩, -⟩:=aL C6;rw [show T.length+1=(T++[t]).length by rw [Tb];rfl];have N:(T++[t]).length<=m:=by rw [Tb];show T.length+1<=m;omega
      generalize T++[t]=T2 at E3 O6 N;clear ho hg OA NA CB BA A C6 O1 D B2 hO z y;go_wp2_with (go_at_call 175;refine (D1.out _).mono ?_;rintro e w' ⟨rfl,rfl⟩)
      go_roundw
      case rel=>exact ⟨m,G,c6,T2,rfl,by go_num,N1,N,H1,E3,O6,B6⟩
      case measure=>simp [intOf];omega
  · obtain rfl:k=s.size:=by omega
    have R:=aA (show E=.ok T by
     rw [<- y.out,List.drop_of_length_le (by rw [l.out];exact Td _),j0];simp [fR.after])
    go_wp2_with fail
    go_ret3
    rw [R.out];exact ⟨z.out,B,vc,rfl,hO.out⟩
structure RS where
 pos:Nat
 cnt:Nat
 bad:Int
 whr:Nat
def aQ (e:Int) (s:RS):RS:=if s.bad=0 then ⟨s.pos,s.cnt,e,s.pos⟩ else s
def aJ (s:RS):RS:=if s.bad=0 then (if 32<s.cnt+1 then ⟨s.pos+1,s.cnt+1,4,s.pos⟩ else ⟨s.pos+1,s.cnt+1,0,s.whr⟩) else ⟨s.pos+1,s.cnt,s.bad,s.whr⟩
def aM (s:RS):RS:=⟨s.pos+1,s.cnt,s.bad,s.whr⟩
def isS (L:List Tk) (x:Tq) (p:Nat):Bool:=match L[p]? with
 | some t=>t.kind == 3 && t.text == x
 | none=>false
def isM (L:List Tk) (p:Nat):Bool:=isS L [42] p || isS L [47] p || isS L [37] p
def isA (L:List Tk) (p:Nat):Bool:=isS L [43] p || isS L [45] p
def eA (L:List Tk) (p:Nat):Tq:=match L[p]? with
 | some t=>t.text
 | none=>[]
def dS (L:List Tk) (s:RS):RS:=aM (if (s.bad == 0 && !isS L [41] s.pos)=true then aQ 2 s else s)
def aD:TN:=⟨⟨#[]⟩,⟨#[]⟩,0,.nil⟩
def tH (v:Int):TN:=⟨⟨#[110,117,109]⟩,⟨#[]⟩,v,.nil⟩
def fE (x:Tq):TN:=⟨⟨#[110,97,109,101]⟩,⟨x.toArray⟩,0,.nil⟩
def pG (k:TN):TN:=⟨⟨#[110,101,103]⟩,⟨#[]⟩,0,k.f⟩
def fG (o:Tq) (a b:TN):TN:=⟨⟨o.toArray⟩,⟨#[]⟩,0,.cons a.op a.nm a.n a.ks b.f⟩
inductive Md | fac | prod | sum | prodL (n:TN) | sumL (n:TN)
def pr (L:List Tk):Nat->Md->RS->TN×RS
 | 0,_,s=>(aD,s)
 | f + 1, .fac, s =>
   if s.bad=0 then
    match L[s.pos]? with
    | none=>(aD,aQ 2 s)
    | some t =>
      if t.kind=2 then (tH t.num,aJ s)
      else if t.kind=1 then (fE t.text,aJ s)
      else if t.text=[45] then (pG (pr L f .fac (aJ s)).1,(pr L f .fac (aJ s)).2)
      else if t.text=[40] then ((pr L f .sum (aM s)).1,dS L (pr L f .sum (aM s)).2)
      else (aD,aQ 2 s)
   else (aD,s)
 | f+1,.prod,s=>pr L f (.prodL (pr L f .fac s).1) (pr L f .fac s).2
 | f+1,.prodL n,s=>if (s.bad == 0 && isM L s.pos)=true then pr L f (.prodL (fG (eA L s.pos) n (pr L f .fac (aJ s)).1)) (pr L f .fac (aJ s)).2 else (n,s)
 | f+1,.sum,s=>pr L f (.sumL (pr L f .prod s).1) (pr L f .prod s).2
 | f+1,.sumL n,s=>if (s.bad == 0 && isA L s.pos)=true then pr L f (.sumL (fG (eA L s.pos) n (pr L f .prod (aJ s)).1)) (pr L f .prod (aJ s)).2 else (n,s)
theorem lH (e:Int) (s:RS):(aQ e s).pos=s.pos:=by unfold aQ;split <;> rfl
theorem cI (s:RS):(aJ s).pos=s.pos+1:=by
 unfold aJ;split
 · split <;> rfl
 · rfl
theorem BP (L:List Tk) (s:RS):(dS L s).pos=s.pos+1:=by
 unfold dS aM;split
 · show (aQ 2 s).pos+1=_
   rw [lH]
 · rfl
theorem dR (L:List Tk):∀ (f:Nat) (md:Md) (s:RS),s.pos<=(pr L f md s).2.pos
 | 0,_,s=>Td _
 | f + 1, .fac, s => by
   rw [pr];by_cases c:s.bad=0
   · rw [if_pos c]
     cases L[s.pos]? with
     | none=>simp only;rw [lH];exact Td _
     | some t =>
       simp only;by_cases d:t.kind=2
       · rw [if_pos d];simp only;rw [cI];omega
       rw [if_neg d];by_cases g:t.kind=1
       · rw [if_pos g];simp only;rw [cI];omega
       rw [if_neg g];by_cases a:t.text=[45]
       · rw [if_pos a];simp only
         have:=dR L f .fac (aJ s);rw [cI] at this;omega
       rw [if_neg a];by_cases b:t.text=[40]
       · rw [if_pos b];simp only
         have:=dR L f .sum (aM s);rw [BP];have e:(aM s).pos=s.pos+1:=rfl;omega
       rw [if_neg b];simp only;rw [lH];exact Td _
   · rw [if_neg c];exact Td _
 | f + 1, .prod, s => by
   rw [pr];exact Nat.le_trans (dR L f .fac s) (dR L f _ _)
 | f + 1, .prodL n, s => by
   rw [pr];split
   · refine Nat.le_trans ?_ (dR L f _ _)
     have:=dR L f .fac (aJ s);rw [cI] at this;omega
   · exact Td _
 | f + 1, .sum, s => by
   rw [pr];exact Nat.le_trans (dR L f .prod s) (dR L f _ _)
 | f + 1, .sumL n, s => by
   rw [pr];split
   · refine Nat.le_trans ?_ (dR L f _ _)
     have:=dR L f .prod (aJ s);rw [cI] at this;omega
   · exact Td _
def bO (m:Nat):Md->Nat
 | .fac=>4*m+1
 | .prod=>4*m+2
 | .prodL _=>4*m+1
 | .sum=>4*m+3
 | .sumL _=>4*m+1
theorem gN {L:List Tk} {x:Tq} {p:Nat} (h:isS L x p=true):p<L.length:=by
 unfold isS at h;cases e:L[p]? with
 | none=>rw [e] at h;cases h
 | some t=>exact (List.getElem?_eq_some_iff.1 e).1
theorem pJ {L:List Tk} {p:Nat} (h:isM L p=true):p<L.length:=by
 unfold isM at h;simp only [Bool.or_eq_true] at h;rcases h with (h | h) | h <;> exact gN h
theorem pK {L:List Tk} {p:Nat} (h:isA L p=true):p<L.length:=by
 unfold isA at h;simp only [Bool.or_eq_true] at h;rcases h with h | h <;> exact gN h
theorem gV (L:List Tk):∀ (f g:Nat) (md:Md) (s:RS),bO (L.length-s.pos) md<=f->f<=g->pr L g md s=pr L f md s
 | 0,_,md,s,h,_=>by cases md <;> simp [bO] at h
 | f+1,0,_,_,_,h=>by omega
 | f + 1, g + 1, .fac, s, h, hg => by
   simp only [bO] at h;rw [pr,pr];by_cases c:s.bad=0
   · rw [if_pos c,if_pos c]
     cases e:L[s.pos]? with
     | none=>rfl
     | some t =>
       have b:=(List.getElem?_eq_some_iff.1 e).1;have j:=gV L f g .fac (aJ s) (by rw [cI];simp only [bO];omega) (by omega);have d:=gV L f g .sum (aM s) (by show bO (L.length-(s.pos+1)) _<=f;simp only [bO];omega) (by omega);rw [j,d]
   · rw [if_neg c,if_neg c]
 | f + 1, g + 1, .prod, s, h, hg => by
   simp only [bO] at h;rw [pr,pr];rw [gV L f g .fac s (by simp only [bO];omega) (by omega)];have hp:=dR L f .fac s;exact gV L f g _ _ (by simp only [bO];omega) (by omega)
 | f + 1, g + 1, .prodL n, s, h, hg => by
   simp only [bO] at h;rw [pr,pr];by_cases a:(s.bad == 0 && isM L s.pos)=true
   · rw [if_pos a,if_pos a]
     have b:=pJ (by simp only [Bool.and_eq_true] at a;exact a.2);rw [gV L f g .fac (aJ s) (by rw [cI];simp only [bO];omega) (by omega)];have hp:=dR L f .fac (aJ s);rw [cI] at hp;exact gV L f g _ _ (by simp only [bO];omega) (by omega)
   · rw [if_neg a,if_neg a]
 | f + 1, g + 1, .sum, s, h, hg => by
   simp only [bO] at h;rw [pr,pr];rw [gV L f g .prod s (by simp only [bO];omega) (by omega)];have hp:=dR L f .prod s;exact gV L f g _ _ (by simp only [bO];omega) (by omega)
 | f + 1, g + 1, .sumL n, s, h, hg => by
   simp only [bO] at h;rw [pr,pr];by_cases a:(s.bad == 0 && isA L s.pos)=true
   · rw [if_pos a,if_pos a]
     have b:=pK (by simp only [Bool.and_eq_true] at a;exact a.2);rw [gV L f g .prod (aJ s) (by rw [cI];simp only [bO];omega) (by omega)];have hp:=dR L f .prod (aJ s);rw [cI] at hp;exact gV L f g _ _ (by simp only [bO];omega) (by omega)
   · rw [if_neg a,if_neg a]
def pE (L:List Tk) (md:Md) (s:RS):TN×RS:=pr L (4*(L.length-s.pos)+4) md s
theorem rS {L:List Tk} {f:Nat} {md:Md} {s:RS} (h:bO (L.length-s.pos) md<=f):pr L f md s=pE L md s:=by
 have a:bO (L.length-s.pos) md<=4*(L.length-s.pos)+4:=by cases md <;> simp [bO]
 unfold pE;rcases Nat.le_total f (4*(L.length-s.pos)+4) with h1 | h1
 · exact (gV L _ _ md s h h1).symm
 · exact gV L _ _ md s a h1
theorem lC (L:List Tk) (md:Md) (s:RS):s.pos<=(pE L md s).2.pos:=dR L _ md s
theorem iZ (L:List Tk) (s:RS):pE L .fac s=if s.bad=0 then
 match L[s.pos]? with
 | none=>(aD,aQ 2 s)
 | some t =>
   if t.kind=2 then (tH t.num,aJ s)
   else if t.kind=1 then (fE t.text,aJ s)
   else if t.text=[45] then (pG (pE L .fac (aJ s)).1,(pE L .fac (aJ s)).2)
   else if t.text=[40] then ((pE L .sum (aM s)).1,dS L (pE L .sum (aM s)).2)
   else (aD,aQ 2 s)
 else (aD,s):=by
 unfold pE;rw [pr];by_cases a:s.bad=0
 · rw [if_pos a,if_pos a]
   cases e:L[s.pos]? with
   | none=>rfl
   | some t =>
     have b:=(List.getElem?_eq_some_iff.1 e).1;have d:=rS (L:=L) (f:=4*(L.length-s.pos)+3) (md:=.fac) (s:=aJ s) (by rw [cI];simp only [bO];omega);have c:=rS (L:=L) (f:=4*(L.length-s.pos)+3) (md:=.sum) (s:=aM s) (by show bO (L.length-(s.pos+1)) _<=_;simp only [bO];omega);simp only;rw [d,c];rfl
 · rw [if_neg a,if_neg a]
theorem wT (L:List Tk) (s:RS):pE L .prod s=pE L (.prodL (pE L .fac s).1) (pE L .fac s).2:=by
 conv=>lhs;unfold pE
 rw [pr,rS (md:=.fac) (by simp only [bO];omega)];have hp:=lC L .fac s;exact rS (by simp only [bO];omega)
theorem gR (L:List Tk) (n:TN) (s:RS):pE L (.prodL n) s=if (s.bad == 0 && isM L s.pos)=true then pE L (.prodL (fG (eA L s.pos) n (pE L .fac (aJ s)).1)) (pE L .fac (aJ s)).2 else (n,s):=by
 conv=>lhs;unfold pE
 rw [pr];by_cases a:(s.bad == 0 && isM L s.pos)=true
 · rw [if_pos a,if_pos a]
   have b:=pJ (by simp only [Bool.and_eq_true] at a;exact a.2);rw [rS (md:=.fac) (by rw [cI];simp only [bO];omega)];have hp:=lC L .fac (aJ s);rw [cI] at hp;exact rS (by simp only [bO];omega)
 · rw [if_neg a,if_neg a]
theorem FX (L:List Tk) (s:RS):pE L .sum s=pE L (.sumL (pE L .prod s).1) (pE L .prod s).2:=by
 conv=>lhs;unfold pE
 rw [pr,rS (md:=.prod) (by simp only [bO];omega)];have hp:=lC L .prod s;exact rS (by simp only [bO];omega)
theorem lO (L:List Tk) (n:TN) (s:RS):pE L (.sumL n) s=if (s.bad == 0 && isA L s.pos)=true then pE L (.sumL (fG (eA L s.pos) n (pE L .prod (aJ s)).1)) (pE L .prod (aJ s)).2 else (n,s):=by
 conv=>lhs;unfold pE
 rw [pr];by_cases a:(s.bad == 0 && isA L s.pos)=true
 · rw [if_pos a,if_pos a]
   have b:=pK (by simp only [Bool.and_eq_true] at a;exact a.2);rw [rS (md:=.prod) (by rw [cI];simp only [bO];omega)];have hp:=lC L .prod (aJ s);rw [cI] at hp;exact rS (by simp only [bO];omega)
 · rw [if_neg a,if_neg a]
inductive Iq | bad (p:Nat) (e:Int) | ok (t:TN) (p:Nat)
def ofL (L:List Tk) (p:Nat):Iq:=if (pE L .sum ⟨p,0,0,0⟩).2.bad=0 then .ok (pE L .sum ⟨p,0,0,0⟩).1 (pE L .sum ⟨p,0,0,0⟩).2.pos else .bad (pE L .sum ⟨p,0,0,0⟩).2.whr (pE L .sum ⟨p,0,0,0⟩).2.bad
def eY (n:Nat) (L:List Tk) (p:Nat):Nat:=match L[p]? with
 | some t=>t.place
 | none=>n
def fQ (w:World) (a:Tp) (ts:List Tk):Prop :=
 ts=[]\/∃ b off,a=some ⟨b,off,none⟩/\b<w.heap.size/\∀ j (h:j<ts.length),w.cell? ⟨b,off+j*4,none⟩=some (.int .i64 ts[j].kind)/\w.cell? ⟨b,off+j*4+1,none⟩=some (.string ⟨ts[j].text.toArray⟩) /\
  w.cell? ⟨b,off+j*4+2,none⟩=some (.int .i64 ts[j].num)/\w.cell? ⟨b,off+j*4+3,none⟩=some (.int .i64 ts[j].place)
theorem fQ.kept {w w':World} {a:Tp} {ts:List Tk} (h:fQ w a ts) (d:Below w.heap.size w w'):fQ w' a ts:=by
 rcases h with h | ⟨b,off,rfl,c,g⟩
 · exact .inl h
 · refine .inr ⟨b,off,rfl,Nat.lt_of_lt_of_le c d.size,fun j f=>?_⟩
   obtain ⟨k,c1,c2,c3⟩:=g j f;exact ⟨(d.cell (p:=⟨b,_,none⟩) c).trans k,(d.cell (p:=⟨b,_,none⟩) c).trans c1,(d.cell (p:=⟨b,_,none⟩) c).trans c2,(d.cell (p:=⟨b,_,none⟩) c).trans c3⟩
theorem r9 {w:World} {B:Nat} {E:TypeId} {a:Tp} {c:Nat} {ts:List Tk} (h:w.ownsRow B E 4 (.slice a ts.length c) ts.length (fV ts)):fQ w a ts:=by
 have o:=h;rcases h.2 with ⟨hs,hn⟩ | ⟨g,q,p,hs,_,m,_⟩
 · exact .inl (Tg.1 hn)
 · simp only [Value.slice.injEq] at hs
   obtain ⟨rfl,_,rfl⟩:=hs
   have cell:∀ j i u,j<ts.length->i<4->(fV ts)[j*4+i]? = some u->w.cell? ⟨g,0+j*4+i,none⟩=some u:=fun j i u d k l=>by
    obtain ⟨r,f,n⟩:=qL o l;simp only [Addr.mk.injEq,and_true] at f;subst f;rw [Nat.zero_add];exact n
   refine .inr ⟨g,0,rfl,aG m,fun j d=>?_⟩;have b:∀ i,i<4->(fV ts)[j*4+i]? = (tkL ts[j])[i]? := fun i k=>Hh ts d k
   exact ⟨cell j 0 _ d (by omega) (b 0 (by omega)),cell j 1 _ d (by omega) (b 1 (by omega)),cell j 2 _ d (by omega) (b 2 (by omega)),cell j 3 _ d (by omega) (b 3 (by omega))⟩
end Go.Proofs.YtgfkjkokmcejbaaGreatDoor
