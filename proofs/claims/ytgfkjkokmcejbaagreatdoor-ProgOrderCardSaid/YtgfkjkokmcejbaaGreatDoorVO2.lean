/-
 No statement: what ProgOrderLift needs, of the texts OE2, OE3, OE6.
-/
import Derived.Test.YtgfkjkokmcejbaaGreatDoorVO1
set_option maxHeartbeats 40000000
set_option maxRecDepth 100000
namespace Go.Proofs.YtgfkjkokmcejbaaGreatDoor
open Go.RowKit
section
section
open Go.RowKit
theorem Nu (s:ByteArray) (_h1:1<=s.size) (hm:s.size<=281474976710656) (w:World) {n:Nat} (hn:cE aY s.data.toList=n) (_hle:n<=s.size) (a1:1<n) (a2:((s[0].toNat:Int) == 48)=true):Calls Tryz.prog 215 #[.string s] w fun e w'=>e=.returned (.tuple #[tkV 0 ⟨#[]⟩ 0 0,.int .i64 2])/\Below w.heap.size w w':=by
 have C:=aA (p:=∀ w,Calls Tryz.prog 239 #[.string s,.func (.func 214) #[] #[]] w fun e w'=>e=.returned (.int .i64 (n:Int))/\w=w') (fun w=>by have:=dW s hm w;rwa [hn] at this);clear hn;go_enter Tryz.func215,Tryz.ntmps215
 go_wp2_with ((go_at_call 239;refine (C.out _).mono ?_;rintro e w' ⟨rfl,rfl⟩))
 refine bodyPost_ret (v:=.tuple #[tkV 0 ⟨#[]⟩ 0 0,.int .i64 2]) (by simp [results,Tryz.results215,go_sem]) rfl ⟨rfl,?_⟩;exact bA0 _ _
theorem MS (s:ByteArray) (_h1:1<=s.size) (hm:s.size<=281474976710656) (w:World) {n:Nat} (hn:cE aY s.data.toList=n) (_hle:n<=s.size) (a1:¬ 1<n) (b1:n<s.size) (b2:cH s[n]=true):Calls Tryz.prog 215 #[.string s] w fun e w'=>e=.returned (.tuple #[tkV 0 ⟨#[]⟩ 0 0,.int .i64 2])/\Below w.heap.size w w':=by
 have C:=aA (p:=∀ w,Calls Tryz.prog 239 #[.string s,.func (.func 214) #[] #[]] w fun e w'=>e=.returned (.int .i64 (n:Int))/\w=w') (fun w=>by have:=dW s hm w;rwa [hn] at this);have D:=aA (p:=∀ w,Calls Tryz.prog 212 #[.int .u8 s[n].toNat] w fun e w'=>e=.returned (.bool true)/\w=w') (fun w=>by have:=dS s[n] w;rwa [b2] at this);clear b2;clear hn;go_enter Tryz.func215,Tryz.ntmps215
 go_wp2_with (first | (go_at_call 239;refine (C.out _).mono ?_;rintro e w' ⟨rfl,rfl⟩) | (go_at_call 212;refine (D.out _).mono ?_;rintro e w' ⟨rfl,rfl⟩))
 refine bodyPost_ret (v:=.tuple #[tkV 0 ⟨#[]⟩ 0 0,.int .i64 2]) (by simp [results,Tryz.results215,go_sem]) rfl ⟨rfl,?_⟩;exact bA0 _ _
theorem MR (s:ByteArray) (_h1:1<=s.size) (hm:s.size<=281474976710656) (w:World) {n:Nat} (hn:cE aY s.data.toList=n) (_hle:n<=s.size) (a1:1<n) (a2:((s[0].toNat:Int) == 48)=false) (b1:n<s.size) (b2:cH s[n]=true):Calls Tryz.prog 215 #[.string s] w fun e w'=>e=.returned (.tuple #[tkV 0 ⟨#[]⟩ 0 0,.int .i64 2])/\Below w.heap.size w w':=by
 have C:=aA (p:=∀ w,Calls Tryz.prog 239 #[.string s,.func (.func 214) #[] #[]] w fun e w'=>e=.returned (.int .i64 (n:Int))/\w=w') (fun w=>by have:=dW s hm w;rwa [hn] at this);have D:=aA (p:=∀ w,Calls Tryz.prog 212 #[.int .u8 s[n].toNat] w fun e w'=>e=.returned (.bool true)/\w=w') (fun w=>by have:=dS s[n] w;rwa [b2] at this);clear b2;clear hn;go_enter Tryz.func215,Tryz.ntmps215
 go_wp2_with (first | (go_at_call 239;refine (C.out _).mono ?_;rintro e w' ⟨rfl,rfl⟩) | (go_at_call 212;refine (D.out _).mono ?_;rintro e w' ⟨rfl,rfl⟩))
 refine bodyPost_ret (v:=.tuple #[tkV 0 ⟨#[]⟩ 0 0,.int .i64 2]) (by simp [results,Tryz.results215,go_sem]) rfl ⟨rfl,?_⟩;exact bA0 _ _
theorem Ll (s:ByteArray) (_h1:1<=s.size) (hm:s.size<=281474976710656) (w:World) {n:Nat} (hn:cE aY s.data.toList=n) (_hle:n<=s.size) (a1:¬ 1<n) (b1:n<s.size) (b2:cH s[n]=false) {v:Int} (hp:Lib.parseIntB 64 (s.extract 0 n).data.toList=.ok v):Calls Tryz.prog 215 #[.string s] w fun e w'=>e=.returned (.tuple #[tkV 2 (s.extract 0 n) v 0,.int .i64 0])/\Below w.heap.size w w':=by
 have C:=aA (p:=∀ w,Calls Tryz.prog 239 #[.string s,.func (.func 214) #[] #[]] w fun e w'=>e=.returned (.int .i64 (n:Int))/\w=w') (fun w=>by have:=dW s hm w;rwa [hn] at this);have D:=aA (p:=∀ w,Calls Tryz.prog 212 #[.int .u8 s[n].toNat] w fun e w'=>e=.returned (.bool false)/\w=w') (fun w=>by have:=dS s[n] w;rwa [b2] at this);clear b2;have P:=aA (fun w=>qK (s.extract 0 n) v (by rw [ByteArray.size_extract];omega) hp w);have T:=aA (fun w=>gY 2 (s.extract 0 n) (by rw [ByteArray.size_extract];omega) w);clear hp;clear hn;go_enter Tryz.func215,Tryz.ntmps215
 go_wp2_with (first | (go_at_call 239;refine (C.out _).mono ?_;rintro e w' ⟨rfl,rfl⟩) | (go_at_call 212;refine (D.out _).mono ?_;rintro e w' ⟨rfl,rfl⟩))
 refine (P.out _).mono ?_;rintro e w1 ⟨rfl,hb⟩;have hB:=(hb.block w.heap.size (by simp)).trans (heap_alloc_new w _);have B1:=aA (show Below w.heap.size w w1 from (bA0 w _).trans (hb.mono (by simp)));have c0:=aA hB;clear hb;clear hB;go_wp2_with fail
 refine (T.out _).mono ?_;rintro e w2 ⟨rfl,hb⟩;have hlt:=aB c0.out;have hB:=(hb.block w.heap.size hlt).trans c0.out;have B2:=aA (show Below w.heap.size w w2 from B1.out.trans (hb.mono (by omega)));obtain ⟨⟨k0,k1,k2,k3⟩,g0,g1,g2,g3⟩:=aL hB;have c2:=aA hB;have hlt2:=aB hB;clear hb hB;go_wp2_with fail
 obtain ⟨⟨d0,d1,d2,d3⟩, -⟩:=aL (qT c2.out (.int .i64 2) (.string (s.extract 0 n)) (.int .i64 v) (.int .i64 0) (tkO 2 (s.extract 0 n) v 0));exact bodyPost_ret (v:=.tuple #[tkV 2 (s.extract 0 n) v 0,.int .i64 0]) (by simp [results,Tryz.results215,go_sem,d0,d1,d2,d3]) rfl ⟨rfl,(bM B2.out (Nat.le_refl _) _ _ _ _).alloc (by have:=(bM B2.out (Nat.le_refl w.heap.size) (.int .i64 2) (.string (s.extract 0 n)) (.int .i64 v) (.int .i64 0)).size;exact this) _⟩
theorem Lm (s:ByteArray) (_h1:1<=s.size) (hm:s.size<=281474976710656) (w:World) {n:Nat} (hn:cE aY s.data.toList=n) (_hle:n<=s.size) (a1:¬ 1<n) (b1:n<s.size) (b2:cH s[n]=false) (hw:gO w) (hp:∀ v,¬ Lib.parseIntB 64 (s.extract 0 n).data.toList=.ok v):Calls Tryz.prog 215 #[.string s] w fun e w'=>e=.returned (.tuple #[tkV 0 ⟨#[]⟩ 0 0,.int .i64 1])/\Below w.heap.size w w':=by
 have C:=aA (p:=∀ w,Calls Tryz.prog 239 #[.string s,.func (.func 214) #[] #[]] w fun e w'=>e=.returned (.int .i64 (n:Int))/\w=w') (fun w=>by have:=dW s hm w;rwa [hn] at this);have D:=aA (p:=∀ w,Calls Tryz.prog 212 #[.int .u8 s[n].toNat] w fun e w'=>e=.returned (.bool false)/\w=w') (fun w=>by have:=dS s[n] w;rwa [b2] at this);clear b2;have P:=aA (fun w (hw:gO w)=>lT (s.extract 0 n) (by rw [ByteArray.size_extract];omega) w hw hp);have hw:=aA hw;clear hp;clear hn;go_enter Tryz.func215,Tryz.ntmps215
 go_wp2_with (first | (go_at_call 239;refine (C.out _).mono ?_;rintro e w' ⟨rfl,rfl⟩) | (go_at_call 212;refine (D.out _).mono ?_;rintro e w' ⟨rfl,rfl⟩))
 refine (P.out _ (hw.out.step (bA0 w _))).mono ?_;rintro e w1 ⟨⟨nn,tp,pp,rfl⟩,hb⟩;have hB:=(hb.block w.heap.size (by simp)).trans (heap_alloc_new w _);have B1:=aA (show Below w.heap.size w w1 from (bA0 w _).trans (hb.mono (by simp)));have c0:=aA hB;clear hb;obtain ⟨⟨k0,k1,k2,k3⟩,g0,g1,g2,g3⟩:=aL hB;clear hB;go_wp2_with fail
 obtain ⟨⟨d0,d1,d2,d3⟩, -⟩:=aL (aU c0.out (.int .i64 0) (.string ⟨#[]⟩) (.int .i64 0) (.int .i64 0));exact bodyPost_ret (v:=.tuple #[tkV 0 ⟨#[]⟩ 0 0,.int .i64 1]) (by simp [results,Tryz.results215,go_sem,d0,d1,d2,d3]) rfl ⟨rfl,bM B1.out (Nat.le_refl _) _ _ _ _⟩
theorem Lj (s:ByteArray) (_h1:1<=s.size) (hm:s.size<=281474976710656) (w:World) {n:Nat} (hn:cE aY s.data.toList=n) (_hle:n<=s.size) (a1:1<n) (a2:((s[0].toNat:Int) == 48)=false) (b1:n<s.size) (b2:cH s[n]=false) {v:Int} (hp:Lib.parseIntB 64 (s.extract 0 n).data.toList=.ok v):Calls Tryz.prog 215 #[.string s] w fun e w'=>e=.returned (.tuple #[tkV 2 (s.extract 0 n) v 0,.int .i64 0])/\Below w.heap.size w w':=by
 have C:=aA (p:=∀ w,Calls Tryz.prog 239 #[.string s,.func (.func 214) #[] #[]] w fun e w'=>e=.returned (.int .i64 (n:Int))/\w=w') (fun w=>by have:=dW s hm w;rwa [hn] at this);have D:=aA (p:=∀ w,Calls Tryz.prog 212 #[.int .u8 s[n].toNat] w fun e w'=>e=.returned (.bool false)/\w=w') (fun w=>by have:=dS s[n] w;rwa [b2] at this);clear b2;have P:=aA (fun w=>qK (s.extract 0 n) v (by rw [ByteArray.size_extract];omega) hp w);have T:=aA (fun w=>gY 2 (s.extract 0 n) (by rw [ByteArray.size_extract];omega) w);clear hp;clear hn;go_enter Tryz.func215,Tryz.ntmps215
 go_wp2_with (first | (go_at_call 239;refine (C.out _).mono ?_;rintro e w' ⟨rfl,rfl⟩) | (go_at_call 212;refine (D.out _).mono ?_;rintro e w' ⟨rfl,rfl⟩))
 refine (P.out _).mono ?_;rintro e w1 ⟨rfl,hb⟩;have hB:=(hb.block w.heap.size (by simp)).trans (heap_alloc_new w _);have B1:=aA (show Below w.heap.size w w1 from (bA0 w _).trans (hb.mono (by simp)));have c0:=aA hB;clear hb;clear hB;go_wp2_with fail
 refine (T.out _).mono ?_;rintro e w2 ⟨rfl,hb⟩;have hlt:=aB c0.out;have hB:=(hb.block w.heap.size hlt).trans c0.out;have B2:=aA (show Below w.heap.size w w2 from B1.out.trans (hb.mono (by omega)));obtain ⟨⟨k0,k1,k2,k3⟩,g0,g1,g2,g3⟩:=aL hB;have c2:=aA hB;have hlt2:=aB hB;clear hb hB;go_wp2_with fail
 obtain ⟨⟨d0,d1,d2,d3⟩, -⟩:=aL (qT c2.out (.int .i64 2) (.string (s.extract 0 n)) (.int .i64 v) (.int .i64 0) (tkO 2 (s.extract 0 n) v 0));exact bodyPost_ret (v:=.tuple #[tkV 2 (s.extract 0 n) v 0,.int .i64 0]) (by simp [results,Tryz.results215,go_sem,d0,d1,d2,d3]) rfl ⟨rfl,(bM B2.out (Nat.le_refl _) _ _ _ _).alloc (by have:=(bM B2.out (Nat.le_refl w.heap.size) (.int .i64 2) (.string (s.extract 0 n)) (.int .i64 v) (.int .i64 0)).size;exact this) _⟩
theorem Lk (s:ByteArray) (_h1:1<=s.size) (hm:s.size<=281474976710656) (w:World) {n:Nat} (hn:cE aY s.data.toList=n) (_hle:n<=s.size) (a1:1<n) (a2:((s[0].toNat:Int) == 48)=false) (b1:n<s.size) (b2:cH s[n]=false) (hw:gO w) (hp:∀ v,¬ Lib.parseIntB 64 (s.extract 0 n).data.toList=.ok v):Calls Tryz.prog 215 #[.string s] w fun e w'=>e=.returned (.tuple #[tkV 0 ⟨#[]⟩ 0 0,.int .i64 1])/\Below w.heap.size w w':=by
 have C:=aA (p:=∀ w,Calls Tryz.prog 239 #[.string s,.func (.func 214) #[] #[]] w fun e w'=>e=.returned (.int .i64 (n:Int))/\w=w') (fun w=>by have:=dW s hm w;rwa [hn] at this);have D:=aA (p:=∀ w,Calls Tryz.prog 212 #[.int .u8 s[n].toNat] w fun e w'=>e=.returned (.bool false)/\w=w') (fun w=>by have:=dS s[n] w;rwa [b2] at this);clear b2;have P:=aA (fun w (hw:gO w)=>lT (s.extract 0 n) (by rw [ByteArray.size_extract];omega) w hw hp);have hw:=aA hw;clear hp;clear hn;go_enter Tryz.func215,Tryz.ntmps215
 go_wp2_with (first | (go_at_call 239;refine (C.out _).mono ?_;rintro e w' ⟨rfl,rfl⟩) | (go_at_call 212;refine (D.out _).mono ?_;rintro e w' ⟨rfl,rfl⟩))
 refine (P.out _ (hw.out.step (bA0 w _))).mono ?_;rintro e w1 ⟨⟨nn,tp,pp,rfl⟩,hb⟩;have hB:=(hb.block w.heap.size (by simp)).trans (heap_alloc_new w _);have B1:=aA (show Below w.heap.size w w1 from (bA0 w _).trans (hb.mono (by simp)));have c0:=aA hB;clear hb;obtain ⟨⟨k0,k1,k2,k3⟩,g0,g1,g2,g3⟩:=aL hB;clear hB;go_wp2_with fail
 obtain ⟨⟨d0,d1,d2,d3⟩, -⟩:=aL (aU c0.out (.int .i64 0) (.string ⟨#[]⟩) (.int .i64 0) (.int .i64 0));exact bodyPost_ret (v:=.tuple #[tkV 0 ⟨#[]⟩ 0 0,.int .i64 1]) (by simp [results,Tryz.results215,go_sem,d0,d1,d2,d3]) rfl ⟨rfl,bM B1.out (Nat.le_refl _) _ _ _ _⟩
theorem Lh (s:ByteArray) (_h1:1<=s.size) (hm:s.size<=281474976710656) (w:World) {n:Nat} (hn:cE aY s.data.toList=n) (_hle:n<=s.size) (a1:¬ 1<n) (b1:¬ n<s.size) {v:Int} (hp:Lib.parseIntB 64 (s.extract 0 n).data.toList=.ok v):Calls Tryz.prog 215 #[.string s] w fun e w'=>e=.returned (.tuple #[tkV 2 (s.extract 0 n) v 0,.int .i64 0])/\Below w.heap.size w w':=by
 have C:=aA (p:=∀ w,Calls Tryz.prog 239 #[.string s,.func (.func 214) #[] #[]] w fun e w'=>e=.returned (.int .i64 (n:Int))/\w=w') (fun w=>by have:=dW s hm w;rwa [hn] at this);have P:=aA (fun w=>qK (s.extract 0 n) v (by rw [ByteArray.size_extract];omega) hp w);have T:=aA (fun w=>gY 2 (s.extract 0 n) (by rw [ByteArray.size_extract];omega) w);clear hp;clear hn;go_enter Tryz.func215,Tryz.ntmps215
 go_wp2_with ((go_at_call 239;refine (C.out _).mono ?_;rintro e w' ⟨rfl,rfl⟩))
 refine (P.out _).mono ?_;rintro e w1 ⟨rfl,hb⟩;have hB:=(hb.block w.heap.size (by simp)).trans (heap_alloc_new w _);have B1:=aA (show Below w.heap.size w w1 from (bA0 w _).trans (hb.mono (by simp)));have c0:=aA hB;clear hb;clear hB;go_wp2_with fail
 refine (T.out _).mono ?_;rintro e w2 ⟨rfl,hb⟩;have hlt:=aB c0.out;have hB:=(hb.block w.heap.size hlt).trans c0.out;have B2:=aA (show Below w.heap.size w w2 from B1.out.trans (hb.mono (by omega)));obtain ⟨⟨k0,k1,k2,k3⟩,g0,g1,g2,g3⟩:=aL hB;have c2:=aA hB;have hlt2:=aB hB;clear hb hB;go_wp2_with fail
 obtain ⟨⟨d0,d1,d2,d3⟩, -⟩:=aL (qT c2.out (.int .i64 2) (.string (s.extract 0 n)) (.int .i64 v) (.int .i64 0) (tkO 2 (s.extract 0 n) v 0));exact bodyPost_ret (v:=.tuple #[tkV 2 (s.extract 0 n) v 0,.int .i64 0]) (by simp [results,Tryz.results215,go_sem,d0,d1,d2,d3]) rfl ⟨rfl,(bM B2.out (Nat.le_refl _) _ _ _ _).alloc (by have:=(bM B2.out (Nat.le_refl w.heap.size) (.int .i64 2) (.string (s.extract 0 n)) (.int .i64 v) (.int .i64 0)).size;exact this) _⟩
theorem Li (s:ByteArray) (_h1:1<=s.size) (hm:s.size<=281474976710656) (w:World) {n:Nat} (hn:cE aY s.data.toList=n) (_hle:n<=s.size) (a1:¬ 1<n) (b1:¬ n<s.size) (hw:gO w) (hp:∀ v,¬ Lib.parseIntB 64 (s.extract 0 n).data.toList=.ok v):Calls Tryz.prog 215 #[.string s] w fun e w'=>e=.returned (.tuple #[tkV 0 ⟨#[]⟩ 0 0,.int .i64 1])/\Below w.heap.size w w':=by
 have C:=aA (p:=∀ w,Calls Tryz.prog 239 #[.string s,.func (.func 214) #[] #[]] w fun e w'=>e=.returned (.int .i64 (n:Int))/\w=w') (fun w=>by have:=dW s hm w;rwa [hn] at this);have P:=aA (fun w (hw:gO w)=>lT (s.extract 0 n) (by rw [ByteArray.size_extract];omega) w hw hp);have hw:=aA hw;clear hp;clear hn;go_enter Tryz.func215,Tryz.ntmps215
 go_wp2_with ((go_at_call 239;refine (C.out _).mono ?_;rintro e w' ⟨rfl,rfl⟩))
 refine (P.out _ (hw.out.step (bA0 w _))).mono ?_;rintro e w1 ⟨⟨nn,tp,pp,rfl⟩,hb⟩;have hB:=(hb.block w.heap.size (by simp)).trans (heap_alloc_new w _);have B1:=aA (show Below w.heap.size w w1 from (bA0 w _).trans (hb.mono (by simp)));have c0:=aA hB;clear hb;obtain ⟨⟨k0,k1,k2,k3⟩,g0,g1,g2,g3⟩:=aL hB;clear hB;go_wp2_with fail
 obtain ⟨⟨d0,d1,d2,d3⟩, -⟩:=aL (aU c0.out (.int .i64 0) (.string ⟨#[]⟩) (.int .i64 0) (.int .i64 0));exact bodyPost_ret (v:=.tuple #[tkV 0 ⟨#[]⟩ 0 0,.int .i64 1]) (by simp [results,Tryz.results215,go_sem,d0,d1,d2,d3]) rfl ⟨rfl,bM B1.out (Nat.le_refl _) _ _ _ _⟩
theorem Lf (s:ByteArray) (_h1:1<=s.size) (hm:s.size<=281474976710656) (w:World) {n:Nat} (hn:cE aY s.data.toList=n) (_hle:n<=s.size) (a1:1<n) (a2:((s[0].toNat:Int) == 48)=false) (b1:¬ n<s.size) {v:Int} (hp:Lib.parseIntB 64 (s.extract 0 n).data.toList=.ok v):Calls Tryz.prog 215 #[.string s] w fun e w'=>e=.returned (.tuple #[tkV 2 (s.extract 0 n) v 0,.int .i64 0])/\Below w.heap.size w w':=by
 have C:=aA (p:=∀ w,Calls Tryz.prog 239 #[.string s,.func (.func 214) #[] #[]] w fun e w'=>e=.returned (.int .i64 (n:Int))/\w=w') (fun w=>by have:=dW s hm w;rwa [hn] at this);have P:=aA (fun w=>qK (s.extract 0 n) v (by rw [ByteArray.size_extract];omega) hp w);have T:=aA (fun w=>gY 2 (s.extract 0 n) (by rw [ByteArray.size_extract];omega) w);clear hp;clear hn;go_enter Tryz.func215,Tryz.ntmps215
 go_wp2_with ((go_at_call 239;refine (C.out _).mono ?_;rintro e w' ⟨rfl,rfl⟩))
 refine (P.out _).mono ?_;rintro e w1 ⟨rfl,hb⟩;have hB:=(hb.block w.heap.size (by simp)).trans (heap_alloc_new w _);have B1:=aA (show Below w.heap.size w w1 from (bA0 w _).trans (hb.mono (by simp)));have c0:=aA hB;clear hb;clear hB;go_wp2_with fail
 refine (T.out _).mono ?_;rintro e w2 ⟨rfl,hb⟩;have hlt:=aB c0.out;have hB:=(hb.block w.heap.size hlt).trans c0.out;have B2:=aA (show Below w.heap.size w w2 from B1.out.trans (hb.mono (by omega)));obtain ⟨⟨k0,k1,k2,k3⟩,g0,g1,g2,g3⟩:=aL hB;have c2:=aA hB;have hlt2:=aB hB;clear hb hB;go_wp2_with fail
 obtain ⟨⟨d0,d1,d2,d3⟩, -⟩:=aL (qT c2.out (.int .i64 2) (.string (s.extract 0 n)) (.int .i64 v) (.int .i64 0) (tkO 2 (s.extract 0 n) v 0));exact bodyPost_ret (v:=.tuple #[tkV 2 (s.extract 0 n) v 0,.int .i64 0]) (by simp [results,Tryz.results215,go_sem,d0,d1,d2,d3]) rfl ⟨rfl,(bM B2.out (Nat.le_refl _) _ _ _ _).alloc (by have:=(bM B2.out (Nat.le_refl w.heap.size) (.int .i64 2) (.string (s.extract 0 n)) (.int .i64 v) (.int .i64 0)).size;exact this) _⟩
theorem Lg (s:ByteArray) (_h1:1<=s.size) (hm:s.size<=281474976710656) (w:World) {n:Nat} (hn:cE aY s.data.toList=n) (_hle:n<=s.size) (a1:1<n) (a2:((s[0].toNat:Int) == 48)=false) (b1:¬ n<s.size) (hw:gO w) (hp:∀ v,¬ Lib.parseIntB 64 (s.extract 0 n).data.toList=.ok v):Calls Tryz.prog 215 #[.string s] w fun e w'=>e=.returned (.tuple #[tkV 0 ⟨#[]⟩ 0 0,.int .i64 1])/\Below w.heap.size w w':=by
 have C:=aA (p:=∀ w,Calls Tryz.prog 239 #[.string s,.func (.func 214) #[] #[]] w fun e w'=>e=.returned (.int .i64 (n:Int))/\w=w') (fun w=>by have:=dW s hm w;rwa [hn] at this);have P:=aA (fun w (hw:gO w)=>lT (s.extract 0 n) (by rw [ByteArray.size_extract];omega) w hw hp);have hw:=aA hw;clear hp;clear hn;go_enter Tryz.func215,Tryz.ntmps215
 go_wp2_with ((go_at_call 239;refine (C.out _).mono ?_;rintro e w' ⟨rfl,rfl⟩))
 refine (P.out _ (hw.out.step (bA0 w _))).mono ?_;rintro e w1 ⟨⟨nn,tp,pp,rfl⟩,hb⟩;have hB:=(hb.block w.heap.size (by simp)).trans (heap_alloc_new w _);have B1:=aA (show Below w.heap.size w w1 from (bA0 w _).trans (hb.mono (by simp)));have c0:=aA hB;clear hb;obtain ⟨⟨k0,k1,k2,k3⟩,g0,g1,g2,g3⟩:=aL hB;clear hB;go_wp2_with fail
 obtain ⟨⟨d0,d1,d2,d3⟩, -⟩:=aL (aU c0.out (.int .i64 0) (.string ⟨#[]⟩) (.int .i64 0) (.int .i64 0));exact bodyPost_ret (v:=.tuple #[tkV 0 ⟨#[]⟩ 0 0,.int .i64 1]) (by simp [results,Tryz.results215,go_sem,d0,d1,d2,d3]) rfl ⟨rfl,bM B1.out (Nat.le_refl _) _ _ _ _⟩
theorem Bc (s:ByteArray) (k:Int) (n:Nat) (v:Int):uB s.data.toList (.tok k n v)=.tuple #[tkV k (s.extract 0 n) v 0,.int .i64 0]:=by
 rw [vI];rfl
theorem Ew {s:ByteArray} (h1:1<=s.size):s.data.toList.head? = some s[0]:=by
 rw [List.head?_eq_getElem?];exact List.getElem?_eq_getElem (by simp;omega)
theorem DG {s:ByteArray} {n:Nat} (hn:cE aY s.data.toList=n):∀ c∈(s.extract 0 n).data.toList,isD c:=by
 intro c hc;rw [jM, <- hn,AO] at hc;have:=List.all_takeWhile (p:=aY) (l:=s.data.toList);exact (sH c).1 (List.all_eq_true.1 this c hc)
theorem IY (s:ByteArray) (h1:1<=s.size) (hd:aY s[0]=true) (hm:s.size<=281474976710656) (w:World) (hw:gO w):Calls Tryz.prog 215 #[.string s] w fun e w'=>e=.returned (uB s.data.toList (uP s.data.toList))/\Below w.heap.size w w':=by
 obtain ⟨n,hn⟩:∃ n,cE aY s.data.toList=n:=⟨_,rfl⟩;have hl:s.data.toList.length=s.size:=by simp
 have hle:n<=s.size:=by rw [<- hn];have:=t7 aY s.data.toList;omega
 have hhead:=Ew h1
 have hn1:1<=n:=by
  rw [<- hn];cases e:s.data.toList with
  | nil=>rw [e] at hl;simp at hl;omega
  | cons c r =>
    rw [e] at hhead;obtain h':c=s[0]:=by simpa using hhead
    exact tL (by rw [h'];exact hd)
 have hdrop:(s.data.toList.drop n).head? = if h:n<s.size then some s[n] else none:=by
  rw [List.head?_drop];by_cases h:n<s.size
  · rw [dif_pos h];exact List.getElem?_eq_getElem (by omega)
  · rw [dif_neg h];exact List.getElem?_eq_none (by omega)
 have D:=DG hn;have fr:=jM s n;unfold uP;rw [hn,hhead,hdrop];by_cases A:1<n/\s[0]=48
 · rw [if_pos (.inl ⟨A.1,by rw [A.2]⟩)]
   exact Nu s h1 hm w hn hle A.1 (by rw [A.2];decide)
 · have a3:1<n->((s[0].toNat:Int) == 48)=false:=fun h=>by
    rw [beq_eq_false_iff_ne];intro e
    exact A ⟨h, UInt8.toNat_inj.1 (by have : s[0].toNat = 48 := by omega
                                      rw [this];rfl)⟩
   by_cases b1:n<s.size
   · cases b2:cH s[n] with
     | true =>
       rw [if_pos (.inr ⟨s[n],by rw [dif_pos b1],b2⟩)];by_cases a1:1<n
       · exact MR s h1 hm w hn hle a1 (a3 a1) b1 b2
       · exact MS s h1 hm w hn hle a1 b1 b2
     | false =>
       rw [if_neg (by
        rintro (⟨x,y⟩ | ⟨d,x,y⟩)
        · exact A ⟨x,by simpa using y⟩
        · rw [dif_pos b1] at x
          cases x;rw [b2] at y;cases y)]
       rw [<- fr];by_cases hv:9223372036854775807<iQ (s.extract 0 n).data.toList
       · rw [if_pos hv]
         by_cases a1:1<n
         · exact Lk s h1 hm w hn hle a1 (a3 a1) b1 b2 hw (lS D hv)
         · exact Lm s h1 hm w hn hle a1 b1 b2 hw (lS D hv)
       · rw [if_neg hv]
         have hp:=qL (d:=(s.extract 0 n).data.toList) (by
          intro e;have:=congrArg List.length e;rw [fr,List.length_take,List.length_nil] at this;omega) D (by
          intro r hr;rw [fr] at hr;have e0:(s.data.toList.take n).head? = some s[0]:=by rw [List.head?_take,if_neg (by omega)];exact hhead
          rw [hr] at e0;have e48:s[0]=48:=by simpa using e0.symm
          have hn2:n=1:=by
           rcases Nat.lt_or_ge 1 n with h | h
           · exact absurd ⟨h,e48⟩ A
           · omega
          have:=congrArg List.length hr;rw [List.length_take,List.length_cons] at this;exact List.length_eq_zero_iff.1 (by omega)) (by omega)
         rw [Bc];by_cases a1:1<n
         · exact Lj s h1 hm w hn hle a1 (a3 a1) b1 b2 hp
         · exact Ll s h1 hm w hn hle a1 b1 b2 hp
   · rw [if_neg (by
         rintro (⟨x,y⟩ | ⟨d,x,y⟩)
         · exact A ⟨x,by simpa using y⟩
         · rw [dif_neg b1] at x
           cases x)]
     rw [<- fr];by_cases hv:9223372036854775807<iQ (s.extract 0 n).data.toList
     · rw [if_pos hv]
       by_cases a1:1<n
       · exact Lg s h1 hm w hn hle a1 (a3 a1) b1 hw (lS D hv)
       · exact Li s h1 hm w hn hle a1 b1 hw (lS D hv)
     · rw [if_neg hv]
       have hp:=qL (d:=(s.extract 0 n).data.toList) (by
        intro e;have:=congrArg List.length e;rw [fr,List.length_take,List.length_nil] at this;omega) D (by
        intro r hr;rw [fr] at hr;have e0:(s.data.toList.take n).head? = some s[0]:=by rw [List.head?_take,if_neg (by omega)];exact hhead
        rw [hr] at e0;have e48:s[0]=48:=by simpa using e0.symm
        have hn2:n=1:=by
         rcases Nat.lt_or_ge 1 n with h | h
         · exact absurd ⟨h,e48⟩ A
         · omega
        have:=congrArg List.length hr;rw [List.length_take,List.length_cons] at this;exact List.length_eq_zero_iff.1 (by omega)) (by omega)
       rw [Bc];by_cases a1:1<n
       · exact Lf s h1 hm w hn hle a1 (a3 a1) b1 hp
       · exact Lh s h1 hm w hn hle a1 b1 hp
theorem rM {f:Fst} {l:List UInt8}:∃ k s n p e,uB l f=.tuple #[tkV k s n p,.int .i64 e]:=by
 cases f with
 | bad e=>exact ⟨_,_,_,_,_,rfl⟩
 | tok k n v=>exact ⟨_,_,_,_,_,rfl⟩
theorem Dp (s:ByteArray) (h1:1<=s.size) (hm:s.size<=281474976710656) (w:World) (hw:gO w):Calls Tryz.prog 176 #[.string s] w fun e w'=>e=.returned (uB s.data.toList (cL s.data.toList))/\Below w.heap.size w w':=by
 have hF:cL s.data.toList=if cH s[0] then nE s.data.toList else if aY s[0] then uP s.data.toList else kK s.data.toList:=by
  have hl:s.data.toList.length=s.size:=by simp
  have hh:=Ew h1;cases e:s.data.toList with
  | nil=>rw [e] at hl;simp at hl;omega
  | cons c r =>
    rw [e] at hh;have:c=s[0]:=by simpa using hh
    rw [<- this];rfl
 rw [hF];cases hs:cH s[0] with
 | true =>
   rw [if_pos rfl];have C:=aA (p:=∀ w,Calls Tryz.prog 212 #[.int .u8 s[0].toNat] w fun e w'=>e=.returned (.bool true)/\w=w') (fun w=>by have:=dS s[0] w;rwa [hs] at this);obtain ⟨k,t,n,p,er,hr⟩:=rM (f:=nE s.data.toList) (l:=s.data.toList);have T:=aA (fun w=>FX s hm w);rw [hr] at T |-
   clear hs hF hr;go_enter Tryz.func176,Tryz.ntmps176
   go_wp2_with (go_at_call 212;refine (C.out _).mono ?_;rintro e w' ⟨rfl,rfl⟩)
   refine (T.out _).mono ?_;rintro e w1 ⟨rfl,hb⟩;have hB:=(hb.block w.heap.size (by simp)).trans (heap_alloc_new w _);have B1:=aA (show Below w.heap.size w w1 from (bA0 w _).trans (hb.mono (by simp)));obtain ⟨⟨k0,k1,k2,k3⟩,g0,g1,g2,g3⟩:=aL hB;have c0:=aA hB;clear hb hB;go_wp2_with fail
   obtain ⟨⟨d0,d1,d2,d3⟩, -⟩:=aL (aU c0.out (.int .i64 k) (.string t) (.int .i64 n) (.int .i64 p));exact bodyPost_ret (v:=.tuple #[tkV k t n p,.int .i64 er]) (by simp [results,Tryz.results176,go_sem,d0,d1,d2,d3]) rfl ⟨rfl,bM B1.out (Nat.le_refl _) _ _ _ _⟩
 | false =>
   rw [if_neg (by decide)];have C:=aA (p:=∀ w,Calls Tryz.prog 212 #[.int .u8 s[0].toNat] w fun e w'=>e=.returned (.bool false)/\w=w') (fun w=>by have:=dS s[0] w;rwa [hs] at this);cases hd:aY s[0] with
   | true =>
     rw [if_pos rfl];have D:=aA (p:=∀ w,Calls Tryz.prog 214 #[.int .u8 s[0].toNat] w fun e w'=>e=.returned (.bool true)/\w=w') (fun w=>by have:=lZ s[0] w;rwa [hd] at this);obtain ⟨k,t,n,p,er,hr⟩:=rM (f:=uP s.data.toList) (l:=s.data.toList);have T:=aA (fun w (hw:gO w)=>IY s h1 hd hm w hw);have hw:=aA hw;rw [hr] at T |-
     clear hs hF hr hd;go_enter Tryz.func176,Tryz.ntmps176
     go_wp2_with (first | (go_at_call 212;refine (C.out _).mono ?_;rintro e w' ⟨rfl,rfl⟩) | (go_at_call 214;refine (D.out _).mono ?_;rintro e w' ⟨rfl,rfl⟩))
     refine (T.out _ (hw.out.step (bA0 w _))).mono ?_;rintro e w1 ⟨rfl,hb⟩;have hB:=(hb.block w.heap.size (by simp)).trans (heap_alloc_new w _);have B1:=aA (show Below w.heap.size w w1 from (bA0 w _).trans (hb.mono (by simp)));obtain ⟨⟨k0,k1,k2,k3⟩,g0,g1,g2,g3⟩:=aL hB;have c0:=aA hB;clear hb hB;go_wp2_with fail
     obtain ⟨⟨d0,d1,d2,d3⟩, -⟩:=aL (aU c0.out (.int .i64 k) (.string t) (.int .i64 n) (.int .i64 p));exact bodyPost_ret (v:=.tuple #[tkV k t n p,.int .i64 er]) (by simp [results,Tryz.results176,go_sem,d0,d1,d2,d3]) rfl ⟨rfl,bM B1.out (Nat.le_refl _) _ _ _ _⟩
   | false =>
     rw [if_neg (by decide)];have D:=aA (p:=∀ w,Calls Tryz.prog 214 #[.int .u8 s[0].toNat] w fun e w'=>e=.returned (.bool false)/\w=w') (fun w=>by have:=lZ s[0] w;rwa [hd] at this);obtain ⟨k,t,n,p,er,hr⟩:=rM (f:=kK s.data.toList) (l:=s.data.toList);have T:=aA (fun w=>Do s h1 hm w);rw [hr] at T |-
     clear hs hF hr hd;go_enter Tryz.func176,Tryz.ntmps176
     go_wp2_with (first | (go_at_call 212;refine (C.out _).mono ?_;rintro e w' ⟨rfl,rfl⟩) | (go_at_call 214;refine (D.out _).mono ?_;rintro e w' ⟨rfl,rfl⟩))
     refine (T.out _).mono ?_;rintro e w1 ⟨rfl,hb⟩;have hB:=(hb.block w.heap.size (by simp)).trans (heap_alloc_new w _);have B1:=aA (show Below w.heap.size w w1 from (bA0 w _).trans (hb.mono (by simp)));obtain ⟨⟨k0,k1,k2,k3⟩,g0,g1,g2,g3⟩:=aL hB;have c0:=aA hB;clear hb hB;go_wp2_with fail
     obtain ⟨⟨d0,d1,d2,d3⟩, -⟩:=aL (aU c0.out (.int .i64 k) (.string t) (.int .i64 n) (.int .i64 p));exact bodyPost_ret (v:=.tuple #[tkV k t n p,.int .i64 er]) (by simp [results,Tryz.results176,go_sem,d0,d1,d2,d3]) rfl ⟨rfl,bM B1.out (Nat.le_refl _) _ _ _ _⟩
end
section
open Go.RowKit
def Nf (w:World) (u:Value) (m:Nat) (news:List Value):Prop :=
 (u=.slice none 0 0/\m=0/\news=[])\/∃ a c,u=.slice (some a) m c/\news.length=m/\∀ j x,news[j]? = some x->w.cell? (a.add j)=some x
variable {P : Program}
theorem tG {w:World} {base:Nat} {t ty e:TypeId} {i:TypeInfo} {z:Value} {bytes:Nat} (ht:P.underlying t=some (.slice e)) (hi:P.info? e=some i) (hz:i.zero=some z) (hsize:i.size=1) (hby:i.bytes=bytes) (hzs:z.cells.size=1)
 {v u:Value} {n m:Nat} {xs news:List Value} (hown:w.ownsRow base e 1 v n xs) (hfrom:Nf w u m news) (h1:∀ x∈news,x.oneCell'=true) (h63:n+m<=maxLen) (hbytes:(n+m)*bytes<=140737488355328) (hbase:base<=w.heap.size) :
 ∃ v' w',(Builtin.append_ #[t,t] ty #[v,u]).run P w=.ok v' w'/\w'.ownsRow base e 1 v' (n+m) (xs++news)/\w.grownBy w' v.ownBlock/\(v ≠ .slice none 0 0->v' ≠ .slice none 0 0):=by
 rcases hfrom with ⟨rfl,rfl,rfl⟩ | ⟨a,c,rfl,hl,hn⟩
 · have hr:=run_append_owned_none (P:=P) w base t ty e i 1 ht hi v n xs hown
   exact ⟨v,w,hr,by simpa using hown,World.grownBy.refl w _,fun h=>h⟩
 · obtain ⟨v',w',hr,ho,hg,hiff⟩:=run_append_own (P:=P) w base t ty e i z 1 bytes ht hi hz hsize hby hzs (by omega) v n xs hown a m c news (by rw [Nat.mul_one];exact hl) hn h1 h63 hbytes hbase
   exact ⟨v',w',hr,ho,hg,fun h h'=>h (hiff.1 h').1⟩
theorem pA {ops:Array Oper} {rest:List Oper} {o:Oper} {a:Act} {w:World} {Q:Exit->Act->World->Prop}
 (hgd:o.guard=none) (s x:Operand) (t:TypeId) (hop:o.op=Op.call { callee:=Callee.builtin Builtin.append,args:=#[s,x],argTypes:=#[t,t] })
 {base:Nat} {e:TypeId} {i:TypeInfo} {z:Value} {bytes:Nat} (ht:P.underlying t=some (.slice e)) (hi:P.info? e=some i) (hz:i.zero=some z) (hsize:i.size=1) (hby:i.bytes=bytes) (hzs:z.cells.size=1)
 (v u:Value) (n m:Nat) (xs news:List Value) (hs:a.eval s=v) (hx:a.eval x=u) (hown:w.ownsRow base e 1 v n xs) (hfrom:Nf w u m news) (h1:∀ x∈news,x.oneCell'=true) (h63:n+m<=maxLen) (hbytes:(n+m)*bytes<=140737488355328) (hbase:base<=w.heap.size)
 (hK:∀ v' w',w'.ownsRow base e 1 v' (n+m) (xs++news)->w.grownBy w' v.ownBlock->(v ≠ .slice none 0 0->v' ≠ .slice none 0 0)->wpList P ops Q rest (a.put o.dst v') w') :
 wpList P ops Q (o::rest) a w:=by
 refine wpList_plain hgd fun K hK'=>?_
 obtain ⟨v',w',hr,ho,hgr,hnn⟩:=tG (P:=P) (ty:=o.type) ht hi hz hsize hby hzs hown hfrom h1 h63 hbytes hbase;unfold Oper.wp;simp [execOp,hop,resolve,invoke,builtin,hs,hx,hr,Result.andThen];exact hK' _ _ (hK _ _ ho hgr hnn)
end
section
open Go.RowKit
section
variable {P : Program}
end
theorem cI {w w':World} {base:Nat} {e:TypeId} {size:Nat} {v:Value} {n:Nat} {xs:List Value} (h:w.ownsRow base e size v n xs) (hb:Below w.heap.size w w'):w'.ownsRow base e size v n xs :=
 World.ownsRow.kept (row:=none) h ⟨hb.os,hb.tape,hb.output,hb.size,fun k hk _=>hb.block k hk⟩ (by cases v.ownBlock <;> simp)
theorem n9 {w:World} {base:Nat} {e:TypeId} {size:Nat} {a:Addr} {n c j:Nat} {xs:List Value} {u:Value} (h:w.ownsRow base e size (.slice (some a) n c) n xs) (hj:xs[j]? = some u):∃ g,a=⟨g,0,none⟩/\w.cell? ⟨g,j,none⟩=some u:=by
 rcases h.2 with ⟨h,_⟩ | ⟨g,cap,cur,hv,_,hg,_,_,_,ht⟩
 · cases h
 · simp only [Value.slice.injEq,Option.some.injEq] at hv
   obtain ⟨rfl,_,_⟩:=hv;refine ⟨g,rfl,?_⟩;rw [cell_of_row w g j cur e (0,0) hg];rw [<- ht,List.getElem?_take] at hj;split at hj
   · simpa using hj
   · cases hj
end
section
open Go.RowKit
theorem fZ {w:World} {B C:Nat} {e:TypeId} {size:Nat} {v:Value} {n:Nat} {xs:List Value} (h:w.ownsRow B e size v n xs) (hc:C<=B):w.ownsRow C e size v n xs:=by
 refine ⟨h.1,?_⟩;rcases h.2 with h1 | ⟨g,cap,cur,h1,hb,rest⟩
 · exact .inl h1
 · exact .inr ⟨g,cap,cur,h1,by omega,rest⟩
theorem kU {w:World} {B m size:Nat} {e:TypeId} {v:Value} {xs:List Value} (h:w.ownsRow B e size v m xs):∃ a c,v=.slice a m c:=by
 rcases h.2 with ⟨rfl,h0⟩ | ⟨g,cap,_,rfl,_⟩
 · rw [h0];exact ⟨_,_,rfl⟩
 · exact ⟨_,_,rfl⟩
theorem Gu {w w':World} {row:Option Nat} (h:w.grownBy w' none):w.grownBy w' row:=⟨h.os,h.tape,h.output,h.size,fun k hk _=>h.block k hk (by simp)⟩
variable {P : Program}
theorem nB {w:World} {base size:Nat} {t ty e:TypeId} {i:TypeInfo} {z:Value} {bytes:Nat} (ht:P.underlying t=some (.slice e)) (hi:P.info? e=some i) (hz:i.zero=some z) (hsize:i.size=size) (hby:i.bytes=bytes) (hzs:z.cells.size=size) (hpos:0<size)
 {v:Value} {n m c:Nat} {a:Addr} {xs news:List Value} (hown:w.ownsRow base e size v n xs) (hl:news.length=m*size) (hn:∀ j u,news[j]? = some u->w.cell? (a.add j)=some u) (h1:∀ x∈news,x.oneCell'=true) (h63:n+m<=maxLen) (hbytes:(n+m)*bytes<=140737488355328) (hbase:base<=w.heap.size) :
 ∃ v' w',(Builtin.append_ #[t,t] ty #[v,.slice (some a) m c]).run P w=.ok v' w'/\w'.ownsRow base e size v' (n+m) (xs++news)/\w.grownBy w' v.ownBlock/\∀ q,v'.ownBlock=some q->v.ownBlock=some q\/w.heap.size<=q:=by
 rcases hown.2 with ⟨rfl,rfl⟩ | ⟨g,cap,cur,rfl,hbg,hg,hnc,hcm,hcs,htake⟩
 · have hx:xs=[]:=List.eq_nil_of_length_eq_zero (by simpa using hown.1)
   subst hx;obtain ⟨v',w',hr,r1,r2,_⟩:=run_append_own (P:=P) w w.heap.size t ty e i z size bytes ht hi hz hsize hby hzs hpos (.slice none 0 0) 0 [] (World.ownsRow_nil w _ e size) a m c news hl hn h1 h63 hbytes (Nat.le_refl _);exact ⟨v',w',hr,fZ r1 hbase,r2,fun q hq=>.inr (r1.lt q hq).1⟩
 · by_cases hroom:n+m<=cap
   · obtain ⟨w',hr,r1,r2⟩:=run_append_fits (P:=P) w base t ty e i size ht hi hsize g n cap xs hown a m c news hl hn h1 hroom
     exact ⟨_,w',hr,r1,r2,fun q hq=>.inl hq⟩
   · have ho:∀ j u,xs[j]? = some u->w.cell? ((⟨g,0,none⟩:Addr).add j)=some u:=fun j u hj=>by
      rw [Addr.add_lit,Nat.zero_add];obtain ⟨g',h1,h2⟩:=n9 hown hj;simp only [Addr.mk.injEq,and_true] at h1;subst h1;exact h2
     obtain ⟨v',w',hr,r1,r2⟩:=run_append_arg_grows (P:=P) w t ty e i z size bytes ht hi hz hsize hby hzs hpos ⟨g,0,none⟩ n cap xs hown.1 ho a m c news hl hn (by omega) h63 hbytes;exact ⟨v',w',hr,fZ r1 hbase,Gu r2,fun q hq=>.inr (r1.lt q hq).1⟩
theorem bB {ops:Array Oper} {rest:List Oper} {o:Oper} {a:Act} {w:World} {Q:Exit->Act->World->Prop}
 (hgd:o.guard=none) (s x:Operand) (t:TypeId) (hop:o.op=Op.call { callee:=Callee.builtin Builtin.append,args:=#[s,x],argTypes:=#[t,t] })
 {base size:Nat} {e:TypeId} {i:TypeInfo} {z:Value} {bytes:Nat} (ht:P.underlying t=some (.slice e)) (hi:P.info? e=some i) (hz:i.zero=some z) (hsize:i.size=size) (hby:i.bytes=bytes) (hzs:z.cells.size=size) (hpos:0<size)
 (v:Value) (n m c:Nat) (ad:Addr) (xs news:List Value) (hs:a.eval s=v) (hx:a.eval x=.slice (some ad) m c) (hown:w.ownsRow base e size v n xs) (hl:news.length=m*size) (hn:∀ j u,news[j]? = some u->w.cell? (ad.add j)=some u) (h1:∀ x∈news,x.oneCell'=true) (h63:n+m<=maxLen) (hbytes:(n+m)*bytes<=140737488355328) (hbase:base<=w.heap.size)
 (hK:∀ v' w',w'.ownsRow base e size v' (n+m) (xs++news)->w.grownBy w' v.ownBlock->(∀ q,v'.ownBlock=some q->v.ownBlock=some q\/w.heap.size<=q)->wpList P ops Q rest (a.put o.dst v') w') :
 wpList P ops Q (o::rest) a w:=by
 refine wpList_plain hgd fun K hK'=>?_
 obtain ⟨v',w',hr,ho,hgr,hq⟩:=nB (P:=P) (ty:=o.type) (c:=c) ht hi hz hsize hby hzs hpos hown hl hn h1 h63 hbytes hbase;unfold Oper.wp;simp [execOp,hop,resolve,invoke,builtin,hs,hx,hr,Result.andThen];exact hK' _ _ (hK _ _ ho hgr hq)
end
section
open Go.RowKit
def tkL (t:Tk):List Value:=[.int .i64 t.kind,.string ⟨t.text.toArray⟩,.int .i64 t.num,.int .i64 t.place]
def qB (ts:List Tk):List Value:=ts.flatMap tkL
theorem Ed:∀ (ts:List Tk) {j i:Nat} (hj:j<ts.length),i<4->(qB ts)[j*4+i]? = (tkL ts[j])[i]?
 | [],_,_,hj,_=>by simp at hj
 | t :: ts, 0, i, _, hi => by
   show (tkL t++qB ts)[0*4+i]? = _;rw [Nat.zero_mul,Nat.zero_add,List.getElem?_append_left (by show i<4;exact hi)];rfl
 | t :: ts, j + 1, i, hj, hi => by
   show (tkL t++qB ts)[(j+1)*4+i]? = _;rw [List.getElem?_append_right (by show 4<=_;omega)];have:=Ed ts (j:=j) (i:=i) (by simpa using hj) hi;rw [show (j+1)*4+i-(tkL t).length=j*4+i by show _-4=_;omega,this];rfl
theorem Kc (t:Tk):∀ u∈tkL t,u.oneCell'=true:=by
 intro u hu;simp only [tkL,List.mem_cons,List.not_mem_nil,or_false] at hu;rcases hu with rfl | rfl | rfl | rfl <;> rfl
theorem EU (ts:List Tk) (t:Tk):qB (ts++[t])=qB ts++tkL t:=by unfold qB;simp
def jY (l:List UInt8):iW:=if 1024<l.length then .bad 0 4 else dH l 0
def EH (E:TypeId) (L:iW) (w:World) (e:Ending) (w':World):Prop:=Below w.heap.size w w' /\
 match L with
 | .bad p er=>e=.returned (.tuple #[.slice none 0 0,.int .i64 (p:Nat),.int .i64 er])
 | .ok ts=>∃ a c,e=.returned (.tuple #[.slice a ts.length c,.int .i64 0,.int .i64 0])/\w'.ownsRow w.heap.size E 4 (.slice a ts.length c) ts.length (qB ts)
theorem J9:(Tryz.prog.info? 261).map (fun i=>(i.zero,i.size,i.bytes))=some (some (.agg #[.int .i64 0,.string ⟨#[]⟩,.int .i64 0,.int .i64 0]),4,40):=by kernel_rfl
theorem yO {l:List UInt8} {e:Int} (h:cL l=.bad e):e=1\/e=2\/e=5:=by
 cases l with
 | nil=>cases h;exact .inr (.inl rfl)
 | cons c r =>
   simp only [cL] at h;split at h
   · unfold nE at h
     split at h
     · cases h;exact .inr (.inr rfl)
     · cases h
   · split at h
     · unfold uP at h
       split at h
       · cases h;exact .inr (.inl rfl)
       · split at h
         · cases h;exact .inl rfl
         · cases h
     · unfold kK at h
       split at h
       · cases h;exact .inr (.inl rfl)
       · cases h
theorem sY (s:ByteArray) (hm:s.size<=281474976710656) (w:World) (hw:gO w):Calls Tryz.prog 115 #[.string s] w (EH 261 (jY s.data.toList) w):=by
 have hl:s.data.toList.length=s.size:=by simp
 by_cases hlong:1024<s.size
 · have P:=aA (show EH 261 (jY s.data.toList) w (.returned (.tuple #[.slice none 0 0,.int .i64 0,.int .i64 4])) w from by
    unfold jY;rw [if_pos (by omega)];exact ⟨Below.refl _ _,rfl⟩)
   clear hl;go_enter Tryz.func115,Tryz.ntmps115
   go_wp2_with fail
   go_ret3
   exact P.out
 obtain ⟨i0,hi,hz0,hz1,hz2⟩:=info_parts J9;have und:Tryz.prog.underlying 198=some (.slice 261):=Tryz.underlying198;obtain ⟨L,hL⟩:∃ L,s.data.toList=L:=⟨_,rfl⟩;have SK:=aA (p:=∀ (p:Nat) (hp:p<=s.size) w,Calls Tryz.prog 175 #[.string s,.int .i64 p] w fun e w'=>e=.returned (.int .i64 ((p+cE (· == 32) (L.drop p):Nat):Int))/\w=w') (fun p hp w=>by rw [<- hL];exact FR s p hp hm w)
 have FI:=aA (p:=∀ (p:Nat) (hp:p<s.size) w (hw:gO w),Calls Tryz.prog 176 #[.string (s.extract p s.size)] w fun e w'=>e=.returned (uB (L.drop p) (cL (L.drop p)))/\Below w.heap.size w w') (fun p hp w hw=>by
  rw [<- hL, <- xV];exact Dp (s.extract p s.size) (by rw [ByteArray.size_extract];omega) (by rw [ByteArray.size_extract];omega) w hw)
 have hLs:L.length=s.size:=by rw [<- hL];exact hl
 have skip_in:∀ p,p<=s.size->p+cE (· == 32) (L.drop p)<=s.size:=fun p hp=>by
  have:=t7 (· == 32) (L.drop p);rw [List.length_drop] at this;omega
 have skip_lex:∀ p,p<=s.size->dH (L.drop p) p=dH (L.drop (p+cE (· == 32) (L.drop p))) (p+cE (· == 32) (L.drop p)):=fun p _=>by
  rw [IK,List.drop_drop]
 have skip_hd:∀ p,¬ (L.drop (p+cE (· == 32) (L.drop p))).head? = some 32:=fun p=>by
  rw [<- List.drop_drop];exact Fb _
 have hE:jY s.data.toList=dH L 0:=by
  unfold jY;rw [if_neg (by omega),hL]
 rw [hE];obtain ⟨E,hEE⟩:∃ E,dH L 0=E:=⟨_,rfl⟩;rw [hEE]
 have K0:=aA (show dH (L.drop (0+cE (· == 32) (L.drop 0))) (0+cE (· == 32) (L.drop 0))=E by
  rw [<- hEE, <- skip_lex 0 (by omega),List.drop_zero])
 have H0:=aA (skip_hd 0);have N0:=skip_in 0 (by omega);have D0:=aA (SK.out 0 (by omega));obtain ⟨k0,hk0⟩:∃ k0,0+cE (· == 32) (L.drop 0)=k0:=⟨_,rfl⟩;rw [hk0] at K0 H0 N0 D0;have SKI:=aA skip_in;have SKL:=aA skip_lex;have SKH:=aA skip_hd;have HW:=aA hw;have HLS:=aA hLs;clear hE hEE hk0 skip_in skip_lex skip_hd hL hl hw hLs;go_enter Tryz.func115,Tryz.ntmps115
 go_wp2_with (go_at_call 175;refine (D0.out _).mono ?_;rintro e w' ⟨rfl,rfl⟩)
 go_loopw [5,6] (fun v i wr=>∃ (k:Nat) (va:Option Addr) (vc:Nat) (T:List Tk),v=.slice va T.length vc/\i=.int .i64 k/\k<=s.size/\T.length<=k/\Hid (¬ (L.drop k).head? = some 32)/\Hid ((dH (L.drop k) k).after T=E)/\Hid (wr.ownsRow w.heap.size 261 4 (.slice va T.length vc) T.length (qB T))/\Hid (Below w.heap.size w wr)) (fun _ i _=>s.size-(intOf i).toNat)
 case atStart=>exact ⟨k0,none,0,[],rfl,rfl,N0,by simp,H0,aA (by rw [sM];exact K0.out),aA (World.ownsRow_nil _ _ _ _),aA (Below.refl _ _)⟩
 case round =>
  obtain ⟨k,va,vc,T,rfl,rfl,hk,hTk,hH,hE,hO,hB⟩:=hrel;by_cases hlt:k<s.size
  · have hne:¬ L.drop k=[]:=by
     intro e;have:=congrArg List.length e;rw [List.length_drop,HLS.out,List.length_nil] at this;omega
    have LW:=aA (HW.out.step hB.out);have F:=aA (FI.out k hlt wr LW.out);rcases xZ (L.drop k) k hH.out with ⟨h,_⟩ | ⟨er,_,hf,hx⟩ | ⟨kd,n,nv,_,hf,hn1,hn2,hx⟩
    · exact absurd h hne
    · have q:((er:Int) != 0)=true:=by rcases yO hf with h | h | h <;> rw [h] <;> decide
      have R:=aA (show E=.bad k er by rw [<- hE.out,hx];rfl);have F2:=aA (p:=Calls Tryz.prog 176 #[.string (s.extract k s.size)] wr fun e w'=>e=.returned (.tuple #[tkV 0 ⟨#[]⟩ 0 0,.int .i64 er])/\Below wr.heap.size wr w') (by have:=F.out;rw [hf] at this;exact this);clear hf hx hne F;go_wp2_with fail
      refine F2.out.mono ?_;rintro e w1 ⟨rfl,hb⟩;have hz:=hB.out.size;have B1:=aA (hB.out.trans (hb.mono hz));clear hb;go_wp2_with fail
      go_ret3
      rw [R.out];exact ⟨B1.out.alloc B1.out.size _,rfl⟩
    · have F2:=aA (p:=Calls Tryz.prog 176 #[.string (s.extract k s.size)] wr fun e w'=>e=.returned (.tuple #[tkV kd ⟨((L.drop k).take n).toArray⟩ nv 0,.int .i64 0])/\Below wr.heap.size wr w') (by have:=F.out;rw [hf] at this;exact this)
      rw [List.length_drop,HLS.out] at hn2;obtain ⟨t,ht⟩:∃ t:Tk,t=⟨kd,(L.drop k).take n,nv,k⟩:=⟨_,rfl⟩
      have htl:(⟨((L.drop k).take n).toArray⟩:ByteArray).size=n:=by
       show ((L.drop k).take n).toArray.size=n;rw [List.size_toArray,List.length_take,List.length_drop,HLS.out];omega
      have hE2:=aA (show (dH (L.drop (k+n)) (k+n)).after (T++[t])=E by
       rw [<- hE.out,hx,f9,List.drop_drop,ht])
      obtain ⟨X,hX⟩:∃ X:ByteArray,⟨((L.drop k).take n).toArray⟩=X:=⟨_,rfl⟩;rw [hX] at F2 htl;have hcells:=aA (show tkL t=[.int .i64 kd,.string X,.int .i64 nv,.int .i64 k] by rw [ht, <- hX];rfl);have hz:=hB.out.size;have D1:=aA (SK.out (k+n) (by omega));have N1:=SKI.out (k+n) (by omega);have H1:=aA (SKH.out (k+n));have E1:=aA (SKL.out (k+n) (by omega));obtain ⟨k2,hk2⟩:∃ k2,k+n+cE (· == 32) (L.drop (k+n))=k2:=⟨_,rfl⟩;have hk3:k+n<=k2:=by omega
      rw [hk2] at D1 N1 H1 E1;have E3:=aA (show (dH (L.drop k2) k2).after (T++[t])=E by rw [<- E1.out];exact hE2.out);clear hf hx hne F ht hE2 hX hk2 E1;go_wp2_with fail
      refine F2.out.mono ?_;rintro e w1 ⟨rfl,hb⟩;have B1:=aA (hB.out.trans (hb.mono hz));have O1:=aA (cI hO.out hb);have hsz:=hb.size;have B2:=aA (show Below w.heap.size w (w1.alloc (tkO kd X nv k)) from B1.out.alloc B1.out.size _);have OA:=aA (show ((w1.alloc (tkO kd X nv k)).alloc (tkO kd X nv k)).ownsRow w.heap.size 261 4 (.slice va T.length vc) T.length (qB T) from (O1.out.alloc _).alloc _)
      have NA:=aA (p:=∀ j u,(tkL t)[j]? = some u->((w1.alloc (tkO kd X nv k)).alloc (tkO kd X nv k)).cell? ((⟨w1.heap.size+1,0,none⟩:Addr).add j)=some u) (fun j u hj=>by
       rw [hcells.out] at hj;rw [Addr.add_lit,Nat.zero_add,cell_of_row _ _ _ _ _ (0,0) (show ((w1.alloc (tkO kd X nv k)).alloc (tkO kd X nv k)).heap[w1.heap.size+1]? = some (tkO kd X nv k) by have:=heap_alloc_new (w1.alloc (tkO kd X nv k)) (tkO kd X nv k);rwa [World.size_alloc] at this)];simpa using hj)
      have CB:=aA (show ((w1.alloc (tkO kd X nv k)).alloc (tkO kd X nv k)).heap[w1.heap.size]? = some (tkO kd X nv k) from (Below.heap_alloc _ _ _ (by rw [World.size_alloc];omega)).trans (heap_alloc_new w1 _));have BA:=aA (show w.heap.size<=((w1.alloc (tkO kd X nv k)).alloc (tkO kd X nv k)).heap.size by rw [World.size_alloc,World.size_alloc];omega);have OLt:=aA (fun q hq=>O1.out.lt q hq);clear hb;go_wp2_with (at_builtin;refine bB rfl _ _ 198 rfl (base:=w.heap.size) und hi hz0 hz1 hz2 rfl (by decide) (.slice va T.length vc) T.length 1 1 ⟨w1.heap.size+1,0,none⟩ (qB T) (tkL t) rfl rfl OA.out rfl NA.out (Kc _) (by unfold maxLen;omega) (by omega) BA.out ?_)
      intro v6 w6 ho hg _;obtain ⟨va6,c6,rfl⟩:=kU ho;have B6:=aA (show Below w.heap.size w w6 from (B2.out.alloc B2.out.size _).grown hg BA.out (fun q hq=>(OLt.out q hq).1));have O6:=aA (show w6.ownsRow w.heap.size 261 4 (.slice va6 (T++[t]).length c6) (T++[t]).length (qB (T++[t])) by rw [EU,List.length_append];exact ho)
      have C6:w6.heap[w1.heap.size]? = some (tkO kd X nv k):=by
       rw [hg.block w1.heap.size (aB CB.out) (fun e=>by have:=(OLt.out _ e.symm).2;omega)];exact CB.out
      obtain ⟨⟨m0,m1,m2,m3⟩, -⟩:=aL C6;rw [show T.length+1=(T++[t]).length by rw [List.length_append];rfl];have hTl:(T++[t]).length<=k2:=by rw [List.length_append];show T.length+1<=k2;omega
      generalize T++[t]=T2 at E3 O6 hTl;clear ho hg OA NA CB BA OLt C6 O1 B1 B2 hO hB hE;go_wp2_with (go_at_call 175;refine (D1.out _).mono ?_;rintro e w' ⟨rfl,rfl⟩)
      go_roundw
      case rel=>exact ⟨k2,va6,c6,T2,rfl,by go_num,N1,hTl,H1,E3,O6,B6⟩
      case measure=>simp [intOf];omega
  · obtain rfl:k=s.size:=by omega
    have R:=aA (show E=.ok T by
     rw [<- hE.out,List.drop_of_length_le (by rw [HLS.out];exact Nat.le_refl _),lX];simp [iW.after])
    go_wp2_with fail
    go_ret3
    rw [R.out];exact ⟨hB.out,va,vc,rfl,hO.out⟩
end
section
open Go.RowKit
structure RS where
 pos:Nat
 cnt:Nat
 bad:Int
 whr:Nat
def bV (e:Int) (s:RS):RS:=if s.bad=0 then ⟨s.pos,s.cnt,e,s.pos⟩ else s
def a6 (s:RS):RS:=if s.bad=0 then (if 32<s.cnt+1 then ⟨s.pos+1,s.cnt+1,4,s.pos⟩ else ⟨s.pos+1,s.cnt+1,0,s.whr⟩) else ⟨s.pos+1,s.cnt,s.bad,s.whr⟩
def bW (s:RS):RS:=⟨s.pos+1,s.cnt,s.bad,s.whr⟩
def isS (L:List Tk) (x:List UInt8) (p:Nat):Bool:=match L[p]? with
 | some t=>t.kind == 3 && t.text == x
 | none=>false
def isM (L:List Tk) (p:Nat):Bool:=isS L [42] p || isS L [47] p || isS L [37] p
def isA (L:List Tk) (p:Nat):Bool:=isS L [43] p || isS L [45] p
def eM (L:List Tk) (p:Nat):List UInt8:=match L[p]? with
 | some t=>t.text
 | none=>[]
def eY (L:List Tk) (s:RS):RS:=bW (if (s.bad == 0 && !isS L [41] s.pos)=true then bV 2 s else s)
def aI:TN:=⟨⟨#[]⟩,⟨#[]⟩,0,.nil⟩
def tH (v:Int):TN:=⟨⟨#[110,117,109]⟩,⟨#[]⟩,v,.nil⟩
def eU (x:List UInt8):TN:=⟨⟨#[110,97,109,101]⟩,⟨x.toArray⟩,0,.nil⟩
def oR (k:TN):TN:=⟨⟨#[110,101,103]⟩,⟨#[]⟩,0,k.f⟩
def gP (o:List UInt8) (a b:TN):TN:=⟨⟨o.toArray⟩,⟨#[]⟩,0,.cons a.op a.nm a.n a.ks b.f⟩
inductive Md | fac | prod | sum | prodL (n:TN) | sumL (n:TN)
def pr (L:List Tk):Nat->Md->RS->TN×RS
 | 0,_,s=>(aI,s)
 | f + 1, .fac, s =>
   if s.bad=0 then
    match L[s.pos]? with
    | none=>(aI,bV 2 s)
    | some t =>
      if t.kind=2 then (tH t.num,a6 s)
      else if t.kind=1 then (eU t.text,a6 s)
      else if t.text=[45] then (oR (pr L f .fac (a6 s)).1,(pr L f .fac (a6 s)).2)
      else if t.text=[40] then ((pr L f .sum (bW s)).1,eY L (pr L f .sum (bW s)).2)
      else (aI,bV 2 s)
   else (aI,s)
 | f+1,.prod,s=>pr L f (.prodL (pr L f .fac s).1) (pr L f .fac s).2
 | f+1,.prodL n,s=>if (s.bad == 0 && isM L s.pos)=true then pr L f (.prodL (gP (eM L s.pos) n (pr L f .fac (a6 s)).1)) (pr L f .fac (a6 s)).2 else (n,s)
 | f+1,.sum,s=>pr L f (.sumL (pr L f .prod s).1) (pr L f .prod s).2
 | f+1,.sumL n,s=>if (s.bad == 0 && isA L s.pos)=true then pr L f (.sumL (gP (eM L s.pos) n (pr L f .prod (a6 s)).1)) (pr L f .prod (a6 s)).2 else (n,s)
theorem qU (e:Int) (s:RS):(bV e s).pos=s.pos:=by unfold bV;split <;> rfl
theorem cY (s:RS):(a6 s).pos=s.pos+1:=by
 unfold a6;split
 · split <;> rfl
 · rfl
theorem GW (L:List Tk) (s:RS):(eY L s).pos=s.pos+1:=by
 unfold eY bW;split
 · show (bV 2 s).pos+1=_
   rw [qU]
 · rfl
theorem dI (L:List Tk):∀ (f:Nat) (md:Md) (s:RS),s.pos<=(pr L f md s).2.pos
 | 0,_,s=>Nat.le_refl _
 | f + 1, .fac, s => by
   rw [pr];by_cases hb:s.bad=0
   · rw [if_pos hb]
     cases L[s.pos]? with
     | none=>simp only;rw [qU];exact Nat.le_refl _
     | some t =>
       simp only;by_cases h2:t.kind=2
       · rw [if_pos h2];simp only;rw [cY];omega
       rw [if_neg h2];by_cases h1:t.kind=1
       · rw [if_pos h1];simp only;rw [cY];omega
       rw [if_neg h1];by_cases h45:t.text=[45]
       · rw [if_pos h45];simp only
         have:=dI L f .fac (a6 s);rw [cY] at this;omega
       rw [if_neg h45];by_cases h40:t.text=[40]
       · rw [if_pos h40];simp only
         have:=dI L f .sum (bW s);rw [GW];have e:(bW s).pos=s.pos+1:=rfl;omega
       rw [if_neg h40];simp only;rw [qU];exact Nat.le_refl _
   · rw [if_neg hb];exact Nat.le_refl _
 | f + 1, .prod, s => by
   rw [pr];exact Nat.le_trans (dI L f .fac s) (dI L f _ _)
 | f + 1, .prodL n, s => by
   rw [pr];split
   · refine Nat.le_trans ?_ (dI L f _ _)
     have:=dI L f .fac (a6 s);rw [cY] at this;omega
   · exact Nat.le_refl _
 | f + 1, .sum, s => by
   rw [pr];exact Nat.le_trans (dI L f .prod s) (dI L f _ _)
 | f + 1, .sumL n, s => by
   rw [pr];split
   · refine Nat.le_trans ?_ (dI L f _ _)
     have:=dI L f .prod (a6 s);rw [cY] at this;omega
   · exact Nat.le_refl _
def bZ (m:Nat):Md->Nat
 | .fac=>4*m+1
 | .prod=>4*m+2
 | .prodL _=>4*m+1
 | .sum=>4*m+3
 | .sumL _=>4*m+1
theorem nG {L:List Tk} {x:List UInt8} {p:Nat} (h:isS L x p=true):p<L.length:=by
 unfold isS at h;cases e:L[p]? with
 | none=>rw [e] at h;cases h
 | some t=>exact (List.getElem?_eq_some_iff.1 e).1
theorem pN {L:List Tk} {p:Nat} (h:isM L p=true):p<L.length:=by
 unfold isM at h;simp only [Bool.or_eq_true] at h;rcases h with (h | h) | h <;> exact nG h
theorem pO {L:List Tk} {p:Nat} (h:isA L p=true):p<L.length:=by
 unfold isA at h;simp only [Bool.or_eq_true] at h;rcases h with h | h <;> exact nG h
theorem fO (L:List Tk):∀ (f g:Nat) (md:Md) (s:RS),bZ (L.length-s.pos) md<=f->f<=g->pr L g md s=pr L f md s
 | 0,_,md,s,h,_=>by cases md <;> simp [bZ] at h
 | f+1,0,_,_,_,h=>by omega
 | f + 1, g + 1, .fac, s, h, hg => by
   simp only [bZ] at h;rw [pr,pr];by_cases hb:s.bad=0
   · rw [if_pos hb,if_pos hb]
     cases e:L[s.pos]? with
     | none=>rfl
     | some t =>
       have hlt:=(List.getElem?_eq_some_iff.1 e).1;have e1:=fO L f g .fac (a6 s) (by rw [cY];simp only [bZ];omega) (by omega);have e2:=fO L f g .sum (bW s) (by show bZ (L.length-(s.pos+1)) _<=f;simp only [bZ];omega) (by omega);rw [e1,e2]
   · rw [if_neg hb,if_neg hb]
 | f + 1, g + 1, .prod, s, h, hg => by
   simp only [bZ] at h;rw [pr,pr];rw [fO L f g .fac s (by simp only [bZ];omega) (by omega)];have hp:=dI L f .fac s;exact fO L f g _ _ (by simp only [bZ];omega) (by omega)
 | f + 1, g + 1, .prodL n, s, h, hg => by
   simp only [bZ] at h;rw [pr,pr];by_cases hc:(s.bad == 0 && isM L s.pos)=true
   · rw [if_pos hc,if_pos hc]
     have hlt:=pN (by simp only [Bool.and_eq_true] at hc;exact hc.2);rw [fO L f g .fac (a6 s) (by rw [cY];simp only [bZ];omega) (by omega)];have hp:=dI L f .fac (a6 s);rw [cY] at hp;exact fO L f g _ _ (by simp only [bZ];omega) (by omega)
   · rw [if_neg hc,if_neg hc]
 | f + 1, g + 1, .sum, s, h, hg => by
   simp only [bZ] at h;rw [pr,pr];rw [fO L f g .prod s (by simp only [bZ];omega) (by omega)];have hp:=dI L f .prod s;exact fO L f g _ _ (by simp only [bZ];omega) (by omega)
 | f + 1, g + 1, .sumL n, s, h, hg => by
   simp only [bZ] at h;rw [pr,pr];by_cases hc:(s.bad == 0 && isA L s.pos)=true
   · rw [if_pos hc,if_pos hc]
     have hlt:=pO (by simp only [Bool.and_eq_true] at hc;exact hc.2);rw [fO L f g .prod (a6 s) (by rw [cY];simp only [bZ];omega) (by omega)];have hp:=dI L f .prod (a6 s);rw [cY] at hp;exact fO L f g _ _ (by simp only [bZ];omega) (by omega)
   · rw [if_neg hc,if_neg hc]
def pE (L:List Tk) (md:Md) (s:RS):TN×RS:=pr L (4*(L.length-s.pos)+4) md s
theorem oX {L:List Tk} {f:Nat} {md:Md} {s:RS} (h:bZ (L.length-s.pos) md<=f):pr L f md s=pE L md s:=by
 have h4:bZ (L.length-s.pos) md<=4*(L.length-s.pos)+4:=by cases md <;> simp [bZ]
 unfold pE;rcases Nat.le_total f (4*(L.length-s.pos)+4) with h1 | h1
 · exact (fO L _ _ md s h h1).symm
 · exact fO L _ _ md s h4 h1
theorem zS (L:List Tk) (md:Md) (s:RS):s.pos<=(pE L md s).2.pos:=dI L _ md s
theorem zT (L:List Tk) (s:RS):pE L .fac s=if s.bad=0 then
 match L[s.pos]? with
 | none=>(aI,bV 2 s)
 | some t =>
   if t.kind=2 then (tH t.num,a6 s)
   else if t.kind=1 then (eU t.text,a6 s)
   else if t.text=[45] then (oR (pE L .fac (a6 s)).1,(pE L .fac (a6 s)).2)
   else if t.text=[40] then ((pE L .sum (bW s)).1,eY L (pE L .sum (bW s)).2)
   else (aI,bV 2 s)
 else (aI,s):=by
 unfold pE;rw [pr];by_cases hb:s.bad=0
 · rw [if_pos hb,if_pos hb]
   cases e:L[s.pos]? with
   | none=>rfl
   | some t =>
     have hlt:=(List.getElem?_eq_some_iff.1 e).1;have e1:=oX (L:=L) (f:=4*(L.length-s.pos)+3) (md:=.fac) (s:=a6 s) (by rw [cY];simp only [bZ];omega);have e2:=oX (L:=L) (f:=4*(L.length-s.pos)+3) (md:=.sum) (s:=bW s) (by show bZ (L.length-(s.pos+1)) _<=_;simp only [bZ];omega);simp only;rw [e1,e2];rfl
 · rw [if_neg hb,if_neg hb]
theorem zR (L:List Tk) (s:RS):pE L .prod s=pE L (.prodL (pE L .fac s).1) (pE L .fac s).2:=by
 conv=>lhs;unfold pE
 rw [pr,oX (md:=.fac) (by simp only [bZ];omega)];have hp:=zS L .fac s;exact oX (by simp only [bZ];omega)
theorem nD (L:List Tk) (n:TN) (s:RS):pE L (.prodL n) s=if (s.bad == 0 && isM L s.pos)=true then pE L (.prodL (gP (eM L s.pos) n (pE L .fac (a6 s)).1)) (pE L .fac (a6 s)).2 else (n,s):=by
 conv=>lhs;unfold pE
 rw [pr];by_cases hc:(s.bad == 0 && isM L s.pos)=true
 · rw [if_pos hc,if_pos hc]
   have hlt:=pN (by simp only [Bool.and_eq_true] at hc;exact hc.2);rw [oX (md:=.fac) (by rw [cY];simp only [bZ];omega)];have hp:=zS L .fac (a6 s);rw [cY] at hp;exact oX (by simp only [bZ];omega)
 · rw [if_neg hc,if_neg hc]
theorem Ii (L:List Tk) (s:RS):pE L .sum s=pE L (.sumL (pE L .prod s).1) (pE L .prod s).2:=by
 conv=>lhs;unfold pE
 rw [pr,oX (md:=.prod) (by simp only [bZ];omega)];have hp:=zS L .prod s;exact oX (by simp only [bZ];omega)
theorem tM (L:List Tk) (n:TN) (s:RS):pE L (.sumL n) s=if (s.bad == 0 && isA L s.pos)=true then pE L (.sumL (gP (eM L s.pos) n (pE L .prod (a6 s)).1)) (pE L .prod (a6 s)).2 else (n,s):=by
 conv=>lhs;unfold pE
 rw [pr];by_cases hc:(s.bad == 0 && isA L s.pos)=true
 · rw [if_pos hc,if_pos hc]
   have hlt:=pO (by simp only [Bool.and_eq_true] at hc;exact hc.2);rw [oX (md:=.prod) (by rw [cY];simp only [bZ];omega)];have hp:=zS L .prod (a6 s);rw [cY] at hp;exact oX (by simp only [bZ];omega)
 · rw [if_neg hc,if_neg hc]
inductive EJ | bad (p:Nat) (e:Int) | ok (t:TN) (p:Nat)
def ofL (L:List Tk) (p:Nat):EJ:=if (pE L .sum ⟨p,0,0,0⟩).2.bad=0 then .ok (pE L .sum ⟨p,0,0,0⟩).1 (pE L .sum ⟨p,0,0,0⟩).2.pos else .bad (pE L .sum ⟨p,0,0,0⟩).2.whr (pE L .sum ⟨p,0,0,0⟩).2.bad
def kC (n:Nat) (L:List Tk) (p:Nat):Nat:=match L[p]? with
 | some t=>t.place
 | none=>n
end
section
open Go.RowKit
def iC (w:World) (a:Option Addr) (ts:List Tk):Prop :=
 ts=[]\/∃ b off,a=some ⟨b,off,none⟩/\b<w.heap.size/\∀ j (h:j<ts.length),w.cell? ⟨b,off+j*4,none⟩=some (.int .i64 ts[j].kind)/\w.cell? ⟨b,off+j*4+1,none⟩=some (.string ⟨ts[j].text.toArray⟩) /\
  w.cell? ⟨b,off+j*4+2,none⟩=some (.int .i64 ts[j].num)/\w.cell? ⟨b,off+j*4+3,none⟩=some (.int .i64 ts[j].place)
theorem iC.kept {w w':World} {a:Option Addr} {ts:List Tk} (h:iC w a ts) (hb:Below w.heap.size w w'):iC w' a ts:=by
 rcases h with h | ⟨b,off,rfl,hlt,hc⟩
 · exact .inl h
 · refine .inr ⟨b,off,rfl,Nat.lt_of_lt_of_le hlt hb.size,fun j hj=>?_⟩
   obtain ⟨c0,c1,c2,c3⟩:=hc j hj;exact ⟨(hb.cell (p:=⟨b,_,none⟩) hlt).trans c0,(hb.cell (p:=⟨b,_,none⟩) hlt).trans c1,(hb.cell (p:=⟨b,_,none⟩) hlt).trans c2,(hb.cell (p:=⟨b,_,none⟩) hlt).trans c3⟩
theorem CR {w:World} {B:Nat} {E:TypeId} {a:Option Addr} {c:Nat} {ts:List Tk} (h:w.ownsRow B E 4 (.slice a ts.length c) ts.length (qB ts)):iC w a ts:=by
 have h0:=h;rcases h.2 with ⟨hs,hn⟩ | ⟨g,cap,cur,hs,_,hg,_⟩
 · exact .inl (List.length_eq_zero_iff.1 hn)
 · simp only [Value.slice.injEq] at hs
   obtain ⟨rfl,_,rfl⟩:=hs
   have cell:∀ j i u,j<ts.length->i<4->(qB ts)[j*4+i]? = some u->w.cell? ⟨g,0+j*4+i,none⟩=some u:=fun j i u hj hi hu=>by
    obtain ⟨g',hg',hc⟩:=n9 h0 hu;simp only [Addr.mk.injEq,and_true] at hg';subst hg';rw [Nat.zero_add];exact hc
   refine .inr ⟨g,0,rfl,aB hg,fun j hj=>?_⟩;have at4:∀ i,i<4->(qB ts)[j*4+i]? = (tkL ts[j])[i]? := fun i hi=>Ed ts hj hi
   exact ⟨cell j 0 _ hj (by omega) (at4 0 (by omega)),cell j 1 _ hj (by omega) (at4 1 (by omega)),cell j 2 _ hj (by omega) (at4 2 (by omega)),cell j 3 _ hj (by omega) (at4 3 (by omega))⟩
end
end
section
section
open Go.RowKit
def eZ (G:Nat->Prop) (w:World):F->Nat->Nat->Prop
 | .nil,_,_=>True
 | .cons o m n ks r,b,off=>G b/\b<w.heap.size/\(∃ (a:Option Addr) (c:Nat),(w.cell? ⟨b,off,none⟩=some (.string o)/\w.cell? ⟨b,off+1,none⟩=some (.string m)/\w.cell? ⟨b,off+2,none⟩=some (.int .i64 n)/\w.cell? ⟨b,off+3,none⟩=some (.slice a ks.len c)) /\
  (ks=.nil\/∃ b' off',a=some ⟨b',off',none⟩/\eZ G w ks b' off'))/\eZ G w r b (off+4)
def aQ (G:Nat->Prop) (w:World) (a:Option Addr) (ks:F):Prop:=ks=.nil\/∃ b off,a=some ⟨b,off,none⟩/\eZ G w ks b off
abbrev cC (lo:Nat) (w:World) (a:Option Addr) (ks:F):Prop:=aQ (fun b=>lo<=b) w a ks
abbrev eH (o m:ByteArray) (n:Int) (a:Option Addr) (l c:Nat):Value:=.agg #[.string o,.string m,.int .i64 n,.slice a l c]
theorem eZ.imp {G H:Nat->Prop} {w:World} (hG:∀ b,b<w.heap.size->G b->H b):∀ {f:F} {b off:Nat},eZ G w f b off->eZ H w f b off
 | .nil,_,_,_=>trivial
 | .cons _ _ _ _ _,_,_,⟨h1,h2,⟨a,c,hc,hk⟩,hr⟩=>⟨hG _ h2 h1,h2,⟨a,c,hc,hk.imp id fun ⟨b',off',e,h⟩=>⟨b',off',e,h.imp hG⟩⟩,hr.imp hG⟩
theorem eZ.keptS {S G:Nat->Prop} {w w':World} (hk:aC S w w') (hS:∀ k,S k->¬ G k):∀ {f:F} {b off:Nat},eZ G w f b off->eZ G w' f b off
 | .nil,_,_,_=>trivial
 | .cons _ _ _ _ _, b, _, ⟨h1, h2, ⟨a, c, ⟨c0, c1, c2, c3⟩, hks⟩, hr⟩ => by
   have hb:¬ S b:=fun hs=>hS b hs h1
   exact ⟨h1,Nat.lt_of_lt_of_le h2 hk.size,⟨a,c,⟨hk.cell c0 hb,hk.cell c1 hb,hk.cell c2 hb,hk.cell c3 hb⟩,hks.imp id fun ⟨b',off',e,h⟩=>⟨b',off',e,h.keptS hk hS⟩⟩,hr.keptS hk hS⟩
theorem aE {w w':World} (hb:Below w.heap.size w w') (S:Nat->Prop):aC S w w':=⟨hb.os,hb.tape,hb.output,hb.size,fun k hk _=>hb.block k hk⟩
theorem eZ.kept {G:Nat->Prop} {w w':World} (hb:Below w.heap.size w w') {f:F} {b off:Nat} (h:eZ G w f b off):eZ G w' f b off :=
 h.keptS (S:=fun _=>False) (aE hb _) (fun _ h=>h.elim)
theorem aQ.imp {G H:Nat->Prop} {w:World} {a:Option Addr} {ks:F} (h:aQ G w a ks) (hG:∀ b,b<w.heap.size->G b->H b):aQ H w a ks :=
 Or.imp id (fun ⟨b,off,e,h⟩=>⟨b,off,e,h.imp hG⟩) h
theorem aQ.keptS {S G:Nat->Prop} {w w':World} {a:Option Addr} {ks:F} (h:aQ G w a ks) (hk:aC S w w') (hS:∀ k,S k->¬ G k):aQ G w' a ks :=
 Or.imp id (fun ⟨b,off,e,h⟩=>⟨b,off,e,h.keptS hk hS⟩) h
theorem aQ.kept {G:Nat->Prop} {w w':World} {a:Option Addr} {ks:F} (h:aQ G w a ks) (hb:Below w.heap.size w w'):aQ G w' a ks :=
 Or.imp id (fun ⟨b,off,e,h⟩=>⟨b,off,e,h.kept hb⟩) h
theorem cC.keptS {S:Nat->Prop} {lo:Nat} {w w':World} {a:Option Addr} {ks:F} (h:cC lo w a ks) (hk:aC S w w') (hS:∀ k,S k->k<lo):cC lo w' a ks :=
 aQ.keptS h hk (fun k hk h=>by have:=hS k hk;omega)
theorem cC.kept {lo:Nat} {w w':World} {a:Option Addr} {ks:F} (h:cC lo w a ks) (hb:Below w.heap.size w w'):cC lo w' a ks:=aQ.kept h hb
theorem cC.mono {lo lo':Nat} {w:World} {a:Option Addr} {ks:F} (h:cC lo w a ks) (hlo:lo'<=lo):cC lo' w a ks:=aQ.imp h (fun _ _ h=>Nat.le_trans hlo h)
theorem eZ.drop {G:Nat->Prop} {w:World}:∀ {f:F} {b off:Nat} (j:Nat),eZ G w f b off->eZ G w (f.drop j) b (off+j*4)
 | f,_,off,0,h=>by rw [F.drop_zero,Nat.zero_mul,Nat.add_zero];exact h
 | .nil,_,_,_+1,_=>trivial
 | .cons _ _ _ _ _, _, off, j + 1, ⟨_, _, _, hr⟩ => by
   have:=hr.drop j;rw [show off+4+j*4=off+(j+1)*4 by omega] at this;exact this
end
section
open Go.RowKit
theorem l4 {L:List Tk} {y:List UInt8} {p:Nat} (h:L.length<=p):isS L y p=false:=by
 unfold isS;rw [List.getElem?_eq_none h]
theorem Lt {L:List Tk} {p:Nat} (h:L.length<=p):isM L p=false:=by unfold isM;rw [l4 h,l4 h,l4 h];rfl
theorem Lu {L:List Tk} {p:Nat} (h:L.length<=p):isA L p=false:=by unfold isA;rw [l4 h,l4 h];rfl
def cO:F->Nat
 | .nil=>0
 | .cons _ _ _ ks r=>1+cO ks+cO r
def aH (t:TN):Nat:=1+cO t.ks
theorem gV (t:TN):cO t.f=aH t:=by unfold TN.f aH;rw [cO,cO,Nat.add_zero]
theorem vZ:∀ (f:F) (l:Int),pQ f l<=l
 | .nil,l=>Int.le_refl _
 | .cons _ _ _ ks r, l => by
   rw [pQ];split
   · exact Int.le_refl _
   · have:=vZ ks (l-1)
     have:=vZ r (pQ ks (l-1));omega
theorem qY:∀ (f:F) (l:Int),(cO f:Int)<=l->pQ f l=l-cO f
 | .nil,l,_=>by rw [pQ,cO];omega
 | .cons _ _ _ ks r, l, h => by
   rw [cO] at h;rw [pQ,if_neg (by omega),qY ks (l-1) (by omega),qY r _ (by omega),cO];omega
theorem vY:∀ (f:F) (l:Int),0<=l->l<cO f->pQ f l<0
 | .nil,l,h0,h=>by rw [cO] at h;omega
 | .cons _ _ _ ks r, l, h0, h => by
   rw [cO] at h;rw [pQ,if_neg (by omega)];by_cases h1:(cO ks:Int)<=l-1
   · rw [qY ks _ h1]
     exact vY r _ (by omega) (by omega)
   · by_cases h2:0<=l-1
     · have:=vY ks (l-1) h2 (by omega)
       have:=vZ r (pQ ks (l-1));omega
     · have:=vZ ks (l-1)
       have:=vZ r (pQ ks (l-1));omega
theorem Ao (t:TN):pQ t.ks 31<0 ↔ 32<aH t:=by
 unfold aH;by_cases h:(cO t.ks:Int)<=31
 · rw [qY _ _ h];omega
 · have:=vY t.ks 31 (by omega) (by omega)
   omega
def cD (t:Tk):Prop:=(t.kind=1/\bD t.text=true)\/(t.kind=2/\0<=t.num/\t.num<=9223372036854775807)\/t.kind=3
theorem FH {l:List UInt8} {n:Nat} {k v:Int} {c:UInt8} {r:List UInt8} (hl:l=c::r) (hc:cH c=true) (h:nE l=.tok k n v):k=1/\bD (l.take n)=true:=by
 unfold nE at h;split at h
 · cases h
 · rename_i h8
   cases h;refine ⟨rfl,?_⟩;have hp:1<=cE aZ l:=by rw [hl];exact tL (by unfold aZ;rw [hc];rfl)
   have hall:∀ d∈l.take (cE aZ l),aZ d=true:=by
    rw [AO];exact fun d hd=>List.all_eq_true.1 List.all_takeWhile d hd
   have hlen:(l.take (cE aZ l)).length<=8:=by rw [List.length_take];omega
   rw [hl] at hall hlen |-
   obtain ⟨m,hm⟩:∃ m,cE aZ (c::r)=m+1:=⟨cE aZ (c::r)-1,by rw [hl] at hp;omega⟩;rw [hm] at hall hlen |-
   rw [List.take_succ_cons] at hall hlen |-
   rw [lA,hc,decide_eq_true (by simpa using hlen),Bool.true_and,Bool.true_and,List.all_eq_true];exact fun d hd=>hall d (by simp [hd])
theorem DD {l:List UInt8} {n:Nat} {k v:Int} (p:Nat) (h:cL l=.tok k n v):cD ⟨k,l.take n,v,p⟩:=by
 have hf:=yN h;cases l with
 | nil=>cases h
 | cons c r =>
   simp only [cL] at h;split at h
   · rename_i hc
     obtain ⟨rfl,hg⟩:=FH rfl hc h;exact .inl ⟨rfl,hg⟩
   · split at h
     · unfold uP at h
       split at h
       · cases h
       · split at h
         · cases h
         · cases h;exact .inr (.inl ⟨rfl,hf.2.2⟩)
     · unfold kK at h
       split at h
       · cases h
       · cases h;exact .inr (.inr rfl)
theorem IM (l:List UInt8) (p:Nat):∀ ts,dH l p=.ok ts->∀ t∈ts,cD t:=by
 refine lY (C:=fun l p=>∀ ts,dH l p=.ok ts->∀ t∈ts,cD t) ?_ ?_ ?_ ?_ l.length l p (Nat.le_refl _)
 · intro p ts h
   rw [lX] at h;cases h;intro t ht;cases ht
 · intro r p ih ts h
   rw [e9] at h;exact ih ts h
 · intro l p e h1 h0 hf ts h
   rw [qO h0 h1 hf] at h;cases h
 · intro l p k n v h1 h0 hf hn hl ih ts h
   rw [iF h1 hn hf] at h;obtain ⟨ts',h',rfl⟩:=wK h;intro t ht;rcases List.mem_cons.1 ht with rfl | ht
   · exact DD p hf
   · exact ih ts' h' t ht
theorem oD {l:List UInt8} {ts:List Tk} (h:jY l=.ok ts):∀ t∈ts,cD t:=by
 unfold jY at h;split at h
 · cases h
 · exact IM _ _ _ h
def OkT (t:TN):Prop:=bO t.f=0
theorem MB {v:Int} (h:0<=v):OkT (tH v):=by
 have e:nK ⟨#[110,117,109]⟩ ⟨#[]⟩ v 0=0:=by
  unfold nK;rw [show (dL ⟨#[110,117,109]⟩ != ((0:Nat):Int))=false from rfl,show bY ⟨#[110,117,109]⟩=false from rfl,decide_eq_false (show ¬ v<0 by omega),Bool.and_false,Bool.false_and];rfl
 show bO (.cons _ _ _ _ .nil)=0;rw [bO];exact (if_pos e).trans rfl
theorem KG {x:List UInt8} (h:bD x=true):OkT (eU x):=by
 have e:nK ⟨#[110,97,109,101]⟩ ⟨x.toArray⟩ 0 0=0:=by
  unfold nK;rw [show (dL ⟨#[110,97,109,101]⟩ != ((0:Nat):Int))=false from rfl,show cF ⟨#[110,97,109,101]⟩=false from rfl,show bD (⟨x.toArray⟩:ByteArray).data.toList=true from h,Bool.not_true,Bool.and_false,Bool.false_and];rfl
 show bO (.cons _ _ _ _ .nil)=0;rw [bO];exact (if_pos e).trans rfl
theorem MC {k:TN} (h:OkT k):OkT (oR k):=by
 have e:nK ⟨#[110,101,103]⟩ ⟨#[]⟩ 0 k.f.len=0:=rfl;have h':bO k.f=0:=h;show bO (.cons ⟨#[110,101,103]⟩ ⟨#[]⟩ 0 k.f .nil)=0;rw [bO,if_pos e,if_pos h'];rfl
def sR (o:List UInt8):Prop:=o=[43]\/o=[45]\/o=[42]\/o=[47]\/o=[37]
theorem In {o:List UInt8} {a b:TN} (ho:sR o) (ha:OkT a) (hb:OkT b):OkT (gP o a b):=by
 have e:nK ⟨o.toArray⟩ ⟨#[]⟩ 0 2=0:=by rcases ho with rfl | rfl | rfl | rfl | rfl <;> rfl
 have hk:bO (.cons a.op a.nm a.n a.ks b.f)=0:=by
  have ha':bO a.f=0:=ha;rw [wA] at ha';rw [bO];by_cases h1:nK a.op a.nm a.n a.ks.len=0
  · rw [if_pos h1] at ha' |-
    rw [if_pos ha'];exact hb
  · rw [if_neg h1] at ha';exact absurd ha' h1
 have e2:nK ⟨o.toArray⟩ ⟨#[]⟩ 0 (F.cons a.op a.nm a.n a.ks b.f).len=0:=e;show bO (.cons ⟨o.toArray⟩ ⟨#[]⟩ 0 (.cons a.op a.nm a.n a.ks b.f) .nil)=0;rw [bO,if_pos e2,if_pos hk];rfl
theorem Hs (v:Int):aH (tH v)=1:=rfl
theorem Fc (x:List UInt8):aH (eU x)=1:=rfl
theorem Ht (k:TN):aH (oR k)=1+aH k:=by unfold oR;rw [aH,gV]
theorem AX (o:List UInt8) (a b:TN):aH (gP o a b)=1+aH a+aH b:=by
 unfold gP;rw [aH,cO,gV];unfold aH;omega
theorem opM {L:List Tk} {p:Nat} (h:isM L p=true):sR (eM L p):=by
 unfold isM isS at h;unfold eM;cases e:L[p]? with
 | none=>rw [e] at h;simp at h
 | some t =>
   rw [e] at h;simp only [Bool.or_eq_true,Bool.and_eq_true,beq_iff_eq] at h;rcases h with (⟨_,h⟩ | ⟨_,h⟩) | ⟨_,h⟩
   · exact .inr (.inr (.inl h))
   · exact .inr (.inr (.inr (.inl h)))
   · exact .inr (.inr (.inr (.inr h)))
theorem opA {L:List Tk} {p:Nat} (h:isA L p=true):sR (eM L p):=by
 unfold isA isS at h;unfold eM;cases e:L[p]? with
 | none=>rw [e] at h;simp at h
 | some t =>
   rw [e] at h;simp only [Bool.or_eq_true,Bool.and_eq_true,beq_iff_eq] at h;rcases h with ⟨_,h⟩ | ⟨_,h⟩
   · exact .inl h
   · exact .inr (.inl h)
def Md.hand:Md->Nat
 | .prodL n=>aH n
 | .sumL n=>aH n
 | _=>0
def Md.fine:Md->Prop
 | .prodL n=>OkT n
 | .sumL n=>OkT n
 | _=>True
theorem mT {s:RS} (h:(a6 s).bad=0):s.bad=0/\(a6 s).cnt=s.cnt+1/\s.cnt+1<=32/\(a6 s).pos=s.pos+1/\(a6 s).whr=s.whr:=by
 unfold a6 at h |-
 by_cases hb:s.bad=0
 · rw [if_pos hb] at h |-
   by_cases h32:32<s.cnt+1
   · rw [if_pos h32] at h;cases h
   · rw [if_neg h32];exact ⟨hb,rfl,by omega,rfl,rfl⟩
 · rw [if_neg hb] at h;exact absurd h hb
theorem qV (e:Int) (he:¬ e=0) (s:RS):¬ (bV e s).bad=0:=by
 unfold bV;by_cases hb:s.bad=0
 · rw [if_pos hb];exact he
 · rw [if_neg hb];exact hb
theorem GX {L:List Tk} {s:RS} (h:(eY L s).bad=0):s.bad=0/\isS L [41] s.pos=true/\eY L s=bW s:=by
 unfold eY at h |-
 by_cases hc:(s.bad == 0 && !isS L [41] s.pos)=true
 · rw [if_pos hc] at h
   exact absurd h (qV 2 (by decide) s)
 · rw [if_neg hc] at h |-
   have hb:s.bad=0:=h;refine ⟨hb,?_,rfl⟩;rw [hb] at hc;simpa using hc
theorem e7 (L:List Tk):∀ (f:Nat) (md:Md) (s:RS),¬ s.bad=0->(pr L f md s).2=s
 | 0,_,_,_=>rfl
 | f+1,.fac,s,h=>by rw [pr,if_neg h]
 | f+1,.prod,s,h=>by rw [pr,e7 L f .fac s h,e7 L f _ s h]
 | f+1,.prodL n,s,h=>by rw [pr,if_neg (by simp [h])]
 | f+1,.sum,s,h=>by rw [pr,e7 L f .prod s h,e7 L f _ s h]
 | f+1,.sumL n,s,h=>by rw [pr,if_neg (by simp [h])]
theorem pH {L:List Tk} {f:Nat} {md:Md} {s:RS} (h:(pr L f md s).2.bad=0):s.bad=0:=by
 refine Classical.byContradiction fun hs=>?_
 rw [e7 L f md s hs] at h;exact hs h
theorem gE (L:List Tk) (hL:∀ t∈L,cD t):∀ (f:Nat) (md:Md) (s:RS),bZ (L.length-s.pos) md<=f->md.fine->s.cnt<=32->(pr L f md s).2.bad=0 ->
 s.bad=0/\OkT (pr L f md s).1/\(pr L f md s).2.cnt+md.hand=s.cnt+aH (pr L f md s).1/\(pr L f md s).2.cnt<=32
 | 0,md,s,h,_,_,_=>by cases md <;> simp [bZ] at h
 | f + 1, .fac, s, hn, _, hc, h => by
   simp only [bZ] at hn;rw [pr] at h |-
   by_cases hb:s.bad=0
   · rw [if_pos hb] at h |-
     cases e:L[s.pos]? with
     | none=>rw [e] at h;exact absurd h (qV 2 (by decide) s)
     | some t =>
       obtain ⟨hlt,ht⟩:=List.getElem?_eq_some_iff.1 e;have hg:=hL t (ht ▸ List.getElem_mem hlt);rw [e] at h;simp only at h |-
       by_cases h2:t.kind=2
       · rw [if_pos h2] at h |-
         dsimp only at h |-
         obtain ⟨_,k1,k2,_⟩:=mT h;refine ⟨hb,MB ?_,by rw [Hs];simp only [Md.hand];omega,by omega⟩;rcases hg with ⟨hk,_⟩ | ⟨_,h0,_⟩ | hk
         · rw [h2] at hk;cases hk
         · exact h0
         · rw [h2] at hk;cases hk
       rw [if_neg h2] at h |-
       by_cases h1:t.kind=1
       · rw [if_pos h1] at h |-
         dsimp only at h |-
         obtain ⟨_,k1,k2,_⟩:=mT h;refine ⟨hb,KG ?_,by rw [Fc];simp only [Md.hand];omega,by omega⟩;rcases hg with ⟨_,hk⟩ | ⟨hk,_⟩ | hk
         · exact hk
         · rw [h1] at hk;cases hk
         · rw [h1] at hk;cases hk
       rw [if_neg h1] at h |-
       by_cases h45:t.text=[45]
       · rw [if_pos h45] at h |-
         simp only at h |-
         obtain ⟨_,k1,k2,k3,_⟩:=mT (pH h);obtain ⟨_,g1,g2,g3⟩:=gE L hL f .fac (a6 s) (by rw [k3];simp only [bZ];omega) trivial (by omega) h;refine ⟨hb,MC g1,?_,g3⟩;rw [Ht];simp only [Md.hand] at g2 |-;omega
       rw [if_neg h45] at h |-
       by_cases h40:t.text=[40]
       · rw [if_pos h40] at h |-
         simp only at h |-
         obtain ⟨c1,c2,c3⟩:=GX h;obtain ⟨_,g1,g2,g3⟩:=gE L hL f .sum (bW s) (by show bZ (L.length-(s.pos+1)) _<=f;simp only [bZ];omega) trivial hc c1;rw [c3];exact ⟨hb,g1,g2,g3⟩
       rw [if_neg h40] at h;exact absurd h (qV 2 (by decide) s)
   · rw [if_neg hb] at h;exact absurd h hb
 | f + 1, .prod, s, hn, _, hc, h => by
   simp only [bZ] at hn;rw [pr] at h |-
   have hp:=dI L f .fac s;have hk:=pH h;obtain ⟨a0,a1,a2,a3⟩:=gE L hL f .fac s (by simp only [bZ];omega) trivial hc hk;obtain ⟨_,b1,b2,b3⟩:=gE L hL f (.prodL (pr L f .fac s).1) (pr L f .fac s).2 (by simp only [bZ];omega) a1 a3 h;simp only [Md.hand] at a2 b2 |-
   exact ⟨a0,b1,by omega,b3⟩
 | f + 1, .prodL n, s, hn, hf, hc, h => by
   simp only [bZ] at hn;rw [pr] at h |-
   by_cases hcnd:(s.bad == 0 && isM L s.pos)=true
   · rw [if_pos hcnd] at h |-
     simp only [Bool.and_eq_true,beq_iff_eq] at hcnd;have hlt:=pN hcnd.2;have hp:=dI L f .fac (a6 s);rw [cY] at hp;have hk:(pr L f .fac (a6 s)).2.bad=0:=pH h;have ht:=pH hk;obtain ⟨_,k1,k2,k3,_⟩:=mT ht;obtain ⟨_,a1,a2,a3⟩:=gE L hL f .fac (a6 s) (by rw [k3];simp only [bZ];omega) trivial (by omega) hk;obtain ⟨_,b1,b2,b3⟩:=gE L hL f (.prodL (gP (eM L s.pos) n (pr L f .fac (a6 s)).1)) _ (by simp only [bZ];omega) (In (opM hcnd.2) hf a1) a3 h;simp only [Md.hand] at a2 b2 |-
     rw [AX] at b2;exact ⟨hcnd.1,b1,by omega,b3⟩
   · rw [if_neg hcnd] at h |-
     exact ⟨h,hf,rfl,hc⟩
 | f + 1, .sum, s, hn, _, hc, h => by
   simp only [bZ] at hn;rw [pr] at h |-
   have hp:=dI L f .prod s;have hk:=pH h;obtain ⟨a0,a1,a2,a3⟩:=gE L hL f .prod s (by simp only [bZ];omega) trivial hc hk;obtain ⟨_,b1,b2,b3⟩:=gE L hL f (.sumL (pr L f .prod s).1) (pr L f .prod s).2 (by simp only [bZ];omega) a1 a3 h;simp only [Md.hand] at a2 b2 |-
   exact ⟨a0,b1,by omega,b3⟩
 | f + 1, .sumL n, s, hn, hf, hc, h => by
   simp only [bZ] at hn;rw [pr] at h |-
   by_cases hcnd:(s.bad == 0 && isA L s.pos)=true
   · rw [if_pos hcnd] at h |-
     simp only [Bool.and_eq_true,beq_iff_eq] at hcnd;have hlt:=pO hcnd.2;have hp:=dI L f .prod (a6 s);rw [cY] at hp;have hk:(pr L f .prod (a6 s)).2.bad=0:=pH h;have ht:=pH hk;obtain ⟨_,k1,k2,k3,_⟩:=mT ht;obtain ⟨_,a1,a2,a3⟩:=gE L hL f .prod (a6 s) (by rw [k3];simp only [bZ];omega) trivial (by omega) hk;obtain ⟨_,b1,b2,b3⟩:=gE L hL f (.sumL (gP (eM L s.pos) n (pr L f .prod (a6 s)).1)) _ (by simp only [bZ];omega) (In (opA hcnd.2) hf a1) a3 h;simp only [Md.hand] at a2 b2 |-
     rw [AX] at b2;exact ⟨hcnd.1,b1,by omega,b3⟩
   · rw [if_neg hcnd] at h |-
     exact ⟨h,hf,rfl,hc⟩
theorem Bs {L:List Tk} (hL:∀ t∈L,cD t) {p q:Nat} {t:TN} (h:ofL L p=.ok t q):aK t=0/\aH t<=32:=by
 unfold ofL at h;split at h
 · rename_i hb
   cases h;obtain ⟨_,g1,g2,g3⟩:=gE L hL (4*(L.length-p)+4) .sum ⟨p,0,0,0⟩ (by simp only [bZ];omega) trivial (Nat.zero_le _) hb
   have hs:aH (pE L .sum ⟨p,0,0,0⟩).1<=32:=by
    simp only [Md.hand] at g2;have:(pE L .sum ⟨p,0,0,0⟩).2.cnt+0=0+aH (pE L .sum ⟨p,0,0,0⟩).1:=g2;have:(pE L .sum ⟨p,0,0,0⟩).2.cnt<=32:=g3;omega
   refine ⟨?_,hs⟩;unfold aK;rw [if_neg (by rw [Ao];omega)];exact g1
 · cases h
end
section
open Go.RowKit
theorem tD {B:Nat} {a w:World} (h:Below B a w) (n:Nat):Below B a (w.drewN n):=⟨h.os,h.tape,h.output,h.size,h.block⟩
end
section
open Go.RowKit
def Cm (lim:Nat) (w:World) (a:Option Addr) (ts:List Tk):Prop :=
 ts=[]\/∃ b off,a=some ⟨b,off,none⟩/\b<lim/\∀ j (h:j<ts.length),w.cell? ⟨b,off+j*4,none⟩=some (.int .i64 ts[j].kind)/\w.cell? ⟨b,off+j*4+1,none⟩=some (.string ⟨ts[j].text.toArray⟩) /\
  w.cell? ⟨b,off+j*4+2,none⟩=some (.int .i64 ts[j].num)/\w.cell? ⟨b,off+j*4+3,none⟩=some (.int .i64 ts[j].place)
theorem Cm.kept {lim:Nat} {S:Nat->Prop} {w w':World} {a:Option Addr} {ts:List Tk} (h:Cm lim w a ts) (hk:aC S w w') (hS:∀ k,S k->lim<=k):Cm lim w' a ts:=by
 rcases h with h | ⟨b,off,rfl,hlt,hc⟩
 · exact .inl h
 · have hb:¬ S b:=fun hs=>by have:=hS b hs;omega
   refine .inr ⟨b,off,rfl,hlt,fun j hj=>?_⟩;obtain ⟨c0,c1,c2,c3⟩:=hc j hj;exact ⟨hk.cell c0 hb,hk.cell c1 hb,hk.cell c2 hb,hk.cell c3 hb⟩
theorem Ec {w:World} {a:Option Addr} {ts:List Tk} (h:iC w a ts):Cm w.heap.size w a ts:=h.imp id fun ⟨b,off,e,hlt,hc⟩=>⟨b,off,e,hlt,hc⟩
theorem qQ {rb:Nat} {w0 w:World} (h:aC (· = rb) w0 w) (o:Nat) (v:Value):aC (· = rb) w0 (w.setCell ⟨rb,o,none⟩ v):=h.setCell (p:=⟨rb,o,none⟩) (.inl rfl) v
theorem xH {ts:List Tk} {rb:Nat} {a:Option Addr} {w:World} (h:Cm rb w a ts) {p:Nat} (hp:p<ts.length):∃ b off,a=some ⟨b,off,none⟩/\b<rb/\w.cell? ⟨b,off+p*4,none⟩=some (.int .i64 ts[p].kind)/\w.cell? ⟨b,off+p*4+1,none⟩=some (.string ⟨ts[p].text.toArray⟩) /\
 w.cell? ⟨b,off+p*4+2,none⟩=some (.int .i64 ts[p].num)/\w.cell? ⟨b,off+p*4+3,none⟩=some (.int .i64 ts[p].place):=by
 rcases h with h | ⟨b,off,e,hlt,hc⟩
 · rw [h] at hp;simp at hp
 · exact ⟨b,off,e,hlt,hc p hp⟩
end
section
open Go.RowKit
abbrev Da (w:World) (B:Nat) (o m:ByteArray) (n:Int) (a:Option Addr) (l c:Nat):World :=
 (((w.setCell ⟨B,0,none⟩ (.string o)).setCell ⟨B,1,none⟩ (.string m)).setCell ⟨B,2,none⟩ (.int .i64 n)).setCell ⟨B,3,none⟩ (.slice a l c)
theorem yF (w:World) (B:Nat) (o m:ByteArray) (n:Int) (a:Option Addr) (l c:Nat):aC (· = B) w (Da w B o m n a l c) :=
 ((((aC.refl (· = B) w).setCell (p:=⟨B,0,none⟩) (.inl rfl) _).setCell (p:=⟨B,1,none⟩) (.inl rfl) _).setCell (p:=⟨B,2,none⟩) (.inl rfl) _).setCell (p:=⟨B,3,none⟩) (.inl rfl) _
end
end
section
section
open Go.RowKit
end
section
open Go.RowKit
theorem zL {q:UInt8->Bool}:∀ (x r:List UInt8),(∀ c∈x,q c=true)->(∀ c t,r=c::t->q c=false)->cE q (x++r)=x.length
 | [], r, _, h => by
   cases r with
   | nil=>rfl
   | cons c t =>
     unfold cE;rw [List.nil_append,List.takeWhile_cons_of_neg (by rw [h c t rfl];decide)]
 | c :: x, r, h, h2 => by
   have ih:=zL x r (fun d hd=>h d (by simp [hd])) h2;unfold cE at ih |-
   rw [List.cons_append,List.takeWhile_cons_of_pos (h c (by simp)),List.length_cons,ih,List.length_cons]
def cW (t:Tk):Int×List UInt8×Int:=(t.kind,t.text,t.num)
theorem Dm (l:List UInt8) (p:Nat):∀ q e,dH l p=.bad q e->e=1\/e=2\/e=5:=by
 refine lY (C:=fun l p=>∀ q e,dH l p=.bad q e->e=1\/e=2\/e=5) ?_ ?_ ?_ ?_ l.length l p (Nat.le_refl _)
 · intro p q e h
   rw [lX] at h;cases h
 · intro r p ih q e h
   rw [e9] at h;exact ih q e h
 · intro l p e h1 h0 hf q e2 h
   rw [qO h0 h1 hf] at h;cases h;exact yO hf
 · intro l p k n v h1 h0 hf hn hl ih q e h
   rw [iF h1 hn hf] at h;cases hx:dH (l.drop n) (p+n) with
   | ok ts=>rw [hx] at h;cases h
   | bad q' e'=>rw [hx] at h;cases h;exact ih _ _ hx
theorem sX {l:List UInt8} {p:Nat} {e:Int} (h:jY l=.bad p e):(e == 0)=false/\(e != 0)=true:=by
 have:e=4\/e=1\/e=2\/e=5:=by
  unfold jY at h;split at h
  · cases h;exact .inl rfl
  · exact .inr (Dm _ _ _ _ h)
 rcases this with h | h | h | h <;> rw [h] <;> exact ⟨by decide,by decide⟩
end
section
open Go.RowKit
def JT (q:EJ) (w:World) (e:Ending) (w':World):Prop:=Below w.heap.size w w' /\
 match q with
 | .bad p er=>e=.returned (.tuple #[eH ⟨#[]⟩ ⟨#[]⟩ 0 none 0 0,.int .i64 (p:Nat),.int .i64 er])
 | .ok t p=>∃ a c,e=.returned (.tuple #[eH t.op t.nm t.n a t.ks.len c,.int .i64 (p:Nat),.int .i64 0])/\cC w.heap.size w' a t.ks
end
section
open Go.RowKit
theorem IN {l:List UInt8} {ts:List Tk} (h:jY l=.ok ts):ts.length<=1024:=by
 unfold jY at h;split at h
 · cases h
 · have:=(FN _ _ _ h).2.1
   omega
end
end
end Go.Proofs.YtgfkjkokmcejbaaGreatDoor
