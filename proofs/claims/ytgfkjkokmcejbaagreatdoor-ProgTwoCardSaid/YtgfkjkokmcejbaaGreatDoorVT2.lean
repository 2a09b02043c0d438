/-
 No statement: what ProgTwoLift needs, of the texts OE2.
-/
import Derived.Test.YtgfkjkokmcejbaaGreatDoorVT1
set_option maxHeartbeats 40000000
set_option maxRecDepth 100000
namespace Go.Proofs.YtgfkjkokmcejbaaGreatDoor
open Go.RowKit
section
section
open Go.RowKit
theorem Ro (s:ByteArray) (_h1:1<=s.size) (hm:s.size<=281474976710656) (w:World) {n:Nat} (hn:bL aV s.data.toList=n) (_hle:n<=s.size) (a1:1<n) (a2:((s[0].toNat:Int) == 48)=true):Calls Tryz.prog 215 #[.string s] w fun e w'=>e=.returned (.tuple #[tkV 0 ⟨#[]⟩ 0 0,.int .i64 2])/\Below w.heap.size w w':=by
 have C:=aA (p:=∀ w,Calls Tryz.prog 239 #[.string s,.func (.func 214) #[] #[]] w fun e w'=>e=.returned (.int .i64 (n:Int))/\w=w') (fun w=>by have:=eW s hm w;rwa [hn] at this);clear hn;go_enter Tryz.func215,Tryz.ntmps215
 go_wp2_with ((go_at_call 239;refine (C.out _).mono ?_;rintro e w' ⟨rfl,rfl⟩))
 refine bodyPost_ret (v:=.tuple #[tkV 0 ⟨#[]⟩ 0 0,.int .i64 2]) (by simp [results,Tryz.results215,go_sem]) rfl ⟨rfl,?_⟩;exact bA0 _ _
theorem QH (s:ByteArray) (_h1:1<=s.size) (hm:s.size<=281474976710656) (w:World) {n:Nat} (hn:bL aV s.data.toList=n) (_hle:n<=s.size) (a1:¬ 1<n) (b1:n<s.size) (b2:bE s[n]=true):Calls Tryz.prog 215 #[.string s] w fun e w'=>e=.returned (.tuple #[tkV 0 ⟨#[]⟩ 0 0,.int .i64 2])/\Below w.heap.size w w':=by
 have C:=aA (p:=∀ w,Calls Tryz.prog 239 #[.string s,.func (.func 214) #[] #[]] w fun e w'=>e=.returned (.int .i64 (n:Int))/\w=w') (fun w=>by have:=eW s hm w;rwa [hn] at this);have D:=aA (p:=∀ w,Calls Tryz.prog 212 #[.int .u8 s[n].toNat] w fun e w'=>e=.returned (.bool true)/\w=w') (fun w=>by have:=eM s[n] w;rwa [b2] at this);clear b2;clear hn;go_enter Tryz.func215,Tryz.ntmps215
 go_wp2_with (first | (go_at_call 239;refine (C.out _).mono ?_;rintro e w' ⟨rfl,rfl⟩) | (go_at_call 212;refine (D.out _).mono ?_;rintro e w' ⟨rfl,rfl⟩))
 refine bodyPost_ret (v:=.tuple #[tkV 0 ⟨#[]⟩ 0 0,.int .i64 2]) (by simp [results,Tryz.results215,go_sem]) rfl ⟨rfl,?_⟩;exact bA0 _ _
theorem QG (s:ByteArray) (_h1:1<=s.size) (hm:s.size<=281474976710656) (w:World) {n:Nat} (hn:bL aV s.data.toList=n) (_hle:n<=s.size) (a1:1<n) (a2:((s[0].toNat:Int) == 48)=false) (b1:n<s.size) (b2:bE s[n]=true):Calls Tryz.prog 215 #[.string s] w fun e w'=>e=.returned (.tuple #[tkV 0 ⟨#[]⟩ 0 0,.int .i64 2])/\Below w.heap.size w w':=by
 have C:=aA (p:=∀ w,Calls Tryz.prog 239 #[.string s,.func (.func 214) #[] #[]] w fun e w'=>e=.returned (.int .i64 (n:Int))/\w=w') (fun w=>by have:=eW s hm w;rwa [hn] at this);have D:=aA (p:=∀ w,Calls Tryz.prog 212 #[.int .u8 s[n].toNat] w fun e w'=>e=.returned (.bool true)/\w=w') (fun w=>by have:=eM s[n] w;rwa [b2] at this);clear b2;clear hn;go_enter Tryz.func215,Tryz.ntmps215
 go_wp2_with (first | (go_at_call 239;refine (C.out _).mono ?_;rintro e w' ⟨rfl,rfl⟩) | (go_at_call 212;refine (D.out _).mono ?_;rintro e w' ⟨rfl,rfl⟩))
 refine bodyPost_ret (v:=.tuple #[tkV 0 ⟨#[]⟩ 0 0,.int .i64 2]) (by simp [results,Tryz.results215,go_sem]) rfl ⟨rfl,?_⟩;exact bA0 _ _
theorem OK (s:ByteArray) (_h1:1<=s.size) (hm:s.size<=281474976710656) (w:World) {n:Nat} (hn:bL aV s.data.toList=n) (_hle:n<=s.size) (a1:¬ 1<n) (b1:n<s.size) (b2:bE s[n]=false) {v:Int} (hp:Lib.parseIntB 64 (s.extract 0 n).data.toList=.ok v):Calls Tryz.prog 215 #[.string s] w fun e w'=>e=.returned (.tuple #[tkV 2 (s.extract 0 n) v 0,.int .i64 0])/\Below w.heap.size w w':=by
 have C:=aA (p:=∀ w,Calls Tryz.prog 239 #[.string s,.func (.func 214) #[] #[]] w fun e w'=>e=.returned (.int .i64 (n:Int))/\w=w') (fun w=>by have:=eW s hm w;rwa [hn] at this);have D:=aA (p:=∀ w,Calls Tryz.prog 212 #[.int .u8 s[n].toNat] w fun e w'=>e=.returned (.bool false)/\w=w') (fun w=>by have:=eM s[n] w;rwa [b2] at this);clear b2;have P:=aA (fun w=>sQ (s.extract 0 n) v (by rw [ByteArray.size_extract];omega) hp w);have T:=aA (fun w=>iU 2 (s.extract 0 n) (by rw [ByteArray.size_extract];omega) w);clear hp;clear hn;go_enter Tryz.func215,Tryz.ntmps215
 go_wp2_with (first | (go_at_call 239;refine (C.out _).mono ?_;rintro e w' ⟨rfl,rfl⟩) | (go_at_call 212;refine (D.out _).mono ?_;rintro e w' ⟨rfl,rfl⟩))
 refine (P.out _).mono ?_;rintro e w1 ⟨rfl,hb⟩;have hB:=(hb.block w.heap.size (by simp)).trans (heap_alloc_new w _);have B1:=aA (show Below w.heap.size w w1 from (bA0 w _).trans (hb.mono (by simp)));have c0:=aA hB;clear hb;clear hB;go_wp2_with fail
 refine (T.out _).mono ?_;rintro e w2 ⟨rfl,hb⟩;have hlt:=aK c0.out;have hB:=(hb.block w.heap.size hlt).trans c0.out;have B2:=aA (show Below w.heap.size w w2 from B1.out.trans (hb.mono (by omega)));obtain ⟨⟨k0,k1,k2,k3⟩,g0,g1,g2,g3⟩:=aL hB;have c2:=aA hB;have hlt2:=aK hB;clear hb hB;go_wp2_with fail
 obtain ⟨⟨d0,d1,d2,d3⟩, -⟩:=aL (s9 c2.out (.int .i64 2) (.string (s.extract 0 n)) (.int .i64 v) (.int .i64 0) (tkO 2 (s.extract 0 n) v 0));exact bodyPost_ret (v:=.tuple #[tkV 2 (s.extract 0 n) v 0,.int .i64 0]) (by simp [results,Tryz.results215,go_sem,d0,d1,d2,d3]) rfl ⟨rfl,(bY B2.out (Nat.le_refl _) _ _ _ _).alloc (by have:=(bY B2.out (Nat.le_refl w.heap.size) (.int .i64 2) (.string (s.extract 0 n)) (.int .i64 v) (.int .i64 0)).size;exact this) _⟩
theorem OL (s:ByteArray) (_h1:1<=s.size) (hm:s.size<=281474976710656) (w:World) {n:Nat} (hn:bL aV s.data.toList=n) (_hle:n<=s.size) (a1:¬ 1<n) (b1:n<s.size) (b2:bE s[n]=false) (hw:iG w) (hp:∀ v,¬ Lib.parseIntB 64 (s.extract 0 n).data.toList=.ok v):Calls Tryz.prog 215 #[.string s] w fun e w'=>e=.returned (.tuple #[tkV 0 ⟨#[]⟩ 0 0,.int .i64 1])/\Below w.heap.size w w':=by
 have C:=aA (p:=∀ w,Calls Tryz.prog 239 #[.string s,.func (.func 214) #[] #[]] w fun e w'=>e=.returned (.int .i64 (n:Int))/\w=w') (fun w=>by have:=eW s hm w;rwa [hn] at this);have D:=aA (p:=∀ w,Calls Tryz.prog 212 #[.int .u8 s[n].toNat] w fun e w'=>e=.returned (.bool false)/\w=w') (fun w=>by have:=eM s[n] w;rwa [b2] at this);clear b2;have P:=aA (fun w (hw:iG w)=>nG (s.extract 0 n) (by rw [ByteArray.size_extract];omega) w hw hp);have hw:=aA hw;clear hp;clear hn;go_enter Tryz.func215,Tryz.ntmps215
 go_wp2_with (first | (go_at_call 239;refine (C.out _).mono ?_;rintro e w' ⟨rfl,rfl⟩) | (go_at_call 212;refine (D.out _).mono ?_;rintro e w' ⟨rfl,rfl⟩))
 refine (P.out _ (hw.out.step (bA0 w _))).mono ?_;rintro e w1 ⟨⟨nn,tp,pp,rfl⟩,hb⟩;have hB:=(hb.block w.heap.size (by simp)).trans (heap_alloc_new w _);have B1:=aA (show Below w.heap.size w w1 from (bA0 w _).trans (hb.mono (by simp)));have c0:=aA hB;clear hb;obtain ⟨⟨k0,k1,k2,k3⟩,g0,g1,g2,g3⟩:=aL hB;clear hB;go_wp2_with fail
 obtain ⟨⟨d0,d1,d2,d3⟩, -⟩:=aL (aU c0.out (.int .i64 0) (.string ⟨#[]⟩) (.int .i64 0) (.int .i64 0));exact bodyPost_ret (v:=.tuple #[tkV 0 ⟨#[]⟩ 0 0,.int .i64 1]) (by simp [results,Tryz.results215,go_sem,d0,d1,d2,d3]) rfl ⟨rfl,bY B1.out (Nat.le_refl _) _ _ _ _⟩
theorem OI (s:ByteArray) (_h1:1<=s.size) (hm:s.size<=281474976710656) (w:World) {n:Nat} (hn:bL aV s.data.toList=n) (_hle:n<=s.size) (a1:1<n) (a2:((s[0].toNat:Int) == 48)=false) (b1:n<s.size) (b2:bE s[n]=false) {v:Int} (hp:Lib.parseIntB 64 (s.extract 0 n).data.toList=.ok v):Calls Tryz.prog 215 #[.string s] w fun e w'=>e=.returned (.tuple #[tkV 2 (s.extract 0 n) v 0,.int .i64 0])/\Below w.heap.size w w':=by
 have C:=aA (p:=∀ w,Calls Tryz.prog 239 #[.string s,.func (.func 214) #[] #[]] w fun e w'=>e=.returned (.int .i64 (n:Int))/\w=w') (fun w=>by have:=eW s hm w;rwa [hn] at this);have D:=aA (p:=∀ w,Calls Tryz.prog 212 #[.int .u8 s[n].toNat] w fun e w'=>e=.returned (.bool false)/\w=w') (fun w=>by have:=eM s[n] w;rwa [b2] at this);clear b2;have P:=aA (fun w=>sQ (s.extract 0 n) v (by rw [ByteArray.size_extract];omega) hp w);have T:=aA (fun w=>iU 2 (s.extract 0 n) (by rw [ByteArray.size_extract];omega) w);clear hp;clear hn;go_enter Tryz.func215,Tryz.ntmps215
 go_wp2_with (first | (go_at_call 239;refine (C.out _).mono ?_;rintro e w' ⟨rfl,rfl⟩) | (go_at_call 212;refine (D.out _).mono ?_;rintro e w' ⟨rfl,rfl⟩))
 refine (P.out _).mono ?_;rintro e w1 ⟨rfl,hb⟩;have hB:=(hb.block w.heap.size (by simp)).trans (heap_alloc_new w _);have B1:=aA (show Below w.heap.size w w1 from (bA0 w _).trans (hb.mono (by simp)));have c0:=aA hB;clear hb;clear hB;go_wp2_with fail
 refine (T.out _).mono ?_;rintro e w2 ⟨rfl,hb⟩;have hlt:=aK c0.out;have hB:=(hb.block w.heap.size hlt).trans c0.out;have B2:=aA (show Below w.heap.size w w2 from B1.out.trans (hb.mono (by omega)));obtain ⟨⟨k0,k1,k2,k3⟩,g0,g1,g2,g3⟩:=aL hB;have c2:=aA hB;have hlt2:=aK hB;clear hb hB;go_wp2_with fail
 obtain ⟨⟨d0,d1,d2,d3⟩, -⟩:=aL (s9 c2.out (.int .i64 2) (.string (s.extract 0 n)) (.int .i64 v) (.int .i64 0) (tkO 2 (s.extract 0 n) v 0));exact bodyPost_ret (v:=.tuple #[tkV 2 (s.extract 0 n) v 0,.int .i64 0]) (by simp [results,Tryz.results215,go_sem,d0,d1,d2,d3]) rfl ⟨rfl,(bY B2.out (Nat.le_refl _) _ _ _ _).alloc (by have:=(bY B2.out (Nat.le_refl w.heap.size) (.int .i64 2) (.string (s.extract 0 n)) (.int .i64 v) (.int .i64 0)).size;exact this) _⟩
theorem OJ (s:ByteArray) (_h1:1<=s.size) (hm:s.size<=281474976710656) (w:World) {n:Nat} (hn:bL aV s.data.toList=n) (_hle:n<=s.size) (a1:1<n) (a2:((s[0].toNat:Int) == 48)=false) (b1:n<s.size) (b2:bE s[n]=false) (hw:iG w) (hp:∀ v,¬ Lib.parseIntB 64 (s.extract 0 n).data.toList=.ok v):Calls Tryz.prog 215 #[.string s] w fun e w'=>e=.returned (.tuple #[tkV 0 ⟨#[]⟩ 0 0,.int .i64 1])/\Below w.heap.size w w':=by
 have C:=aA (p:=∀ w,Calls Tryz.prog 239 #[.string s,.func (.func 214) #[] #[]] w fun e w'=>e=.returned (.int .i64 (n:Int))/\w=w') (fun w=>by have:=eW s hm w;rwa [hn] at this);have D:=aA (p:=∀ w,Calls Tryz.prog 212 #[.int .u8 s[n].toNat] w fun e w'=>e=.returned (.bool false)/\w=w') (fun w=>by have:=eM s[n] w;rwa [b2] at this);clear b2;have P:=aA (fun w (hw:iG w)=>nG (s.extract 0 n) (by rw [ByteArray.size_extract];omega) w hw hp);have hw:=aA hw;clear hp;clear hn;go_enter Tryz.func215,Tryz.ntmps215
 go_wp2_with (first | (go_at_call 239;refine (C.out _).mono ?_;rintro e w' ⟨rfl,rfl⟩) | (go_at_call 212;refine (D.out _).mono ?_;rintro e w' ⟨rfl,rfl⟩))
 refine (P.out _ (hw.out.step (bA0 w _))).mono ?_;rintro e w1 ⟨⟨nn,tp,pp,rfl⟩,hb⟩;have hB:=(hb.block w.heap.size (by simp)).trans (heap_alloc_new w _);have B1:=aA (show Below w.heap.size w w1 from (bA0 w _).trans (hb.mono (by simp)));have c0:=aA hB;clear hb;obtain ⟨⟨k0,k1,k2,k3⟩,g0,g1,g2,g3⟩:=aL hB;clear hB;go_wp2_with fail
 obtain ⟨⟨d0,d1,d2,d3⟩, -⟩:=aL (aU c0.out (.int .i64 0) (.string ⟨#[]⟩) (.int .i64 0) (.int .i64 0));exact bodyPost_ret (v:=.tuple #[tkV 0 ⟨#[]⟩ 0 0,.int .i64 1]) (by simp [results,Tryz.results215,go_sem,d0,d1,d2,d3]) rfl ⟨rfl,bY B1.out (Nat.le_refl _) _ _ _ _⟩
theorem OG (s:ByteArray) (_h1:1<=s.size) (hm:s.size<=281474976710656) (w:World) {n:Nat} (hn:bL aV s.data.toList=n) (_hle:n<=s.size) (a1:¬ 1<n) (b1:¬ n<s.size) {v:Int} (hp:Lib.parseIntB 64 (s.extract 0 n).data.toList=.ok v):Calls Tryz.prog 215 #[.string s] w fun e w'=>e=.returned (.tuple #[tkV 2 (s.extract 0 n) v 0,.int .i64 0])/\Below w.heap.size w w':=by
 have C:=aA (p:=∀ w,Calls Tryz.prog 239 #[.string s,.func (.func 214) #[] #[]] w fun e w'=>e=.returned (.int .i64 (n:Int))/\w=w') (fun w=>by have:=eW s hm w;rwa [hn] at this);have P:=aA (fun w=>sQ (s.extract 0 n) v (by rw [ByteArray.size_extract];omega) hp w);have T:=aA (fun w=>iU 2 (s.extract 0 n) (by rw [ByteArray.size_extract];omega) w);clear hp;clear hn;go_enter Tryz.func215,Tryz.ntmps215
 go_wp2_with ((go_at_call 239;refine (C.out _).mono ?_;rintro e w' ⟨rfl,rfl⟩))
 refine (P.out _).mono ?_;rintro e w1 ⟨rfl,hb⟩;have hB:=(hb.block w.heap.size (by simp)).trans (heap_alloc_new w _);have B1:=aA (show Below w.heap.size w w1 from (bA0 w _).trans (hb.mono (by simp)));have c0:=aA hB;clear hb;clear hB;go_wp2_with fail
 refine (T.out _).mono ?_;rintro e w2 ⟨rfl,hb⟩;have hlt:=aK c0.out;have hB:=(hb.block w.heap.size hlt).trans c0.out;have B2:=aA (show Below w.heap.size w w2 from B1.out.trans (hb.mono (by omega)));obtain ⟨⟨k0,k1,k2,k3⟩,g0,g1,g2,g3⟩:=aL hB;have c2:=aA hB;have hlt2:=aK hB;clear hb hB;go_wp2_with fail
 obtain ⟨⟨d0,d1,d2,d3⟩, -⟩:=aL (s9 c2.out (.int .i64 2) (.string (s.extract 0 n)) (.int .i64 v) (.int .i64 0) (tkO 2 (s.extract 0 n) v 0));exact bodyPost_ret (v:=.tuple #[tkV 2 (s.extract 0 n) v 0,.int .i64 0]) (by simp [results,Tryz.results215,go_sem,d0,d1,d2,d3]) rfl ⟨rfl,(bY B2.out (Nat.le_refl _) _ _ _ _).alloc (by have:=(bY B2.out (Nat.le_refl w.heap.size) (.int .i64 2) (.string (s.extract 0 n)) (.int .i64 v) (.int .i64 0)).size;exact this) _⟩
theorem OH (s:ByteArray) (_h1:1<=s.size) (hm:s.size<=281474976710656) (w:World) {n:Nat} (hn:bL aV s.data.toList=n) (_hle:n<=s.size) (a1:¬ 1<n) (b1:¬ n<s.size) (hw:iG w) (hp:∀ v,¬ Lib.parseIntB 64 (s.extract 0 n).data.toList=.ok v):Calls Tryz.prog 215 #[.string s] w fun e w'=>e=.returned (.tuple #[tkV 0 ⟨#[]⟩ 0 0,.int .i64 1])/\Below w.heap.size w w':=by
 have C:=aA (p:=∀ w,Calls Tryz.prog 239 #[.string s,.func (.func 214) #[] #[]] w fun e w'=>e=.returned (.int .i64 (n:Int))/\w=w') (fun w=>by have:=eW s hm w;rwa [hn] at this);have P:=aA (fun w (hw:iG w)=>nG (s.extract 0 n) (by rw [ByteArray.size_extract];omega) w hw hp);have hw:=aA hw;clear hp;clear hn;go_enter Tryz.func215,Tryz.ntmps215
 go_wp2_with ((go_at_call 239;refine (C.out _).mono ?_;rintro e w' ⟨rfl,rfl⟩))
 refine (P.out _ (hw.out.step (bA0 w _))).mono ?_;rintro e w1 ⟨⟨nn,tp,pp,rfl⟩,hb⟩;have hB:=(hb.block w.heap.size (by simp)).trans (heap_alloc_new w _);have B1:=aA (show Below w.heap.size w w1 from (bA0 w _).trans (hb.mono (by simp)));have c0:=aA hB;clear hb;obtain ⟨⟨k0,k1,k2,k3⟩,g0,g1,g2,g3⟩:=aL hB;clear hB;go_wp2_with fail
 obtain ⟨⟨d0,d1,d2,d3⟩, -⟩:=aL (aU c0.out (.int .i64 0) (.string ⟨#[]⟩) (.int .i64 0) (.int .i64 0));exact bodyPost_ret (v:=.tuple #[tkV 0 ⟨#[]⟩ 0 0,.int .i64 1]) (by simp [results,Tryz.results215,go_sem,d0,d1,d2,d3]) rfl ⟨rfl,bY B1.out (Nat.le_refl _) _ _ _ _⟩
theorem OE (s:ByteArray) (_h1:1<=s.size) (hm:s.size<=281474976710656) (w:World) {n:Nat} (hn:bL aV s.data.toList=n) (_hle:n<=s.size) (a1:1<n) (a2:((s[0].toNat:Int) == 48)=false) (b1:¬ n<s.size) {v:Int} (hp:Lib.parseIntB 64 (s.extract 0 n).data.toList=.ok v):Calls Tryz.prog 215 #[.string s] w fun e w'=>e=.returned (.tuple #[tkV 2 (s.extract 0 n) v 0,.int .i64 0])/\Below w.heap.size w w':=by
 have C:=aA (p:=∀ w,Calls Tryz.prog 239 #[.string s,.func (.func 214) #[] #[]] w fun e w'=>e=.returned (.int .i64 (n:Int))/\w=w') (fun w=>by have:=eW s hm w;rwa [hn] at this);have P:=aA (fun w=>sQ (s.extract 0 n) v (by rw [ByteArray.size_extract];omega) hp w);have T:=aA (fun w=>iU 2 (s.extract 0 n) (by rw [ByteArray.size_extract];omega) w);clear hp;clear hn;go_enter Tryz.func215,Tryz.ntmps215
 go_wp2_with ((go_at_call 239;refine (C.out _).mono ?_;rintro e w' ⟨rfl,rfl⟩))
 refine (P.out _).mono ?_;rintro e w1 ⟨rfl,hb⟩;have hB:=(hb.block w.heap.size (by simp)).trans (heap_alloc_new w _);have B1:=aA (show Below w.heap.size w w1 from (bA0 w _).trans (hb.mono (by simp)));have c0:=aA hB;clear hb;clear hB;go_wp2_with fail
 refine (T.out _).mono ?_;rintro e w2 ⟨rfl,hb⟩;have hlt:=aK c0.out;have hB:=(hb.block w.heap.size hlt).trans c0.out;have B2:=aA (show Below w.heap.size w w2 from B1.out.trans (hb.mono (by omega)));obtain ⟨⟨k0,k1,k2,k3⟩,g0,g1,g2,g3⟩:=aL hB;have c2:=aA hB;have hlt2:=aK hB;clear hb hB;go_wp2_with fail
 obtain ⟨⟨d0,d1,d2,d3⟩, -⟩:=aL (s9 c2.out (.int .i64 2) (.string (s.extract 0 n)) (.int .i64 v) (.int .i64 0) (tkO 2 (s.extract 0 n) v 0));exact bodyPost_ret (v:=.tuple #[tkV 2 (s.extract 0 n) v 0,.int .i64 0]) (by simp [results,Tryz.results215,go_sem,d0,d1,d2,d3]) rfl ⟨rfl,(bY B2.out (Nat.le_refl _) _ _ _ _).alloc (by have:=(bY B2.out (Nat.le_refl w.heap.size) (.int .i64 2) (.string (s.extract 0 n)) (.int .i64 v) (.int .i64 0)).size;exact this) _⟩
theorem OF (s:ByteArray) (_h1:1<=s.size) (hm:s.size<=281474976710656) (w:World) {n:Nat} (hn:bL aV s.data.toList=n) (_hle:n<=s.size) (a1:1<n) (a2:((s[0].toNat:Int) == 48)=false) (b1:¬ n<s.size) (hw:iG w) (hp:∀ v,¬ Lib.parseIntB 64 (s.extract 0 n).data.toList=.ok v):Calls Tryz.prog 215 #[.string s] w fun e w'=>e=.returned (.tuple #[tkV 0 ⟨#[]⟩ 0 0,.int .i64 1])/\Below w.heap.size w w':=by
 have C:=aA (p:=∀ w,Calls Tryz.prog 239 #[.string s,.func (.func 214) #[] #[]] w fun e w'=>e=.returned (.int .i64 (n:Int))/\w=w') (fun w=>by have:=eW s hm w;rwa [hn] at this);have P:=aA (fun w (hw:iG w)=>nG (s.extract 0 n) (by rw [ByteArray.size_extract];omega) w hw hp);have hw:=aA hw;clear hp;clear hn;go_enter Tryz.func215,Tryz.ntmps215
 go_wp2_with ((go_at_call 239;refine (C.out _).mono ?_;rintro e w' ⟨rfl,rfl⟩))
 refine (P.out _ (hw.out.step (bA0 w _))).mono ?_;rintro e w1 ⟨⟨nn,tp,pp,rfl⟩,hb⟩;have hB:=(hb.block w.heap.size (by simp)).trans (heap_alloc_new w _);have B1:=aA (show Below w.heap.size w w1 from (bA0 w _).trans (hb.mono (by simp)));have c0:=aA hB;clear hb;obtain ⟨⟨k0,k1,k2,k3⟩,g0,g1,g2,g3⟩:=aL hB;clear hB;go_wp2_with fail
 obtain ⟨⟨d0,d1,d2,d3⟩, -⟩:=aL (aU c0.out (.int .i64 0) (.string ⟨#[]⟩) (.int .i64 0) (.int .i64 0));exact bodyPost_ret (v:=.tuple #[tkV 0 ⟨#[]⟩ 0 0,.int .i64 1]) (by simp [results,Tryz.results215,go_sem,d0,d1,d2,d3]) rfl ⟨rfl,bY B1.out (Nat.le_refl _) _ _ _ _⟩
theorem DA (s:ByteArray) (k:Int) (n:Nat) (v:Int):xB s.data.toList (.tok k n v)=.tuple #[tkV k (s.extract 0 n) v 0,.int .i64 0]:=by
 rw [yO];rfl
theorem Hk {s:ByteArray} (h1:1<=s.size):s.data.toList.head? = some s[0]:=by
 rw [List.head?_eq_getElem?];exact List.getElem?_eq_getElem (by simp;omega)
theorem Gq {s:ByteArray} {n:Nat} (hn:bL aV s.data.toList=n):∀ c∈(s.extract 0 n).data.toList,isD c:=by
 intro c hc;rw [fD, <- hn,oP] at hc;have:=List.all_takeWhile (p:=aV) (l:=s.data.toList);exact (qR c).1 (List.all_eq_true.1 this c hc)
theorem L4 (s:ByteArray) (h1:1<=s.size) (hd:aV s[0]=true) (hm:s.size<=281474976710656) (w:World) (hw:iG w):Calls Tryz.prog 215 #[.string s] w fun e w'=>e=.returned (xB s.data.toList (mJ s.data.toList))/\Below w.heap.size w w':=by
 obtain ⟨n,hn⟩:∃ n,bL aV s.data.toList=n:=⟨_,rfl⟩;have hl:s.data.toList.length=s.size:=by simp
 have hle:n<=s.size:=by rw [<- hn];have:=tS aV s.data.toList;omega
 have hhead:=Hk h1
 have hn1:1<=n:=by
  rw [<- hn];cases e:s.data.toList with
  | nil=>rw [e] at hl;simp at hl;omega
  | cons c r =>
    rw [e] at hhead;obtain h':c=s[0]:=by simpa using hhead
    exact sO (by rw [h'];exact hd)
 have hdrop:(s.data.toList.drop n).head? = if h:n<s.size then some s[n] else none:=by
  rw [List.head?_drop];by_cases h:n<s.size
  · rw [dif_pos h];exact List.getElem?_eq_getElem (by omega)
  · rw [dif_neg h];exact List.getElem?_eq_none (by omega)
 have D:=Gq hn;have fr:=fD s n;unfold mJ;rw [hn,hhead,hdrop];by_cases A:1<n/\s[0]=48
 · rw [if_pos (.inl ⟨A.1,by rw [A.2]⟩)]
   exact Ro s h1 hm w hn hle A.1 (by rw [A.2];decide)
 · have a3:1<n->((s[0].toNat:Int) == 48)=false:=fun h=>by
    rw [beq_eq_false_iff_ne];intro e
    exact A ⟨h, UInt8.toNat_inj.1 (by have : s[0].toNat = 48 := by omega
                                      rw [this];rfl)⟩
   by_cases b1:n<s.size
   · cases b2:bE s[n] with
     | true =>
       rw [if_pos (.inr ⟨s[n],by rw [dif_pos b1],b2⟩)];by_cases a1:1<n
       · exact QG s h1 hm w hn hle a1 (a3 a1) b1 b2
       · exact QH s h1 hm w hn hle a1 b1 b2
     | false =>
       rw [if_neg (by
        rintro (⟨x,y⟩ | ⟨d,x,y⟩)
        · exact A ⟨x,by simpa using y⟩
        · rw [dif_pos b1] at x
          cases x;rw [b2] at y;cases y)]
       rw [<- fr];by_cases hv:9223372036854775807<dP (s.extract 0 n).data.toList
       · rw [if_pos hv]
         by_cases a1:1<n
         · exact OJ s h1 hm w hn hle a1 (a3 a1) b1 b2 hw (kQ D hv)
         · exact OL s h1 hm w hn hle a1 b1 b2 hw (kQ D hv)
       · rw [if_neg hv]
         have hp:=sR (d:=(s.extract 0 n).data.toList) (by
          intro e;have:=congrArg List.length e;rw [fr,List.length_take,List.length_nil] at this;omega) D (by
          intro r hr;rw [fr] at hr;have e0:(s.data.toList.take n).head? = some s[0]:=by rw [List.head?_take,if_neg (by omega)];exact hhead
          rw [hr] at e0;have e48:s[0]=48:=by simpa using e0.symm
          have hn2:n=1:=by
           rcases Nat.lt_or_ge 1 n with h | h
           · exact absurd ⟨h,e48⟩ A
           · omega
          have:=congrArg List.length hr;rw [List.length_take,List.length_cons] at this;exact List.length_eq_zero_iff.1 (by omega)) (by omega)
         rw [DA];by_cases a1:1<n
         · exact OI s h1 hm w hn hle a1 (a3 a1) b1 b2 hp
         · exact OK s h1 hm w hn hle a1 b1 b2 hp
   · rw [if_neg (by
         rintro (⟨x,y⟩ | ⟨d,x,y⟩)
         · exact A ⟨x,by simpa using y⟩
         · rw [dif_neg b1] at x
           cases x)]
     rw [<- fr];by_cases hv:9223372036854775807<dP (s.extract 0 n).data.toList
     · rw [if_pos hv]
       by_cases a1:1<n
       · exact OF s h1 hm w hn hle a1 (a3 a1) b1 hw (kQ D hv)
       · exact OH s h1 hm w hn hle a1 b1 hw (kQ D hv)
     · rw [if_neg hv]
       have hp:=sR (d:=(s.extract 0 n).data.toList) (by
        intro e;have:=congrArg List.length e;rw [fr,List.length_take,List.length_nil] at this;omega) D (by
        intro r hr;rw [fr] at hr;have e0:(s.data.toList.take n).head? = some s[0]:=by rw [List.head?_take,if_neg (by omega)];exact hhead
        rw [hr] at e0;have e48:s[0]=48:=by simpa using e0.symm
        have hn2:n=1:=by
         rcases Nat.lt_or_ge 1 n with h | h
         · exact absurd ⟨h,e48⟩ A
         · omega
        have:=congrArg List.length hr;rw [List.length_take,List.length_cons] at this;exact List.length_eq_zero_iff.1 (by omega)) (by omega)
       rw [DA];by_cases a1:1<n
       · exact OE s h1 hm w hn hle a1 (a3 a1) b1 hp
       · exact OG s h1 hm w hn hle a1 b1 hp
theorem tW {f:Fst} {l:List UInt8}:∃ k s n p e,xB l f=.tuple #[tkV k s n p,.int .i64 e]:=by
 cases f with
 | bad e=>exact ⟨_,_,_,_,_,rfl⟩
 | tok k n v=>exact ⟨_,_,_,_,_,rfl⟩
theorem FZ (s:ByteArray) (h1:1<=s.size) (hm:s.size<=281474976710656) (w:World) (hw:iG w):Calls Tryz.prog 176 #[.string s] w fun e w'=>e=.returned (xB s.data.toList (bU s.data.toList))/\Below w.heap.size w w':=by
 have hF:bU s.data.toList=if bE s[0] then jL s.data.toList else if aV s[0] then mJ s.data.toList else iI s.data.toList:=by
  have hl:s.data.toList.length=s.size:=by simp
  have hh:=Hk h1;cases e:s.data.toList with
  | nil=>rw [e] at hl;simp at hl;omega
  | cons c r =>
    rw [e] at hh;have:c=s[0]:=by simpa using hh
    rw [<- this];rfl
 rw [hF];cases hs:bE s[0] with
 | true =>
   rw [if_pos rfl];have C:=aA (p:=∀ w,Calls Tryz.prog 212 #[.int .u8 s[0].toNat] w fun e w'=>e=.returned (.bool true)/\w=w') (fun w=>by have:=eM s[0] w;rwa [hs] at this);obtain ⟨k,t,n,p,er,hr⟩:=tW (f:=jL s.data.toList) (l:=s.data.toList);have T:=aA (fun w=>Je s hm w);rw [hr] at T |-
   clear hs hF hr;go_enter Tryz.func176,Tryz.ntmps176
   go_wp2_with (go_at_call 212;refine (C.out _).mono ?_;rintro e w' ⟨rfl,rfl⟩)
   refine (T.out _).mono ?_;rintro e w1 ⟨rfl,hb⟩;have hB:=(hb.block w.heap.size (by simp)).trans (heap_alloc_new w _);have B1:=aA (show Below w.heap.size w w1 from (bA0 w _).trans (hb.mono (by simp)));obtain ⟨⟨k0,k1,k2,k3⟩,g0,g1,g2,g3⟩:=aL hB;have c0:=aA hB;clear hb hB;go_wp2_with fail
   obtain ⟨⟨d0,d1,d2,d3⟩, -⟩:=aL (aU c0.out (.int .i64 k) (.string t) (.int .i64 n) (.int .i64 p));exact bodyPost_ret (v:=.tuple #[tkV k t n p,.int .i64 er]) (by simp [results,Tryz.results176,go_sem,d0,d1,d2,d3]) rfl ⟨rfl,bY B1.out (Nat.le_refl _) _ _ _ _⟩
 | false =>
   rw [if_neg (by decide)];have C:=aA (p:=∀ w,Calls Tryz.prog 212 #[.int .u8 s[0].toNat] w fun e w'=>e=.returned (.bool false)/\w=w') (fun w=>by have:=eM s[0] w;rwa [hs] at this);cases hd:aV s[0] with
   | true =>
     rw [if_pos rfl];have D:=aA (p:=∀ w,Calls Tryz.prog 214 #[.int .u8 s[0].toNat] w fun e w'=>e=.returned (.bool true)/\w=w') (fun w=>by have:=nQ s[0] w;rwa [hd] at this);obtain ⟨k,t,n,p,er,hr⟩:=tW (f:=mJ s.data.toList) (l:=s.data.toList);have T:=aA (fun w (hw:iG w)=>L4 s h1 hd hm w hw);have hw:=aA hw;rw [hr] at T |-
     clear hs hF hr hd;go_enter Tryz.func176,Tryz.ntmps176
     go_wp2_with (first | (go_at_call 212;refine (C.out _).mono ?_;rintro e w' ⟨rfl,rfl⟩) | (go_at_call 214;refine (D.out _).mono ?_;rintro e w' ⟨rfl,rfl⟩))
     refine (T.out _ (hw.out.step (bA0 w _))).mono ?_;rintro e w1 ⟨rfl,hb⟩;have hB:=(hb.block w.heap.size (by simp)).trans (heap_alloc_new w _);have B1:=aA (show Below w.heap.size w w1 from (bA0 w _).trans (hb.mono (by simp)));obtain ⟨⟨k0,k1,k2,k3⟩,g0,g1,g2,g3⟩:=aL hB;have c0:=aA hB;clear hb hB;go_wp2_with fail
     obtain ⟨⟨d0,d1,d2,d3⟩, -⟩:=aL (aU c0.out (.int .i64 k) (.string t) (.int .i64 n) (.int .i64 p));exact bodyPost_ret (v:=.tuple #[tkV k t n p,.int .i64 er]) (by simp [results,Tryz.results176,go_sem,d0,d1,d2,d3]) rfl ⟨rfl,bY B1.out (Nat.le_refl _) _ _ _ _⟩
   | false =>
     rw [if_neg (by decide)];have D:=aA (p:=∀ w,Calls Tryz.prog 214 #[.int .u8 s[0].toNat] w fun e w'=>e=.returned (.bool false)/\w=w') (fun w=>by have:=nQ s[0] w;rwa [hd] at this);obtain ⟨k,t,n,p,er,hr⟩:=tW (f:=iI s.data.toList) (l:=s.data.toList);have T:=aA (fun w=>FY s h1 hm w);rw [hr] at T |-
     clear hs hF hr hd;go_enter Tryz.func176,Tryz.ntmps176
     go_wp2_with (first | (go_at_call 212;refine (C.out _).mono ?_;rintro e w' ⟨rfl,rfl⟩) | (go_at_call 214;refine (D.out _).mono ?_;rintro e w' ⟨rfl,rfl⟩))
     refine (T.out _).mono ?_;rintro e w1 ⟨rfl,hb⟩;have hB:=(hb.block w.heap.size (by simp)).trans (heap_alloc_new w _);have B1:=aA (show Below w.heap.size w w1 from (bA0 w _).trans (hb.mono (by simp)));obtain ⟨⟨k0,k1,k2,k3⟩,g0,g1,g2,g3⟩:=aL hB;have c0:=aA hB;clear hb hB;go_wp2_with fail
     obtain ⟨⟨d0,d1,d2,d3⟩, -⟩:=aL (aU c0.out (.int .i64 k) (.string t) (.int .i64 n) (.int .i64 p));exact bodyPost_ret (v:=.tuple #[tkV k t n p,.int .i64 er]) (by simp [results,Tryz.results176,go_sem,d0,d1,d2,d3]) rfl ⟨rfl,bY B1.out (Nat.le_refl _) _ _ _ _⟩
end
section
open Go.RowKit
def Ra (w:World) (u:Value) (m:Nat) (news:List Value):Prop :=
 (u=.slice none 0 0/\m=0/\news=[])\/∃ a c,u=.slice (some a) m c/\news.length=m/\∀ j x,news[j]? = some x->w.cell? (a.add j)=some x
variable {P : Program}
theorem vV {w:World} {base:Nat} {t ty e:TypeId} {i:TypeInfo} {z:Value} {bytes:Nat} (ht:P.underlying t=some (.slice e)) (hi:P.info? e=some i) (hz:i.zero=some z) (hsize:i.size=1) (hby:i.bytes=bytes) (hzs:z.cells.size=1)
 {v u:Value} {n m:Nat} {xs news:List Value} (hown:w.ownsRow base e 1 v n xs) (hfrom:Ra w u m news) (h1:∀ x∈news,x.oneCell'=true) (h63:n+m<=maxLen) (hbytes:(n+m)*bytes<=140737488355328) (hbase:base<=w.heap.size) :
 ∃ v' w',(Builtin.append_ #[t,t] ty #[v,u]).run P w=.ok v' w'/\w'.ownsRow base e 1 v' (n+m) (xs++news)/\w.grownBy w' v.ownBlock/\(v ≠ .slice none 0 0->v' ≠ .slice none 0 0):=by
 rcases hfrom with ⟨rfl,rfl,rfl⟩ | ⟨a,c,rfl,hl,hn⟩
 · have hr:=run_append_owned_none (P:=P) w base t ty e i 1 ht hi v n xs hown
   exact ⟨v,w,hr,by simpa using hown,World.grownBy.refl w _,fun h=>h⟩
 · obtain ⟨v',w',hr,ho,hg,hiff⟩:=run_append_own (P:=P) w base t ty e i z 1 bytes ht hi hz hsize hby hzs (by omega) v n xs hown a m c news (by rw [Nat.mul_one];exact hl) hn h1 h63 hbytes hbase
   exact ⟨v',w',hr,ho,hg,fun h h'=>h (hiff.1 h').1⟩
theorem rL {ops:Array Oper} {rest:List Oper} {o:Oper} {a:Act} {w:World} {Q:Exit->Act->World->Prop}
 (hgd:o.guard=none) (s x:Operand) (t:TypeId) (hop:o.op=Op.call { callee:=Callee.builtin Builtin.append,args:=#[s,x],argTypes:=#[t,t] })
 {base:Nat} {e:TypeId} {i:TypeInfo} {z:Value} {bytes:Nat} (ht:P.underlying t=some (.slice e)) (hi:P.info? e=some i) (hz:i.zero=some z) (hsize:i.size=1) (hby:i.bytes=bytes) (hzs:z.cells.size=1)
 (v u:Value) (n m:Nat) (xs news:List Value) (hs:a.eval s=v) (hx:a.eval x=u) (hown:w.ownsRow base e 1 v n xs) (hfrom:Ra w u m news) (h1:∀ x∈news,x.oneCell'=true) (h63:n+m<=maxLen) (hbytes:(n+m)*bytes<=140737488355328) (hbase:base<=w.heap.size)
 (hK:∀ v' w',w'.ownsRow base e 1 v' (n+m) (xs++news)->w.grownBy w' v.ownBlock->(v ≠ .slice none 0 0->v' ≠ .slice none 0 0)->wpList P ops Q rest (a.put o.dst v') w') :
 wpList P ops Q (o::rest) a w:=by
 refine wpList_plain hgd fun K hK'=>?_
 obtain ⟨v',w',hr,ho,hgr,hnn⟩:=vV (P:=P) (ty:=o.type) ht hi hz hsize hby hzs hown hfrom h1 h63 hbytes hbase;unfold Oper.wp;simp [execOp,hop,resolve,invoke,builtin,hs,hx,hr,Result.andThen];exact hK' _ _ (hK _ _ ho hgr hnn)
theorem DR {w:World} {base:Nat} {e:TypeId} {size:Nat} {v:Value} {n:Nat} {xs:List Value} (h:w.ownsRow base e size v n xs):w.drew.ownsRow base e size v n xs:=h
end
section
open Go.RowKit
section
variable {P : Program}
end
theorem cQ {w w':World} {base:Nat} {e:TypeId} {size:Nat} {v:Value} {n:Nat} {xs:List Value} (h:w.ownsRow base e size v n xs) (hb:Below w.heap.size w w'):w'.ownsRow base e size v n xs :=
 World.ownsRow.kept (row:=none) h ⟨hb.os,hb.tape,hb.output,hb.size,fun k hk _=>hb.block k hk⟩ (by cases v.ownBlock <;> simp)
theorem qB {w:World} {base:Nat} {e:TypeId} {size:Nat} {a:Addr} {n c j:Nat} {xs:List Value} {u:Value} (h:w.ownsRow base e size (.slice (some a) n c) n xs) (hj:xs[j]? = some u):∃ g,a=⟨g,0,none⟩/\w.cell? ⟨g,j,none⟩=some u:=by
 rcases h.2 with ⟨h,_⟩ | ⟨g,cap,cur,hv,_,hg,_,_,_,ht⟩
 · cases h
 · simp only [Value.slice.injEq,Option.some.injEq] at hv
   obtain ⟨rfl,_,_⟩:=hv;refine ⟨g,rfl,?_⟩;rw [cell_of_row w g j cur e (0,0) hg];rw [<- ht,List.getElem?_take] at hj;split at hj
   · simpa using hj
   · cases hj
end
section
open Go.RowKit
theorem mF {w:World} {B C:Nat} {e:TypeId} {size:Nat} {v:Value} {n:Nat} {xs:List Value} (h:w.ownsRow B e size v n xs) (hc:C<=B):w.ownsRow C e size v n xs:=by
 refine ⟨h.1,?_⟩;rcases h.2 with h1 | ⟨g,cap,cur,h1,hb,rest⟩
 · exact .inl h1
 · exact .inr ⟨g,cap,cur,h1,by omega,rest⟩
theorem eV {w:World} {B m size:Nat} {e:TypeId} {v:Value} {xs:List Value} (h:w.ownsRow B e size v m xs):∃ a c,v=.slice a m c:=by
 rcases h.2 with ⟨rfl,h0⟩ | ⟨g,cap,_,rfl,_⟩
 · rw [h0];exact ⟨_,_,rfl⟩
 · exact ⟨_,_,rfl⟩
theorem JA {w w':World} {row:Option Nat} (h:w.grownBy w' none):w.grownBy w' row:=⟨h.os,h.tape,h.output,h.size,fun k hk _=>h.block k hk (by simp)⟩
variable {P : Program}
theorem oU {w:World} {base size:Nat} {t ty e:TypeId} {i:TypeInfo} {z:Value} {bytes:Nat} (ht:P.underlying t=some (.slice e)) (hi:P.info? e=some i) (hz:i.zero=some z) (hsize:i.size=size) (hby:i.bytes=bytes) (hzs:z.cells.size=size) (hpos:0<size)
 {v:Value} {n m c:Nat} {a:Addr} {xs news:List Value} (hown:w.ownsRow base e size v n xs) (hl:news.length=m*size) (hn:∀ j u,news[j]? = some u->w.cell? (a.add j)=some u) (h1:∀ x∈news,x.oneCell'=true) (h63:n+m<=maxLen) (hbytes:(n+m)*bytes<=140737488355328) (hbase:base<=w.heap.size) :
 ∃ v' w',(Builtin.append_ #[t,t] ty #[v,.slice (some a) m c]).run P w=.ok v' w'/\w'.ownsRow base e size v' (n+m) (xs++news)/\w.grownBy w' v.ownBlock/\∀ q,v'.ownBlock=some q->v.ownBlock=some q\/w.heap.size<=q:=by
 rcases hown.2 with ⟨rfl,rfl⟩ | ⟨g,cap,cur,rfl,hbg,hg,hnc,hcm,hcs,htake⟩
 · have hx:xs=[]:=List.eq_nil_of_length_eq_zero (by simpa using hown.1)
   subst hx;obtain ⟨v',w',hr,r1,r2,_⟩:=run_append_own (P:=P) w w.heap.size t ty e i z size bytes ht hi hz hsize hby hzs hpos (.slice none 0 0) 0 [] (World.ownsRow_nil w _ e size) a m c news hl hn h1 h63 hbytes (Nat.le_refl _);exact ⟨v',w',hr,mF r1 hbase,r2,fun q hq=>.inr (r1.lt q hq).1⟩
 · by_cases hroom:n+m<=cap
   · obtain ⟨w',hr,r1,r2⟩:=run_append_fits (P:=P) w base t ty e i size ht hi hsize g n cap xs hown a m c news hl hn h1 hroom
     exact ⟨_,w',hr,r1,r2,fun q hq=>.inl hq⟩
   · have ho:∀ j u,xs[j]? = some u->w.cell? ((⟨g,0,none⟩:Addr).add j)=some u:=fun j u hj=>by
      rw [Addr.add_lit,Nat.zero_add];obtain ⟨g',h1,h2⟩:=qB hown hj;simp only [Addr.mk.injEq,and_true] at h1;subst h1;exact h2
     obtain ⟨v',w',hr,r1,r2⟩:=run_append_arg_grows (P:=P) w t ty e i z size bytes ht hi hz hsize hby hzs hpos ⟨g,0,none⟩ n cap xs hown.1 ho a m c news hl hn (by omega) h63 hbytes;exact ⟨v',w',hr,mF r1 hbase,JA r2,fun q hq=>.inr (r1.lt q hq).1⟩
theorem aQ {ops:Array Oper} {rest:List Oper} {o:Oper} {a:Act} {w:World} {Q:Exit->Act->World->Prop}
 (hgd:o.guard=none) (s x:Operand) (t:TypeId) (hop:o.op=Op.call { callee:=Callee.builtin Builtin.append,args:=#[s,x],argTypes:=#[t,t] })
 {base size:Nat} {e:TypeId} {i:TypeInfo} {z:Value} {bytes:Nat} (ht:P.underlying t=some (.slice e)) (hi:P.info? e=some i) (hz:i.zero=some z) (hsize:i.size=size) (hby:i.bytes=bytes) (hzs:z.cells.size=size) (hpos:0<size)
 (v:Value) (n m c:Nat) (ad:Addr) (xs news:List Value) (hs:a.eval s=v) (hx:a.eval x=.slice (some ad) m c) (hown:w.ownsRow base e size v n xs) (hl:news.length=m*size) (hn:∀ j u,news[j]? = some u->w.cell? (ad.add j)=some u) (h1:∀ x∈news,x.oneCell'=true) (h63:n+m<=maxLen) (hbytes:(n+m)*bytes<=140737488355328) (hbase:base<=w.heap.size)
 (hK:∀ v' w',w'.ownsRow base e size v' (n+m) (xs++news)->w.grownBy w' v.ownBlock->(∀ q,v'.ownBlock=some q->v.ownBlock=some q\/w.heap.size<=q)->wpList P ops Q rest (a.put o.dst v') w') :
 wpList P ops Q (o::rest) a w:=by
 refine wpList_plain hgd fun K hK'=>?_
 obtain ⟨v',w',hr,ho,hgr,hq⟩:=oU (P:=P) (ty:=o.type) (c:=c) ht hi hz hsize hby hzs hpos hown hl hn h1 h63 hbytes hbase;unfold Oper.wp;simp [execOp,hop,resolve,invoke,builtin,hs,hx,hr,Result.andThen];exact hK' _ _ (hK _ _ ho hgr hq)
end
section
open Go.RowKit
def tkL (t:Tk):List Value:=[.int .i64 t.kind,.string ⟨t.text.toArray⟩,.int .i64 t.num,.int .i64 t.place]
def fN (ts:List Tk):List Value:=ts.flatMap tkL
theorem GR:∀ (ts:List Tk) {j i:Nat} (hj:j<ts.length),i<4->(fN ts)[j*4+i]? = (tkL ts[j])[i]?
 | [],_,_,hj,_=>by simp at hj
 | t :: ts, 0, i, _, hi => by
   show (tkL t++fN ts)[0*4+i]? = _;rw [Nat.zero_mul,Nat.zero_add,List.getElem?_append_left (by show i<4;exact hi)];rfl
 | t :: ts, j + 1, i, hj, hi => by
   show (tkL t++fN ts)[(j+1)*4+i]? = _;rw [List.getElem?_append_right (by show 4<=_;omega)];have:=GR ts (j:=j) (i:=i) (by simpa using hj) hi;rw [show (j+1)*4+i-(tkL t).length=j*4+i by show _-4=_;omega,this];rfl
theorem lE (t:Tk):∀ u∈tkL t,u.oneCell'=true:=by
 intro u hu;simp only [tkL,List.mem_cons,List.not_mem_nil,or_false] at hu;rcases hu with rfl | rfl | rfl | rfl <;> rfl
theorem gO (ts:List Tk) (t:Tk):fN (ts++[t])=fN ts++tkL t:=by unfold fN;simp
def gU (l:List UInt8):fY:=if 1024<l.length then .bad 0 4 else cL l 0
def wJ (E:TypeId) (L:fY) (w:World) (e:Ending) (w':World):Prop:=Below w.heap.size w w' /\
 match L with
 | .bad p er=>e=.returned (.tuple #[.slice none 0 0,.int .i64 (p:Nat),.int .i64 er])
 | .ok ts=>∃ a c,e=.returned (.tuple #[.slice a ts.length c,.int .i64 0,.int .i64 0])/\w'.ownsRow w.heap.size E 4 (.slice a ts.length c) ts.length (fN ts)
theorem Nt:(Tryz.prog.info? 261).map (fun i=>(i.zero,i.size,i.bytes))=some (some (.agg #[.int .i64 0,.string ⟨#[]⟩,.int .i64 0,.int .i64 0]),4,40):=by kernel_rfl
theorem Bi {l:List UInt8} {e:Int} (h:bU l=.bad e):e=1\/e=2\/e=5:=by
 cases l with
 | nil=>cases h;exact .inr (.inl rfl)
 | cons c r =>
   simp only [bU] at h;split at h
   · unfold jL at h
     split at h
     · cases h;exact .inr (.inr rfl)
     · cases h
   · split at h
     · unfold mJ at h
       split at h
       · cases h;exact .inr (.inl rfl)
       · split at h
         · cases h;exact .inl rfl
         · cases h
     · unfold iI at h
       split at h
       · cases h;exact .inr (.inl rfl)
       · cases h
theorem vH (s:ByteArray) (hm:s.size<=281474976710656) (w:World) (hw:iG w):Calls Tryz.prog 115 #[.string s] w (wJ 261 (gU s.data.toList) w):=by
 have hl:s.data.toList.length=s.size:=by simp
 by_cases hlong:1024<s.size
 · have P:=aA (show wJ 261 (gU s.data.toList) w (.returned (.tuple #[.slice none 0 0,.int .i64 0,.int .i64 4])) w from by
    unfold gU;rw [if_pos (by omega)];exact ⟨Below.refl _ _,rfl⟩)
   clear hl;go_enter Tryz.func115,Tryz.ntmps115
   go_wp2_with fail
   go_ret3
   exact P.out
 obtain ⟨i0,hi,hz0,hz1,hz2⟩:=info_parts Nt;have und:Tryz.prog.underlying 198=some (.slice 261):=Tryz.underlying198;obtain ⟨L,hL⟩:∃ L,s.data.toList=L:=⟨_,rfl⟩;have SK:=aA (p:=∀ (p:Nat) (hp:p<=s.size) w,Calls Tryz.prog 175 #[.string s,.int .i64 p] w fun e w'=>e=.returned (.int .i64 ((p+bL (· == 32) (L.drop p):Nat):Int))/\w=w') (fun p hp w=>by rw [<- hL];exact I8 s p hp hm w)
 have FI:=aA (p:=∀ (p:Nat) (hp:p<s.size) w (hw:iG w),Calls Tryz.prog 176 #[.string (s.extract p s.size)] w fun e w'=>e=.returned (xB (L.drop p) (bU (L.drop p)))/\Below w.heap.size w w') (fun p hp w hw=>by
  rw [<- hL, <- qG];exact FZ (s.extract p s.size) (by rw [ByteArray.size_extract];omega) (by rw [ByteArray.size_extract];omega) w hw)
 have hLs:L.length=s.size:=by rw [<- hL];exact hl
 have skip_in:∀ p,p<=s.size->p+bL (· == 32) (L.drop p)<=s.size:=fun p hp=>by
  have:=tS (· == 32) (L.drop p);rw [List.length_drop] at this;omega
 have skip_lex:∀ p,p<=s.size->cL (L.drop p) p=cL (L.drop (p+bL (· == 32) (L.drop p))) (p+bL (· == 32) (L.drop p)):=fun p _=>by
  rw [LR,List.drop_drop]
 have skip_hd:∀ p,¬ (L.drop (p+bL (· == 32) (L.drop p))).head? = some 32:=fun p=>by
  rw [<- List.drop_drop];exact In _
 have hE:gU s.data.toList=cL L 0:=by
  unfold gU;rw [if_neg (by omega),hL]
 rw [hE];obtain ⟨E,hEE⟩:∃ E,cL L 0=E:=⟨_,rfl⟩;rw [hEE]
 have K0:=aA (show cL (L.drop (0+bL (· == 32) (L.drop 0))) (0+bL (· == 32) (L.drop 0))=E by
  rw [<- hEE, <- skip_lex 0 (by omega),List.drop_zero])
 have H0:=aA (skip_hd 0);have N0:=skip_in 0 (by omega);have D0:=aA (SK.out 0 (by omega));obtain ⟨k0,hk0⟩:∃ k0,0+bL (· == 32) (L.drop 0)=k0:=⟨_,rfl⟩;rw [hk0] at K0 H0 N0 D0;have SKI:=aA skip_in;have SKL:=aA skip_lex;have SKH:=aA skip_hd;have HW:=aA hw;have HLS:=aA hLs;clear hE hEE hk0 skip_in skip_lex skip_hd hL hl hw hLs;go_enter Tryz.func115,Tryz.ntmps115
 go_wp2_with (go_at_call 175;refine (D0.out _).mono ?_;rintro e w' ⟨rfl,rfl⟩)
 go_loopw [5,6] (fun v i wr=>∃ (k:Nat) (va:Option Addr) (vc:Nat) (T:List Tk),v=.slice va T.length vc/\i=.int .i64 k/\k<=s.size/\T.length<=k/\Hid (¬ (L.drop k).head? = some 32)/\Hid ((cL (L.drop k) k).after T=E)/\Hid (wr.ownsRow w.heap.size 261 4 (.slice va T.length vc) T.length (fN T))/\Hid (Below w.heap.size w wr)) (fun _ i _=>s.size-(intOf i).toNat)
 case atStart=>exact ⟨k0,none,0,[],rfl,rfl,N0,by simp,H0,aA (by rw [qU];exact K0.out),aA (World.ownsRow_nil _ _ _ _),aA (Below.refl _ _)⟩
 case round =>
  obtain ⟨k,va,vc,T,rfl,rfl,hk,hTk,hH,hE,hO,hB⟩:=hrel;by_cases hlt:k<s.size
  · have hne:¬ L.drop k=[]:=by
     intro e;have:=congrArg List.length e;rw [List.length_drop,HLS.out,List.length_nil] at this;omega
    have LW:=aA (HW.out.step hB.out);have F:=aA (FI.out k hlt wr LW.out);rcases AN (L.drop k) k hH.out with ⟨h,_⟩ | ⟨er,_,hf,hx⟩ | ⟨kd,n,nv,_,hf,hn1,hn2,hx⟩
    · exact absurd h hne
    · have q:((er:Int) != 0)=true:=by rcases Bi hf with h | h | h <;> rw [h] <;> decide
      have R:=aA (show E=.bad k er by rw [<- hE.out,hx];rfl);have F2:=aA (p:=Calls Tryz.prog 176 #[.string (s.extract k s.size)] wr fun e w'=>e=.returned (.tuple #[tkV 0 ⟨#[]⟩ 0 0,.int .i64 er])/\Below wr.heap.size wr w') (by have:=F.out;rw [hf] at this;exact this);clear hf hx hne F;go_wp2_with fail
      refine F2.out.mono ?_;rintro e w1 ⟨rfl,hb⟩;have hz:=hB.out.size;have B1:=aA (hB.out.trans (hb.mono hz));clear hb;go_wp2_with fail
      go_ret3
      rw [R.out];exact ⟨B1.out.alloc B1.out.size _,rfl⟩
    · have F2:=aA (p:=Calls Tryz.prog 176 #[.string (s.extract k s.size)] wr fun e w'=>e=.returned (.tuple #[tkV kd ⟨((L.drop k).take n).toArray⟩ nv 0,.int .i64 0])/\Below wr.heap.size wr w') (by have:=F.out;rw [hf] at this;exact this)
      rw [List.length_drop,HLS.out] at hn2;obtain ⟨t,ht⟩:∃ t:Tk,t=⟨kd,(L.drop k).take n,nv,k⟩:=⟨_,rfl⟩
      have htl:(⟨((L.drop k).take n).toArray⟩:ByteArray).size=n:=by
       show ((L.drop k).take n).toArray.size=n;rw [List.size_toArray,List.length_take,List.length_drop,HLS.out];omega
      have hE2:=aA (show (cL (L.drop (k+n)) (k+n)).after (T++[t])=E by
       rw [<- hE.out,hx,fX,List.drop_drop,ht])
      obtain ⟨X,hX⟩:∃ X:ByteArray,⟨((L.drop k).take n).toArray⟩=X:=⟨_,rfl⟩;rw [hX] at F2 htl;have hcells:=aA (show tkL t=[.int .i64 kd,.string X,.int .i64 nv,.int .i64 k] by rw [ht, <- hX];rfl);have hz:=hB.out.size;have D1:=aA (SK.out (k+n) (by omega));have N1:=SKI.out (k+n) (by omega);have H1:=aA (SKH.out (k+n));have E1:=aA (SKL.out (k+n) (by omega));obtain ⟨k2,hk2⟩:∃ k2,k+n+bL (· == 32) (L.drop (k+n))=k2:=⟨_,rfl⟩;have hk3:k+n<=k2:=by omega
      rw [hk2] at D1 N1 H1 E1;have E3:=aA (show (cL (L.drop k2) k2).after (T++[t])=E by rw [<- E1.out];exact hE2.out);clear hf hx hne F ht hE2 hX hk2 E1;go_wp2_with fail
      refine F2.out.mono ?_;rintro e w1 ⟨rfl,hb⟩;have B1:=aA (hB.out.trans (hb.mono hz));have O1:=aA (cQ hO.out hb);have hsz:=hb.size;have B2:=aA (show Below w.heap.size w (w1.alloc (tkO kd X nv k)) from B1.out.alloc B1.out.size _);have OA:=aA (show ((w1.alloc (tkO kd X nv k)).alloc (tkO kd X nv k)).ownsRow w.heap.size 261 4 (.slice va T.length vc) T.length (fN T) from (O1.out.alloc _).alloc _)
      have NA:=aA (p:=∀ j u,(tkL t)[j]? = some u->((w1.alloc (tkO kd X nv k)).alloc (tkO kd X nv k)).cell? ((⟨w1.heap.size+1,0,none⟩:Addr).add j)=some u) (fun j u hj=>by
       rw [hcells.out] at hj;rw [Addr.add_lit,Nat.zero_add,cell_of_row _ _ _ _ _ (0,0) (show ((w1.alloc (tkO kd X nv k)).alloc (tkO kd X nv k)).heap[w1.heap.size+1]? = some (tkO kd X nv k) by have:=heap_alloc_new (w1.alloc (tkO kd X nv k)) (tkO kd X nv k);rwa [World.size_alloc] at this)];simpa using hj)
      have CB:=aA (show ((w1.alloc (tkO kd X nv k)).alloc (tkO kd X nv k)).heap[w1.heap.size]? = some (tkO kd X nv k) from (Below.heap_alloc _ _ _ (by rw [World.size_alloc];omega)).trans (heap_alloc_new w1 _));have BA:=aA (show w.heap.size<=((w1.alloc (tkO kd X nv k)).alloc (tkO kd X nv k)).heap.size by rw [World.size_alloc,World.size_alloc];omega);have OLt:=aA (fun q hq=>O1.out.lt q hq);clear hb;go_wp2_with (at_builtin;refine aQ rfl _ _ 198 rfl (base:=w.heap.size) und hi hz0 hz1 hz2 rfl (by decide) (.slice va T.length vc) T.length 1 1 ⟨w1.heap.size+1,0,none⟩ (fN T) (tkL t) rfl rfl OA.out rfl NA.out (lE _) (by unfold maxLen;omega) (by omega) BA.out ?_)
      intro v6 w6 ho hg _;obtain ⟨va6,c6,rfl⟩:=eV ho;have B6:=aA (show Below w.heap.size w w6 from (B2.out.alloc B2.out.size _).grown hg BA.out (fun q hq=>(OLt.out q hq).1));have O6:=aA (show w6.ownsRow w.heap.size 261 4 (.slice va6 (T++[t]).length c6) (T++[t]).length (fN (T++[t])) by rw [gO,List.length_append];exact ho)
      have C6:w6.heap[w1.heap.size]? = some (tkO kd X nv k):=by
       rw [hg.block w1.heap.size (aK CB.out) (fun e=>by have:=(OLt.out _ e.symm).2;omega)];exact CB.out
      obtain ⟨⟨m0,m1,m2,m3⟩, -⟩:=aL C6;rw [show T.length+1=(T++[t]).length by rw [List.length_append];rfl];have hTl:(T++[t]).length<=k2:=by rw [List.length_append];show T.length+1<=k2;omega
      generalize T++[t]=T2 at E3 O6 hTl;clear ho hg OA NA CB BA OLt C6 O1 B1 B2 hO hB hE;go_wp2_with (go_at_call 175;refine (D1.out _).mono ?_;rintro e w' ⟨rfl,rfl⟩)
      go_roundw
      case rel=>exact ⟨k2,va6,c6,T2,rfl,by go_num,N1,hTl,H1,E3,O6,B6⟩
      case measure=>simp [intOf];omega
  · obtain rfl:k=s.size:=by omega
    have R:=aA (show E=.ok T by
     rw [<- hE.out,List.drop_of_length_le (by rw [HLS.out];exact Nat.le_refl _),lJ];simp [fY.after])
    go_wp2_with fail
    go_ret3
    rw [R.out];exact ⟨hB.out,va,vc,rfl,hO.out⟩
end
section
open Go.RowKit
structure RS where
 pos:Nat
 cnt:Nat
 bad:Int
 whr:Nat
def aM (e:Int) (s:RS):RS:=if s.bad=0 then ⟨s.pos,s.cnt,e,s.pos⟩ else s
def aH (s:RS):RS:=if s.bad=0 then (if 32<s.cnt+1 then ⟨s.pos+1,s.cnt+1,4,s.pos⟩ else ⟨s.pos+1,s.cnt+1,0,s.whr⟩) else ⟨s.pos+1,s.cnt,s.bad,s.whr⟩
def aJ (s:RS):RS:=⟨s.pos+1,s.cnt,s.bad,s.whr⟩
def isS (L:List Tk) (x:List UInt8) (p:Nat):Bool:=match L[p]? with
 | some t=>t.kind == 3 && t.text == x
 | none=>false
def isM (L:List Tk) (p:Nat):Bool:=isS L [42] p || isS L [47] p || isS L [37] p
def isA (L:List Tk) (p:Nat):Bool:=isS L [43] p || isS L [45] p
def dW (L:List Tk) (p:Nat):List UInt8:=match L[p]? with
 | some t=>t.text
 | none=>[]
def dN (L:List Tk) (s:RS):RS:=aJ (if (s.bad == 0 && !isS L [41] s.pos)=true then aM 2 s else s)
def aC:TN:=⟨⟨#[]⟩,⟨#[]⟩,0,.nil⟩
def sU (v:Int):TN:=⟨⟨#[110,117,109]⟩,⟨#[]⟩,v,.nil⟩
def e9 (x:List UInt8):TN:=⟨⟨#[110,97,109,101]⟩,⟨x.toArray⟩,0,.nil⟩
def oY (k:TN):TN:=⟨⟨#[110,101,103]⟩,⟨#[]⟩,0,k.f⟩
def fB (o:List UInt8) (a b:TN):TN:=⟨⟨o.toArray⟩,⟨#[]⟩,0,.cons a.op a.nm a.n a.ks b.f⟩
inductive Md | fac | prod | sum | prodL (n:TN) | sumL (n:TN)
def pr (L:List Tk):Nat->Md->RS->TN×RS
 | 0,_,s=>(aC,s)
 | f + 1, .fac, s =>
   if s.bad=0 then
    match L[s.pos]? with
    | none=>(aC,aM 2 s)
    | some t =>
      if t.kind=2 then (sU t.num,aH s)
      else if t.kind=1 then (e9 t.text,aH s)
      else if t.text=[45] then (oY (pr L f .fac (aH s)).1,(pr L f .fac (aH s)).2)
      else if t.text=[40] then ((pr L f .sum (aJ s)).1,dN L (pr L f .sum (aJ s)).2)
      else (aC,aM 2 s)
   else (aC,s)
 | f+1,.prod,s=>pr L f (.prodL (pr L f .fac s).1) (pr L f .fac s).2
 | f+1,.prodL n,s=>if (s.bad == 0 && isM L s.pos)=true then pr L f (.prodL (fB (dW L s.pos) n (pr L f .fac (aH s)).1)) (pr L f .fac (aH s)).2 else (n,s)
 | f+1,.sum,s=>pr L f (.sumL (pr L f .prod s).1) (pr L f .prod s).2
 | f+1,.sumL n,s=>if (s.bad == 0 && isA L s.pos)=true then pr L f (.sumL (fB (dW L s.pos) n (pr L f .prod (aH s)).1)) (pr L f .prod (aH s)).2 else (n,s)
theorem kZ (e:Int) (s:RS):(aM e s).pos=s.pos:=by unfold aM;split <;> rfl
theorem bZ (s:RS):(aH s).pos=s.pos+1:=by
 unfold aH;split
 · split <;> rfl
 · rfl
theorem Bp (L:List Tk) (s:RS):(dN L s).pos=s.pos+1:=by
 unfold dN aJ;split
 · show (aM 2 s).pos+1=_
   rw [kZ]
 · rfl
theorem dM (L:List Tk):∀ (f:Nat) (md:Md) (s:RS),s.pos<=(pr L f md s).2.pos
 | 0,_,s=>Nat.le_refl _
 | f + 1, .fac, s => by
   rw [pr];by_cases hb:s.bad=0
   · rw [if_pos hb]
     cases L[s.pos]? with
     | none=>simp only;rw [kZ];exact Nat.le_refl _
     | some t =>
       simp only;by_cases h2:t.kind=2
       · rw [if_pos h2];simp only;rw [bZ];omega
       rw [if_neg h2];by_cases h1:t.kind=1
       · rw [if_pos h1];simp only;rw [bZ];omega
       rw [if_neg h1];by_cases h45:t.text=[45]
       · rw [if_pos h45];simp only
         have:=dM L f .fac (aH s);rw [bZ] at this;omega
       rw [if_neg h45];by_cases h40:t.text=[40]
       · rw [if_pos h40];simp only
         have:=dM L f .sum (aJ s);rw [Bp];have e:(aJ s).pos=s.pos+1:=rfl;omega
       rw [if_neg h40];simp only;rw [kZ];exact Nat.le_refl _
   · rw [if_neg hb];exact Nat.le_refl _
 | f + 1, .prod, s => by
   rw [pr];exact Nat.le_trans (dM L f .fac s) (dM L f _ _)
 | f + 1, .prodL n, s => by
   rw [pr];split
   · refine Nat.le_trans ?_ (dM L f _ _)
     have:=dM L f .fac (aH s);rw [bZ] at this;omega
   · exact Nat.le_refl _
 | f + 1, .sum, s => by
   rw [pr];exact Nat.le_trans (dM L f .prod s) (dM L f _ _)
 | f + 1, .sumL n, s => by
   rw [pr];split
   · refine Nat.le_trans ?_ (dM L f _ _)
     have:=dM L f .prod (aH s);rw [bZ] at this;omega
   · exact Nat.le_refl _
def bJ (m:Nat):Md->Nat
 | .fac=>4*m+1
 | .prod=>4*m+2
 | .prodL _=>4*m+1
 | .sum=>4*m+3
 | .sumL _=>4*m+1
theorem gC {L:List Tk} {x:List UInt8} {p:Nat} (h:isS L x p=true):p<L.length:=by
 unfold isS at h;cases e:L[p]? with
 | none=>rw [e] at h;cases h
 | some t=>exact (List.getElem?_eq_some_iff.1 e).1
theorem pA {L:List Tk} {p:Nat} (h:isM L p=true):p<L.length:=by
 unfold isM at h;simp only [Bool.or_eq_true] at h;rcases h with (h | h) | h <;> exact gC h
theorem pB {L:List Tk} {p:Nat} (h:isA L p=true):p<L.length:=by
 unfold isA at h;simp only [Bool.or_eq_true] at h;rcases h with h | h <;> exact gC h
theorem gJ (L:List Tk):∀ (f g:Nat) (md:Md) (s:RS),bJ (L.length-s.pos) md<=f->f<=g->pr L g md s=pr L f md s
 | 0,_,md,s,h,_=>by cases md <;> simp [bJ] at h
 | f+1,0,_,_,_,h=>by omega
 | f + 1, g + 1, .fac, s, h, hg => by
   simp only [bJ] at h;rw [pr,pr];by_cases hb:s.bad=0
   · rw [if_pos hb,if_pos hb]
     cases e:L[s.pos]? with
     | none=>rfl
     | some t =>
       have hlt:=(List.getElem?_eq_some_iff.1 e).1;have e1:=gJ L f g .fac (aH s) (by rw [bZ];simp only [bJ];omega) (by omega);have e2:=gJ L f g .sum (aJ s) (by show bJ (L.length-(s.pos+1)) _<=f;simp only [bJ];omega) (by omega);rw [e1,e2]
   · rw [if_neg hb,if_neg hb]
 | f + 1, g + 1, .prod, s, h, hg => by
   simp only [bJ] at h;rw [pr,pr];rw [gJ L f g .fac s (by simp only [bJ];omega) (by omega)];have hp:=dM L f .fac s;exact gJ L f g _ _ (by simp only [bJ];omega) (by omega)
 | f + 1, g + 1, .prodL n, s, h, hg => by
   simp only [bJ] at h;rw [pr,pr];by_cases hc:(s.bad == 0 && isM L s.pos)=true
   · rw [if_pos hc,if_pos hc]
     have hlt:=pA (by simp only [Bool.and_eq_true] at hc;exact hc.2);rw [gJ L f g .fac (aH s) (by rw [bZ];simp only [bJ];omega) (by omega)];have hp:=dM L f .fac (aH s);rw [bZ] at hp;exact gJ L f g _ _ (by simp only [bJ];omega) (by omega)
   · rw [if_neg hc,if_neg hc]
 | f + 1, g + 1, .sum, s, h, hg => by
   simp only [bJ] at h;rw [pr,pr];rw [gJ L f g .prod s (by simp only [bJ];omega) (by omega)];have hp:=dM L f .prod s;exact gJ L f g _ _ (by simp only [bJ];omega) (by omega)
 | f + 1, g + 1, .sumL n, s, h, hg => by
   simp only [bJ] at h;rw [pr,pr];by_cases hc:(s.bad == 0 && isA L s.pos)=true
   · rw [if_pos hc,if_pos hc]
     have hlt:=pB (by simp only [Bool.and_eq_true] at hc;exact hc.2);rw [gJ L f g .prod (aH s) (by rw [bZ];simp only [bJ];omega) (by omega)];have hp:=dM L f .prod (aH s);rw [bZ] at hp;exact gJ L f g _ _ (by simp only [bJ];omega) (by omega)
   · rw [if_neg hc,if_neg hc]
def pE (L:List Tk) (md:Md) (s:RS):TN×RS:=pr L (4*(L.length-s.pos)+4) md s
theorem rF {L:List Tk} {f:Nat} {md:Md} {s:RS} (h:bJ (L.length-s.pos) md<=f):pr L f md s=pE L md s:=by
 have h4:bJ (L.length-s.pos) md<=4*(L.length-s.pos)+4:=by cases md <;> simp [bJ]
 unfold pE;rcases Nat.le_total f (4*(L.length-s.pos)+4) with h1 | h1
 · exact (gJ L _ _ md s h h1).symm
 · exact gJ L _ _ md s h4 h1
theorem kS (L:List Tk) (md:Md) (s:RS):s.pos<=(pE L md s).2.pos:=dM L _ md s
theorem iR (L:List Tk) (s:RS):pE L .fac s=if s.bad=0 then
 match L[s.pos]? with
 | none=>(aC,aM 2 s)
 | some t =>
   if t.kind=2 then (sU t.num,aH s)
   else if t.kind=1 then (e9 t.text,aH s)
   else if t.text=[45] then (oY (pE L .fac (aH s)).1,(pE L .fac (aH s)).2)
   else if t.text=[40] then ((pE L .sum (aJ s)).1,dN L (pE L .sum (aJ s)).2)
   else (aC,aM 2 s)
 else (aC,s):=by
 unfold pE;rw [pr];by_cases hb:s.bad=0
 · rw [if_pos hb,if_pos hb]
   cases e:L[s.pos]? with
   | none=>rfl
   | some t =>
     have hlt:=(List.getElem?_eq_some_iff.1 e).1;have e1:=rF (L:=L) (f:=4*(L.length-s.pos)+3) (md:=.fac) (s:=aH s) (by rw [bZ];simp only [bJ];omega);have e2:=rF (L:=L) (f:=4*(L.length-s.pos)+3) (md:=.sum) (s:=aJ s) (by show bJ (L.length-(s.pos+1)) _<=_;simp only [bJ];omega);simp only;rw [e1,e2];rfl
 · rw [if_neg hb,if_neg hb]
theorem wC (L:List Tk) (s:RS):pE L .prod s=pE L (.prodL (pE L .fac s).1) (pE L .fac s).2:=by
 conv=>lhs;unfold pE
 rw [pr,rF (md:=.fac) (by simp only [bJ];omega)];have hp:=kS L .fac s;exact rF (by simp only [bJ];omega)
theorem gF (L:List Tk) (n:TN) (s:RS):pE L (.prodL n) s=if (s.bad == 0 && isM L s.pos)=true then pE L (.prodL (fB (dW L s.pos) n (pE L .fac (aH s)).1)) (pE L .fac (aH s)).2 else (n,s):=by
 conv=>lhs;unfold pE
 rw [pr];by_cases hc:(s.bad == 0 && isM L s.pos)=true
 · rw [if_pos hc,if_pos hc]
   have hlt:=pA (by simp only [Bool.and_eq_true] at hc;exact hc.2);rw [rF (md:=.fac) (by rw [bZ];simp only [bJ];omega)];have hp:=kS L .fac (aH s);rw [bZ] at hp;exact rF (by simp only [bJ];omega)
 · rw [if_neg hc,if_neg hc]
theorem FB (L:List Tk) (s:RS):pE L .sum s=pE L (.sumL (pE L .prod s).1) (pE L .prod s).2:=by
 conv=>lhs;unfold pE
 rw [pr,rF (md:=.prod) (by simp only [bJ];omega)];have hp:=kS L .prod s;exact rF (by simp only [bJ];omega)
theorem lF (L:List Tk) (n:TN) (s:RS):pE L (.sumL n) s=if (s.bad == 0 && isA L s.pos)=true then pE L (.sumL (fB (dW L s.pos) n (pE L .prod (aH s)).1)) (pE L .prod (aH s)).2 else (n,s):=by
 conv=>lhs;unfold pE
 rw [pr];by_cases hc:(s.bad == 0 && isA L s.pos)=true
 · rw [if_pos hc,if_pos hc]
   have hlt:=pB (by simp only [Bool.and_eq_true] at hc;exact hc.2);rw [rF (md:=.prod) (by rw [bZ];simp only [bJ];omega)];have hp:=kS L .prod (aH s);rw [bZ] at hp;exact rF (by simp only [bJ];omega)
 · rw [if_neg hc,if_neg hc]
inductive Hy | bad (p:Nat) (e:Int) | ok (t:TN) (p:Nat)
def ofL (L:List Tk) (p:Nat):Hy:=if (pE L .sum ⟨p,0,0,0⟩).2.bad=0 then .ok (pE L .sum ⟨p,0,0,0⟩).1 (pE L .sum ⟨p,0,0,0⟩).2.pos else .bad (pE L .sum ⟨p,0,0,0⟩).2.whr (pE L .sum ⟨p,0,0,0⟩).2.bad
def eU (n:Nat) (L:List Tk) (p:Nat):Nat:=match L[p]? with
 | some t=>t.place
 | none=>n
end
section
open Go.RowKit
def fI (w:World) (a:Option Addr) (ts:List Tk):Prop :=
 ts=[]\/∃ b off,a=some ⟨b,off,none⟩/\b<w.heap.size/\∀ j (h:j<ts.length),w.cell? ⟨b,off+j*4,none⟩=some (.int .i64 ts[j].kind)/\w.cell? ⟨b,off+j*4+1,none⟩=some (.string ⟨ts[j].text.toArray⟩) /\
  w.cell? ⟨b,off+j*4+2,none⟩=some (.int .i64 ts[j].num)/\w.cell? ⟨b,off+j*4+3,none⟩=some (.int .i64 ts[j].place)
theorem fI.kept {w w':World} {a:Option Addr} {ts:List Tk} (h:fI w a ts) (hb:Below w.heap.size w w'):fI w' a ts:=by
 rcases h with h | ⟨b,off,rfl,hlt,hc⟩
 · exact .inl h
 · refine .inr ⟨b,off,rfl,Nat.lt_of_lt_of_le hlt hb.size,fun j hj=>?_⟩
   obtain ⟨c0,c1,c2,c3⟩:=hc j hj;exact ⟨(hb.cell (p:=⟨b,_,none⟩) hlt).trans c0,(hb.cell (p:=⟨b,_,none⟩) hlt).trans c1,(hb.cell (p:=⟨b,_,none⟩) hlt).trans c2,(hb.cell (p:=⟨b,_,none⟩) hlt).trans c3⟩
theorem rP {w:World} {B:Nat} {E:TypeId} {a:Option Addr} {c:Nat} {ts:List Tk} (h:w.ownsRow B E 4 (.slice a ts.length c) ts.length (fN ts)):fI w a ts:=by
 have h0:=h;rcases h.2 with ⟨hs,hn⟩ | ⟨g,cap,cur,hs,_,hg,_⟩
 · exact .inl (List.length_eq_zero_iff.1 hn)
 · simp only [Value.slice.injEq] at hs
   obtain ⟨rfl,_,rfl⟩:=hs
   have cell:∀ j i u,j<ts.length->i<4->(fN ts)[j*4+i]? = some u->w.cell? ⟨g,0+j*4+i,none⟩=some u:=fun j i u hj hi hu=>by
    obtain ⟨g',hg',hc⟩:=qB h0 hu;simp only [Addr.mk.injEq,and_true] at hg';subst hg';rw [Nat.zero_add];exact hc
   refine .inr ⟨g,0,rfl,aK hg,fun j hj=>?_⟩;have at4:∀ i,i<4->(fN ts)[j*4+i]? = (tkL ts[j])[i]? := fun i hi=>GR ts hj hi
   exact ⟨cell j 0 _ hj (by omega) (at4 0 (by omega)),cell j 1 _ hj (by omega) (at4 1 (by omega)),cell j 2 _ hj (by omega) (at4 2 (by omega)),cell j 3 _ hj (by omega) (at4 3 (by omega))⟩
end
end
end Go.Proofs.YtgfkjkokmcejbaaGreatDoor
