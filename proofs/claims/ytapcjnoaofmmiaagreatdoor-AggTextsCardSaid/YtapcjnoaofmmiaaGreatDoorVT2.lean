/-
 No statement: what AggTextsCard needs, of the texts OE2.
-/
import Derived.Test.YtapcjnoaofmmiaaGreatDoorVT1
set_option maxHeartbeats 40000000
set_option maxRecDepth 100000
namespace Go.Proofs.YtapcjnoaofmmiaaGreatDoor
open Go.RowKit
section
section
open Go.RowKit
theorem Le (s:ByteArray) (_h1:1<=s.size) (hm:s.size<=281474976710656) (w:World) {n:Nat} (hn:cH aZ s.data.toList=n) (_hle:n<=s.size) (a1:1<n) (a2:((s[0].toNat:Int) == 48)=true):Calls Tryz.prog 130 #[.string s] w fun e w'=>e=.returned (.tuple #[tkV 0 ⟨#[]⟩ 0 0,.int .i64 2])/\Below w.heap.size w w':=by
 have C:=aA (p:=∀ w,Calls Tryz.prog 160 #[.string s,.func (.func 129) #[] #[]] w fun e w'=>e=.returned (.int .i64 (n:Int))/\w=w') (fun w=>by have:=eG s hm w;rwa [hn] at this);clear hn;go_enter Tryz.func130,Tryz.ntmps130
 go_wp2_with ((go_at_call 160;refine (C.out _).mono ?_;rintro e w' ⟨rfl,rfl⟩))
 refine bodyPost_ret (v:=.tuple #[tkV 0 ⟨#[]⟩ 0 0,.int .i64 2]) (by simp [results,Tryz.results130,go_sem]) rfl ⟨rfl,?_⟩;exact (Below.refl _ _).alloc (Nat.le_refl _) _
theorem Ki (s:ByteArray) (_h1:1<=s.size) (hm:s.size<=281474976710656) (w:World) {n:Nat} (hn:cH aZ s.data.toList=n) (_hle:n<=s.size) (a1:¬ 1<n) (b1:n<s.size) (b2:bJ s[n]=true):Calls Tryz.prog 130 #[.string s] w fun e w'=>e=.returned (.tuple #[tkV 0 ⟨#[]⟩ 0 0,.int .i64 2])/\Below w.heap.size w w':=by
 have C:=aA (p:=∀ w,Calls Tryz.prog 160 #[.string s,.func (.func 129) #[] #[]] w fun e w'=>e=.returned (.int .i64 (n:Int))/\w=w') (fun w=>by have:=eG s hm w;rwa [hn] at this);have D:=aA (p:=∀ w,Calls Tryz.prog 127 #[.int .u8 s[n].toNat] w fun e w'=>e=.returned (.bool true)/\w=w') (fun w=>by have:=d9 s[n] w;rwa [b2] at this);clear b2;clear hn;go_enter Tryz.func130,Tryz.ntmps130
 go_wp2_with (first | (go_at_call 160;refine (C.out _).mono ?_;rintro e w' ⟨rfl,rfl⟩) | (go_at_call 127;refine (D.out _).mono ?_;rintro e w' ⟨rfl,rfl⟩))
 refine bodyPost_ret (v:=.tuple #[tkV 0 ⟨#[]⟩ 0 0,.int .i64 2]) (by simp [results,Tryz.results130,go_sem]) rfl ⟨rfl,?_⟩;exact (Below.refl _ _).alloc (Nat.le_refl _) _
theorem Kh (s:ByteArray) (_h1:1<=s.size) (hm:s.size<=281474976710656) (w:World) {n:Nat} (hn:cH aZ s.data.toList=n) (_hle:n<=s.size) (a1:1<n) (a2:((s[0].toNat:Int) == 48)=false) (b1:n<s.size) (b2:bJ s[n]=true):Calls Tryz.prog 130 #[.string s] w fun e w'=>e=.returned (.tuple #[tkV 0 ⟨#[]⟩ 0 0,.int .i64 2])/\Below w.heap.size w w':=by
 have C:=aA (p:=∀ w,Calls Tryz.prog 160 #[.string s,.func (.func 129) #[] #[]] w fun e w'=>e=.returned (.int .i64 (n:Int))/\w=w') (fun w=>by have:=eG s hm w;rwa [hn] at this);have D:=aA (p:=∀ w,Calls Tryz.prog 127 #[.int .u8 s[n].toNat] w fun e w'=>e=.returned (.bool true)/\w=w') (fun w=>by have:=d9 s[n] w;rwa [b2] at this);clear b2;clear hn;go_enter Tryz.func130,Tryz.ntmps130
 go_wp2_with (first | (go_at_call 160;refine (C.out _).mono ?_;rintro e w' ⟨rfl,rfl⟩) | (go_at_call 127;refine (D.out _).mono ?_;rintro e w' ⟨rfl,rfl⟩))
 refine bodyPost_ret (v:=.tuple #[tkV 0 ⟨#[]⟩ 0 0,.int .i64 2]) (by simp [results,Tryz.results130,go_sem]) rfl ⟨rfl,?_⟩;exact (Below.refl _ _).alloc (Nat.le_refl _) _
theorem IZ (s:ByteArray) (_h1:1<=s.size) (hm:s.size<=281474976710656) (w:World) {n:Nat} (hn:cH aZ s.data.toList=n) (_hle:n<=s.size) (a1:¬ 1<n) (b1:n<s.size) (b2:bJ s[n]=false) {v:Int} (hp:Lib.parseIntB 64 (s.extract 0 n).data.toList=.ok v):Calls Tryz.prog 130 #[.string s] w fun e w'=>e=.returned (.tuple #[tkV 2 (s.extract 0 n) v 0,.int .i64 0])/\Below w.heap.size w w':=by
 have C:=aA (p:=∀ w,Calls Tryz.prog 160 #[.string s,.func (.func 129) #[] #[]] w fun e w'=>e=.returned (.int .i64 (n:Int))/\w=w') (fun w=>by have:=eG s hm w;rwa [hn] at this);have D:=aA (p:=∀ w,Calls Tryz.prog 127 #[.int .u8 s[n].toNat] w fun e w'=>e=.returned (.bool false)/\w=w') (fun w=>by have:=d9 s[n] w;rwa [b2] at this);clear b2;have P:=aA (fun w=>pU (s.extract 0 n) v (by rw [ByteArray.size_extract];omega) hp w);have T:=aA (fun w=>gP 2 (s.extract 0 n) (by rw [ByteArray.size_extract];omega) w);clear hp;clear hn;go_enter Tryz.func130,Tryz.ntmps130
 go_wp2_with (first | (go_at_call 160;refine (C.out _).mono ?_;rintro e w' ⟨rfl,rfl⟩) | (go_at_call 127;refine (D.out _).mono ?_;rintro e w' ⟨rfl,rfl⟩))
 refine (P.out _).mono ?_;rintro e w1 ⟨rfl,hb⟩;have hB:=(hb.block w.heap.size (by simp)).trans (heap_alloc_new w _);have B1:=aA (show Below w.heap.size w w1 from ((Below.refl _ w).alloc (Nat.le_refl _) _).trans (hb.mono (by simp)));have c0:=aA hB;clear hb;clear hB;go_wp2_with fail
 refine (T.out _).mono ?_;rintro e w2 ⟨rfl,hb⟩;have hlt:=aG c0.out;have hB:=(hb.block w.heap.size hlt).trans c0.out;have B2:=aA (show Below w.heap.size w w2 from B1.out.trans (hb.mono (by omega)));obtain ⟨⟨k0,k1,k2,k3⟩,g0,g1,g2,g3⟩:=aK hB;have c2:=aA hB;have hlt2:=aG hB;clear hb hB;go_wp2_with fail
 obtain ⟨⟨d0,d1,d2,d3⟩, -⟩:=aK (qC c2.out (.int .i64 2) (.string (s.extract 0 n)) (.int .i64 v) (.int .i64 0) (tkO 2 (s.extract 0 n) v 0));exact bodyPost_ret (v:=.tuple #[tkV 2 (s.extract 0 n) v 0,.int .i64 0]) (by simp [results,Tryz.results130,go_sem,d0,d1,d2,d3]) rfl ⟨rfl,(cC B2.out (Nat.le_refl _) _ _ _ _).alloc (by have:=(cC B2.out (Nat.le_refl w.heap.size) (.int .i64 2) (.string (s.extract 0 n)) (.int .i64 v) (.int .i64 0)).size;exact this) _⟩
theorem I0 (s:ByteArray) (_h1:1<=s.size) (hm:s.size<=281474976710656) (w:World) {n:Nat} (hn:cH aZ s.data.toList=n) (_hle:n<=s.size) (a1:¬ 1<n) (b1:n<s.size) (b2:bJ s[n]=false) (hw:iJ w) (hp:∀ v,¬ Lib.parseIntB 64 (s.extract 0 n).data.toList=.ok v):Calls Tryz.prog 130 #[.string s] w fun e w'=>e=.returned (.tuple #[tkV 0 ⟨#[]⟩ 0 0,.int .i64 1])/\Below w.heap.size w w':=by
 have C:=aA (p:=∀ w,Calls Tryz.prog 160 #[.string s,.func (.func 129) #[] #[]] w fun e w'=>e=.returned (.int .i64 (n:Int))/\w=w') (fun w=>by have:=eG s hm w;rwa [hn] at this);have D:=aA (p:=∀ w,Calls Tryz.prog 127 #[.int .u8 s[n].toNat] w fun e w'=>e=.returned (.bool false)/\w=w') (fun w=>by have:=d9 s[n] w;rwa [b2] at this);clear b2;have P:=aA (fun w (hw:iJ w)=>lO (s.extract 0 n) (by rw [ByteArray.size_extract];omega) w hw hp);have hw:=aA hw;clear hp;clear hn;go_enter Tryz.func130,Tryz.ntmps130
 go_wp2_with (first | (go_at_call 160;refine (C.out _).mono ?_;rintro e w' ⟨rfl,rfl⟩) | (go_at_call 127;refine (D.out _).mono ?_;rintro e w' ⟨rfl,rfl⟩))
 refine (P.out _ (hw.out.step ((Below.refl _ w).alloc (Nat.le_refl _) _))).mono ?_;rintro e w1 ⟨⟨nn,tp,pp,rfl⟩,hb⟩;have hB:=(hb.block w.heap.size (by simp)).trans (heap_alloc_new w _);have B1:=aA (show Below w.heap.size w w1 from ((Below.refl _ w).alloc (Nat.le_refl _) _).trans (hb.mono (by simp)));have c0:=aA hB;clear hb;obtain ⟨⟨k0,k1,k2,k3⟩,g0,g1,g2,g3⟩:=aK hB;clear hB;go_wp2_with fail
 obtain ⟨⟨d0,d1,d2,d3⟩, -⟩:=aK (aV c0.out (.int .i64 0) (.string ⟨#[]⟩) (.int .i64 0) (.int .i64 0));exact bodyPost_ret (v:=.tuple #[tkV 0 ⟨#[]⟩ 0 0,.int .i64 1]) (by simp [results,Tryz.results130,go_sem,d0,d1,d2,d3]) rfl ⟨rfl,cC B1.out (Nat.le_refl _) _ _ _ _⟩
theorem IX (s:ByteArray) (_h1:1<=s.size) (hm:s.size<=281474976710656) (w:World) {n:Nat} (hn:cH aZ s.data.toList=n) (_hle:n<=s.size) (a1:1<n) (a2:((s[0].toNat:Int) == 48)=false) (b1:n<s.size) (b2:bJ s[n]=false) {v:Int} (hp:Lib.parseIntB 64 (s.extract 0 n).data.toList=.ok v):Calls Tryz.prog 130 #[.string s] w fun e w'=>e=.returned (.tuple #[tkV 2 (s.extract 0 n) v 0,.int .i64 0])/\Below w.heap.size w w':=by
 have C:=aA (p:=∀ w,Calls Tryz.prog 160 #[.string s,.func (.func 129) #[] #[]] w fun e w'=>e=.returned (.int .i64 (n:Int))/\w=w') (fun w=>by have:=eG s hm w;rwa [hn] at this);have D:=aA (p:=∀ w,Calls Tryz.prog 127 #[.int .u8 s[n].toNat] w fun e w'=>e=.returned (.bool false)/\w=w') (fun w=>by have:=d9 s[n] w;rwa [b2] at this);clear b2;have P:=aA (fun w=>pU (s.extract 0 n) v (by rw [ByteArray.size_extract];omega) hp w);have T:=aA (fun w=>gP 2 (s.extract 0 n) (by rw [ByteArray.size_extract];omega) w);clear hp;clear hn;go_enter Tryz.func130,Tryz.ntmps130
 go_wp2_with (first | (go_at_call 160;refine (C.out _).mono ?_;rintro e w' ⟨rfl,rfl⟩) | (go_at_call 127;refine (D.out _).mono ?_;rintro e w' ⟨rfl,rfl⟩))
 refine (P.out _).mono ?_;rintro e w1 ⟨rfl,hb⟩;have hB:=(hb.block w.heap.size (by simp)).trans (heap_alloc_new w _);have B1:=aA (show Below w.heap.size w w1 from ((Below.refl _ w).alloc (Nat.le_refl _) _).trans (hb.mono (by simp)));have c0:=aA hB;clear hb;clear hB;go_wp2_with fail
 refine (T.out _).mono ?_;rintro e w2 ⟨rfl,hb⟩;have hlt:=aG c0.out;have hB:=(hb.block w.heap.size hlt).trans c0.out;have B2:=aA (show Below w.heap.size w w2 from B1.out.trans (hb.mono (by omega)));obtain ⟨⟨k0,k1,k2,k3⟩,g0,g1,g2,g3⟩:=aK hB;have c2:=aA hB;have hlt2:=aG hB;clear hb hB;go_wp2_with fail
 obtain ⟨⟨d0,d1,d2,d3⟩, -⟩:=aK (qC c2.out (.int .i64 2) (.string (s.extract 0 n)) (.int .i64 v) (.int .i64 0) (tkO 2 (s.extract 0 n) v 0));exact bodyPost_ret (v:=.tuple #[tkV 2 (s.extract 0 n) v 0,.int .i64 0]) (by simp [results,Tryz.results130,go_sem,d0,d1,d2,d3]) rfl ⟨rfl,(cC B2.out (Nat.le_refl _) _ _ _ _).alloc (by have:=(cC B2.out (Nat.le_refl w.heap.size) (.int .i64 2) (.string (s.extract 0 n)) (.int .i64 v) (.int .i64 0)).size;exact this) _⟩
theorem IY (s:ByteArray) (_h1:1<=s.size) (hm:s.size<=281474976710656) (w:World) {n:Nat} (hn:cH aZ s.data.toList=n) (_hle:n<=s.size) (a1:1<n) (a2:((s[0].toNat:Int) == 48)=false) (b1:n<s.size) (b2:bJ s[n]=false) (hw:iJ w) (hp:∀ v,¬ Lib.parseIntB 64 (s.extract 0 n).data.toList=.ok v):Calls Tryz.prog 130 #[.string s] w fun e w'=>e=.returned (.tuple #[tkV 0 ⟨#[]⟩ 0 0,.int .i64 1])/\Below w.heap.size w w':=by
 have C:=aA (p:=∀ w,Calls Tryz.prog 160 #[.string s,.func (.func 129) #[] #[]] w fun e w'=>e=.returned (.int .i64 (n:Int))/\w=w') (fun w=>by have:=eG s hm w;rwa [hn] at this);have D:=aA (p:=∀ w,Calls Tryz.prog 127 #[.int .u8 s[n].toNat] w fun e w'=>e=.returned (.bool false)/\w=w') (fun w=>by have:=d9 s[n] w;rwa [b2] at this);clear b2;have P:=aA (fun w (hw:iJ w)=>lO (s.extract 0 n) (by rw [ByteArray.size_extract];omega) w hw hp);have hw:=aA hw;clear hp;clear hn;go_enter Tryz.func130,Tryz.ntmps130
 go_wp2_with (first | (go_at_call 160;refine (C.out _).mono ?_;rintro e w' ⟨rfl,rfl⟩) | (go_at_call 127;refine (D.out _).mono ?_;rintro e w' ⟨rfl,rfl⟩))
 refine (P.out _ (hw.out.step ((Below.refl _ w).alloc (Nat.le_refl _) _))).mono ?_;rintro e w1 ⟨⟨nn,tp,pp,rfl⟩,hb⟩;have hB:=(hb.block w.heap.size (by simp)).trans (heap_alloc_new w _);have B1:=aA (show Below w.heap.size w w1 from ((Below.refl _ w).alloc (Nat.le_refl _) _).trans (hb.mono (by simp)));have c0:=aA hB;clear hb;obtain ⟨⟨k0,k1,k2,k3⟩,g0,g1,g2,g3⟩:=aK hB;clear hB;go_wp2_with fail
 obtain ⟨⟨d0,d1,d2,d3⟩, -⟩:=aK (aV c0.out (.int .i64 0) (.string ⟨#[]⟩) (.int .i64 0) (.int .i64 0));exact bodyPost_ret (v:=.tuple #[tkV 0 ⟨#[]⟩ 0 0,.int .i64 1]) (by simp [results,Tryz.results130,go_sem,d0,d1,d2,d3]) rfl ⟨rfl,cC B1.out (Nat.le_refl _) _ _ _ _⟩
theorem IV (s:ByteArray) (_h1:1<=s.size) (hm:s.size<=281474976710656) (w:World) {n:Nat} (hn:cH aZ s.data.toList=n) (_hle:n<=s.size) (a1:¬ 1<n) (b1:¬ n<s.size) {v:Int} (hp:Lib.parseIntB 64 (s.extract 0 n).data.toList=.ok v):Calls Tryz.prog 130 #[.string s] w fun e w'=>e=.returned (.tuple #[tkV 2 (s.extract 0 n) v 0,.int .i64 0])/\Below w.heap.size w w':=by
 have C:=aA (p:=∀ w,Calls Tryz.prog 160 #[.string s,.func (.func 129) #[] #[]] w fun e w'=>e=.returned (.int .i64 (n:Int))/\w=w') (fun w=>by have:=eG s hm w;rwa [hn] at this);have P:=aA (fun w=>pU (s.extract 0 n) v (by rw [ByteArray.size_extract];omega) hp w);have T:=aA (fun w=>gP 2 (s.extract 0 n) (by rw [ByteArray.size_extract];omega) w);clear hp;clear hn;go_enter Tryz.func130,Tryz.ntmps130
 go_wp2_with ((go_at_call 160;refine (C.out _).mono ?_;rintro e w' ⟨rfl,rfl⟩))
 refine (P.out _).mono ?_;rintro e w1 ⟨rfl,hb⟩;have hB:=(hb.block w.heap.size (by simp)).trans (heap_alloc_new w _);have B1:=aA (show Below w.heap.size w w1 from ((Below.refl _ w).alloc (Nat.le_refl _) _).trans (hb.mono (by simp)));have c0:=aA hB;clear hb;clear hB;go_wp2_with fail
 refine (T.out _).mono ?_;rintro e w2 ⟨rfl,hb⟩;have hlt:=aG c0.out;have hB:=(hb.block w.heap.size hlt).trans c0.out;have B2:=aA (show Below w.heap.size w w2 from B1.out.trans (hb.mono (by omega)));obtain ⟨⟨k0,k1,k2,k3⟩,g0,g1,g2,g3⟩:=aK hB;have c2:=aA hB;have hlt2:=aG hB;clear hb hB;go_wp2_with fail
 obtain ⟨⟨d0,d1,d2,d3⟩, -⟩:=aK (qC c2.out (.int .i64 2) (.string (s.extract 0 n)) (.int .i64 v) (.int .i64 0) (tkO 2 (s.extract 0 n) v 0));exact bodyPost_ret (v:=.tuple #[tkV 2 (s.extract 0 n) v 0,.int .i64 0]) (by simp [results,Tryz.results130,go_sem,d0,d1,d2,d3]) rfl ⟨rfl,(cC B2.out (Nat.le_refl _) _ _ _ _).alloc (by have:=(cC B2.out (Nat.le_refl w.heap.size) (.int .i64 2) (.string (s.extract 0 n)) (.int .i64 v) (.int .i64 0)).size;exact this) _⟩
theorem IW (s:ByteArray) (_h1:1<=s.size) (hm:s.size<=281474976710656) (w:World) {n:Nat} (hn:cH aZ s.data.toList=n) (_hle:n<=s.size) (a1:¬ 1<n) (b1:¬ n<s.size) (hw:iJ w) (hp:∀ v,¬ Lib.parseIntB 64 (s.extract 0 n).data.toList=.ok v):Calls Tryz.prog 130 #[.string s] w fun e w'=>e=.returned (.tuple #[tkV 0 ⟨#[]⟩ 0 0,.int .i64 1])/\Below w.heap.size w w':=by
 have C:=aA (p:=∀ w,Calls Tryz.prog 160 #[.string s,.func (.func 129) #[] #[]] w fun e w'=>e=.returned (.int .i64 (n:Int))/\w=w') (fun w=>by have:=eG s hm w;rwa [hn] at this);have P:=aA (fun w (hw:iJ w)=>lO (s.extract 0 n) (by rw [ByteArray.size_extract];omega) w hw hp);have hw:=aA hw;clear hp;clear hn;go_enter Tryz.func130,Tryz.ntmps130
 go_wp2_with ((go_at_call 160;refine (C.out _).mono ?_;rintro e w' ⟨rfl,rfl⟩))
 refine (P.out _ (hw.out.step ((Below.refl _ w).alloc (Nat.le_refl _) _))).mono ?_;rintro e w1 ⟨⟨nn,tp,pp,rfl⟩,hb⟩;have hB:=(hb.block w.heap.size (by simp)).trans (heap_alloc_new w _);have B1:=aA (show Below w.heap.size w w1 from ((Below.refl _ w).alloc (Nat.le_refl _) _).trans (hb.mono (by simp)));have c0:=aA hB;clear hb;obtain ⟨⟨k0,k1,k2,k3⟩,g0,g1,g2,g3⟩:=aK hB;clear hB;go_wp2_with fail
 obtain ⟨⟨d0,d1,d2,d3⟩, -⟩:=aK (aV c0.out (.int .i64 0) (.string ⟨#[]⟩) (.int .i64 0) (.int .i64 0));exact bodyPost_ret (v:=.tuple #[tkV 0 ⟨#[]⟩ 0 0,.int .i64 1]) (by simp [results,Tryz.results130,go_sem,d0,d1,d2,d3]) rfl ⟨rfl,cC B1.out (Nat.le_refl _) _ _ _ _⟩
theorem IT (s:ByteArray) (_h1:1<=s.size) (hm:s.size<=281474976710656) (w:World) {n:Nat} (hn:cH aZ s.data.toList=n) (_hle:n<=s.size) (a1:1<n) (a2:((s[0].toNat:Int) == 48)=false) (b1:¬ n<s.size) {v:Int} (hp:Lib.parseIntB 64 (s.extract 0 n).data.toList=.ok v):Calls Tryz.prog 130 #[.string s] w fun e w'=>e=.returned (.tuple #[tkV 2 (s.extract 0 n) v 0,.int .i64 0])/\Below w.heap.size w w':=by
 have C:=aA (p:=∀ w,Calls Tryz.prog 160 #[.string s,.func (.func 129) #[] #[]] w fun e w'=>e=.returned (.int .i64 (n:Int))/\w=w') (fun w=>by have:=eG s hm w;rwa [hn] at this);have P:=aA (fun w=>pU (s.extract 0 n) v (by rw [ByteArray.size_extract];omega) hp w);have T:=aA (fun w=>gP 2 (s.extract 0 n) (by rw [ByteArray.size_extract];omega) w);clear hp;clear hn;go_enter Tryz.func130,Tryz.ntmps130
 go_wp2_with ((go_at_call 160;refine (C.out _).mono ?_;rintro e w' ⟨rfl,rfl⟩))
 refine (P.out _).mono ?_;rintro e w1 ⟨rfl,hb⟩;have hB:=(hb.block w.heap.size (by simp)).trans (heap_alloc_new w _);have B1:=aA (show Below w.heap.size w w1 from ((Below.refl _ w).alloc (Nat.le_refl _) _).trans (hb.mono (by simp)));have c0:=aA hB;clear hb;clear hB;go_wp2_with fail
 refine (T.out _).mono ?_;rintro e w2 ⟨rfl,hb⟩;have hlt:=aG c0.out;have hB:=(hb.block w.heap.size hlt).trans c0.out;have B2:=aA (show Below w.heap.size w w2 from B1.out.trans (hb.mono (by omega)));obtain ⟨⟨k0,k1,k2,k3⟩,g0,g1,g2,g3⟩:=aK hB;have c2:=aA hB;have hlt2:=aG hB;clear hb hB;go_wp2_with fail
 obtain ⟨⟨d0,d1,d2,d3⟩, -⟩:=aK (qC c2.out (.int .i64 2) (.string (s.extract 0 n)) (.int .i64 v) (.int .i64 0) (tkO 2 (s.extract 0 n) v 0));exact bodyPost_ret (v:=.tuple #[tkV 2 (s.extract 0 n) v 0,.int .i64 0]) (by simp [results,Tryz.results130,go_sem,d0,d1,d2,d3]) rfl ⟨rfl,(cC B2.out (Nat.le_refl _) _ _ _ _).alloc (by have:=(cC B2.out (Nat.le_refl w.heap.size) (.int .i64 2) (.string (s.extract 0 n)) (.int .i64 v) (.int .i64 0)).size;exact this) _⟩
theorem IU (s:ByteArray) (_h1:1<=s.size) (hm:s.size<=281474976710656) (w:World) {n:Nat} (hn:cH aZ s.data.toList=n) (_hle:n<=s.size) (a1:1<n) (a2:((s[0].toNat:Int) == 48)=false) (b1:¬ n<s.size) (hw:iJ w) (hp:∀ v,¬ Lib.parseIntB 64 (s.extract 0 n).data.toList=.ok v):Calls Tryz.prog 130 #[.string s] w fun e w'=>e=.returned (.tuple #[tkV 0 ⟨#[]⟩ 0 0,.int .i64 1])/\Below w.heap.size w w':=by
 have C:=aA (p:=∀ w,Calls Tryz.prog 160 #[.string s,.func (.func 129) #[] #[]] w fun e w'=>e=.returned (.int .i64 (n:Int))/\w=w') (fun w=>by have:=eG s hm w;rwa [hn] at this);have P:=aA (fun w (hw:iJ w)=>lO (s.extract 0 n) (by rw [ByteArray.size_extract];omega) w hw hp);have hw:=aA hw;clear hp;clear hn;go_enter Tryz.func130,Tryz.ntmps130
 go_wp2_with ((go_at_call 160;refine (C.out _).mono ?_;rintro e w' ⟨rfl,rfl⟩))
 refine (P.out _ (hw.out.step ((Below.refl _ w).alloc (Nat.le_refl _) _))).mono ?_;rintro e w1 ⟨⟨nn,tp,pp,rfl⟩,hb⟩;have hB:=(hb.block w.heap.size (by simp)).trans (heap_alloc_new w _);have B1:=aA (show Below w.heap.size w w1 from ((Below.refl _ w).alloc (Nat.le_refl _) _).trans (hb.mono (by simp)));have c0:=aA hB;clear hb;obtain ⟨⟨k0,k1,k2,k3⟩,g0,g1,g2,g3⟩:=aK hB;clear hB;go_wp2_with fail
 obtain ⟨⟨d0,d1,d2,d3⟩, -⟩:=aK (aV c0.out (.int .i64 0) (.string ⟨#[]⟩) (.int .i64 0) (.int .i64 0));exact bodyPost_ret (v:=.tuple #[tkV 0 ⟨#[]⟩ 0 0,.int .i64 1]) (by simp [results,Tryz.results130,go_sem,d0,d1,d2,d3]) rfl ⟨rfl,cC B1.out (Nat.le_refl _) _ _ _ _⟩
theorem zP (s:ByteArray) (k:Int) (n:Nat) (v:Int):tD s.data.toList (.tok k n v)=.tuple #[tkV k (s.extract 0 n) v 0,.int .i64 0]:=by
 rw [tU];rfl
theorem Df {s:ByteArray} (h1:1<=s.size):s.data.toList.head? = some s[0]:=by
 rw [List.head?_eq_getElem?];exact List.getElem?_eq_getElem (by simp;omega)
theorem Cb {s:ByteArray} {n:Nat} (hn:cH aZ s.data.toList=n):∀ c∈(s.extract 0 n).data.toList,isD c:=by
 intro c hc;rw [eT, <- hn,sV] at hc;have:=List.all_takeWhile (p:=aZ) (l:=s.data.toList);exact (wG c).1 (List.all_eq_true.1 this c hc)
theorem Gq (s:ByteArray) (h1:1<=s.size) (hd:aZ s[0]=true) (hm:s.size<=281474976710656) (w:World) (hw:iJ w):Calls Tryz.prog 130 #[.string s] w fun e w'=>e=.returned (tD s.data.toList (mB s.data.toList))/\Below w.heap.size w w':=by
 obtain ⟨n,hn⟩:∃ n,cH aZ s.data.toList=n:=⟨_,rfl⟩;have hl:s.data.toList.length=s.size:=by simp
 have hle:n<=s.size:=by rw [<- hn];have:=tA aZ s.data.toList;omega
 have hhead:=Df h1
 have hn1:1<=n:=by
  rw [<- hn];cases e:s.data.toList with
  | nil=>rw [e] at hl;simp at hl;omega
  | cons c r =>
    rw [e] at hhead;obtain h':c=s[0]:=by simpa using hhead
    exact pO (by rw [h'];exact hd)
 have hdrop:(s.data.toList.drop n).head? = if h:n<s.size then some s[n] else none:=by
  rw [List.head?_drop];by_cases h:n<s.size
  · rw [dif_pos h];exact List.getElem?_eq_getElem (by omega)
  · rw [dif_neg h];exact List.getElem?_eq_none (by omega)
 have D:=Cb hn;have fr:=eT s n;unfold mB;rw [hn,hhead,hdrop];by_cases A:1<n/\s[0]=48
 · rw [if_pos (.inl ⟨A.1,by rw [A.2]⟩)]
   exact Le s h1 hm w hn hle A.1 (by rw [A.2];decide)
 · have a3:1<n->((s[0].toNat:Int) == 48)=false:=fun h=>by
    rw [beq_eq_false_iff_ne];intro e
    exact A ⟨h, UInt8.toNat_inj.1 (by have : s[0].toNat = 48 := by omega
                                      rw [this];rfl)⟩
   by_cases b1:n<s.size
   · cases b2:bJ s[n] with
     | true =>
       rw [if_pos (.inr ⟨s[n],by rw [dif_pos b1],b2⟩)];by_cases a1:1<n
       · exact Kh s h1 hm w hn hle a1 (a3 a1) b1 b2
       · exact Ki s h1 hm w hn hle a1 b1 b2
     | false =>
       rw [if_neg (by
        rintro (⟨x,y⟩ | ⟨d,x,y⟩)
        · exact A ⟨x,by simpa using y⟩
        · rw [dif_pos b1] at x
          cases x;rw [b2] at y;cases y)]
       rw [<- fr];by_cases hv:9223372036854775807<dD (s.extract 0 n).data.toList
       · rw [if_pos hv]
         by_cases a1:1<n
         · exact IY s h1 hm w hn hle a1 (a3 a1) b1 b2 hw (jN D hv)
         · exact I0 s h1 hm w hn hle a1 b1 b2 hw (jN D hv)
       · rw [if_neg hv]
         have hp:=pV (d:=(s.extract 0 n).data.toList) (by
          intro e;have:=congrArg List.length e;rw [fr,List.length_take,List.length_nil] at this;omega) D (by
          intro r hr;rw [fr] at hr;have e0:(s.data.toList.take n).head? = some s[0]:=by rw [List.head?_take,if_neg (by omega)];exact hhead
          rw [hr] at e0;have e48:s[0]=48:=by simpa using e0.symm
          have hn2:n=1:=by
           rcases Nat.lt_or_ge 1 n with h | h
           · exact absurd ⟨h,e48⟩ A
           · omega
          have:=congrArg List.length hr;rw [List.length_take,List.length_cons] at this;exact List.length_eq_zero_iff.1 (by omega)) (by omega)
         rw [zP];by_cases a1:1<n
         · exact IX s h1 hm w hn hle a1 (a3 a1) b1 b2 hp
         · exact IZ s h1 hm w hn hle a1 b1 b2 hp
   · rw [if_neg (by
         rintro (⟨x,y⟩ | ⟨d,x,y⟩)
         · exact A ⟨x,by simpa using y⟩
         · rw [dif_neg b1] at x
           cases x)]
     rw [<- fr];by_cases hv:9223372036854775807<dD (s.extract 0 n).data.toList
     · rw [if_pos hv]
       by_cases a1:1<n
       · exact IU s h1 hm w hn hle a1 (a3 a1) b1 hw (jN D hv)
       · exact IW s h1 hm w hn hle a1 b1 hw (jN D hv)
     · rw [if_neg hv]
       have hp:=pV (d:=(s.extract 0 n).data.toList) (by
        intro e;have:=congrArg List.length e;rw [fr,List.length_take,List.length_nil] at this;omega) D (by
        intro r hr;rw [fr] at hr;have e0:(s.data.toList.take n).head? = some s[0]:=by rw [List.head?_take,if_neg (by omega)];exact hhead
        rw [hr] at e0;have e48:s[0]=48:=by simpa using e0.symm
        have hn2:n=1:=by
         rcases Nat.lt_or_ge 1 n with h | h
         · exact absurd ⟨h,e48⟩ A
         · omega
        have:=congrArg List.length hr;rw [List.length_take,List.length_cons] at this;exact List.length_eq_zero_iff.1 (by omega)) (by omega)
       rw [zP];by_cases a1:1<n
       · exact IT s h1 hm w hn hle a1 (a3 a1) b1 hp
       · exact IV s h1 hm w hn hle a1 b1 hp
theorem qN {f:Fst} {l:List UInt8}:∃ k s n p e,tD l f=.tuple #[tkV k s n p,.int .i64 e]:=by
 cases f with
 | bad e=>exact ⟨_,_,_,_,_,rfl⟩
 | tok k n v=>exact ⟨_,_,_,_,_,rfl⟩
theorem Bu (s:ByteArray) (h1:1<=s.size) (hm:s.size<=281474976710656) (w:World) (hw:iJ w):Calls Tryz.prog 81 #[.string s] w fun e w'=>e=.returned (tD s.data.toList (cU s.data.toList))/\Below w.heap.size w w':=by
 have hF:cU s.data.toList=if bJ s[0] then jP s.data.toList else if aZ s[0] then mB s.data.toList else jF s.data.toList:=by
  have hl:s.data.toList.length=s.size:=by simp
  have hh:=Df h1;cases e:s.data.toList with
  | nil=>rw [e] at hl;simp at hl;omega
  | cons c r =>
    rw [e] at hh;have:c=s[0]:=by simpa using hh
    rw [<- this];rfl
 rw [hF];cases hs:bJ s[0] with
 | true =>
   rw [if_pos rfl];have C:=aA (p:=∀ w,Calls Tryz.prog 127 #[.int .u8 s[0].toNat] w fun e w'=>e=.returned (.bool true)/\w=w') (fun w=>by have:=d9 s[0] w;rwa [hs] at this);obtain ⟨k,t,n,p,er,hr⟩:=qN (f:=jP s.data.toList) (l:=s.data.toList);have T:=aA (fun w=>Ek s hm w);rw [hr] at T |-
   clear hs hF hr;go_enter Tryz.func81,Tryz.ntmps81
   go_wp2_with (go_at_call 127;refine (C.out _).mono ?_;rintro e w' ⟨rfl,rfl⟩)
   refine (T.out _).mono ?_;rintro e w1 ⟨rfl,hb⟩;have hB:=(hb.block w.heap.size (by simp)).trans (heap_alloc_new w _);have B1:=aA (show Below w.heap.size w w1 from ((Below.refl _ w).alloc (Nat.le_refl _) _).trans (hb.mono (by simp)));obtain ⟨⟨k0,k1,k2,k3⟩,g0,g1,g2,g3⟩:=aK hB;have c0:=aA hB;clear hb hB;go_wp2_with fail
   obtain ⟨⟨d0,d1,d2,d3⟩, -⟩:=aK (aV c0.out (.int .i64 k) (.string t) (.int .i64 n) (.int .i64 p));exact bodyPost_ret (v:=.tuple #[tkV k t n p,.int .i64 er]) (by simp [results,Tryz.results81,go_sem,d0,d1,d2,d3]) rfl ⟨rfl,cC B1.out (Nat.le_refl _) _ _ _ _⟩
 | false =>
   rw [if_neg (by decide)];have C:=aA (p:=∀ w,Calls Tryz.prog 127 #[.int .u8 s[0].toNat] w fun e w'=>e=.returned (.bool false)/\w=w') (fun w=>by have:=d9 s[0] w;rwa [hs] at this);cases hd:aZ s[0] with
   | true =>
     rw [if_pos rfl];have D:=aA (p:=∀ w,Calls Tryz.prog 129 #[.int .u8 s[0].toNat] w fun e w'=>e=.returned (.bool true)/\w=w') (fun w=>by have:=lU s[0] w;rwa [hd] at this);obtain ⟨k,t,n,p,er,hr⟩:=qN (f:=mB s.data.toList) (l:=s.data.toList);have T:=aA (fun w (hw:iJ w)=>Gq s h1 hd hm w hw);have hw:=aA hw;rw [hr] at T |-
     clear hs hF hr hd;go_enter Tryz.func81,Tryz.ntmps81
     go_wp2_with (first | (go_at_call 127;refine (C.out _).mono ?_;rintro e w' ⟨rfl,rfl⟩) | (go_at_call 129;refine (D.out _).mono ?_;rintro e w' ⟨rfl,rfl⟩))
     refine (T.out _ (hw.out.step ((Below.refl _ w).alloc (Nat.le_refl _) _))).mono ?_;rintro e w1 ⟨rfl,hb⟩;have hB:=(hb.block w.heap.size (by simp)).trans (heap_alloc_new w _);have B1:=aA (show Below w.heap.size w w1 from ((Below.refl _ w).alloc (Nat.le_refl _) _).trans (hb.mono (by simp)));obtain ⟨⟨k0,k1,k2,k3⟩,g0,g1,g2,g3⟩:=aK hB;have c0:=aA hB;clear hb hB;go_wp2_with fail
     obtain ⟨⟨d0,d1,d2,d3⟩, -⟩:=aK (aV c0.out (.int .i64 k) (.string t) (.int .i64 n) (.int .i64 p));exact bodyPost_ret (v:=.tuple #[tkV k t n p,.int .i64 er]) (by simp [results,Tryz.results81,go_sem,d0,d1,d2,d3]) rfl ⟨rfl,cC B1.out (Nat.le_refl _) _ _ _ _⟩
   | false =>
     rw [if_neg (by decide)];have D:=aA (p:=∀ w,Calls Tryz.prog 129 #[.int .u8 s[0].toNat] w fun e w'=>e=.returned (.bool false)/\w=w') (fun w=>by have:=lU s[0] w;rwa [hd] at this);obtain ⟨k,t,n,p,er,hr⟩:=qN (f:=jF s.data.toList) (l:=s.data.toList);have T:=aA (fun w=>Bt s h1 hm w);rw [hr] at T |-
     clear hs hF hr hd;go_enter Tryz.func81,Tryz.ntmps81
     go_wp2_with (first | (go_at_call 127;refine (C.out _).mono ?_;rintro e w' ⟨rfl,rfl⟩) | (go_at_call 129;refine (D.out _).mono ?_;rintro e w' ⟨rfl,rfl⟩))
     refine (T.out _).mono ?_;rintro e w1 ⟨rfl,hb⟩;have hB:=(hb.block w.heap.size (by simp)).trans (heap_alloc_new w _);have B1:=aA (show Below w.heap.size w w1 from ((Below.refl _ w).alloc (Nat.le_refl _) _).trans (hb.mono (by simp)));obtain ⟨⟨k0,k1,k2,k3⟩,g0,g1,g2,g3⟩:=aK hB;have c0:=aA hB;clear hb hB;go_wp2_with fail
     obtain ⟨⟨d0,d1,d2,d3⟩, -⟩:=aK (aV c0.out (.int .i64 k) (.string t) (.int .i64 n) (.int .i64 p));exact bodyPost_ret (v:=.tuple #[tkV k t n p,.int .i64 er]) (by simp [results,Tryz.results81,go_sem,d0,d1,d2,d3]) rfl ⟨rfl,cC B1.out (Nat.le_refl _) _ _ _ _⟩
end
section
open Go.RowKit
def KL (w:World) (u:Value) (m:Nat) (news:List Value):Prop :=
 (u=.slice none 0 0/\m=0/\news=[])\/∃ a c,u=.slice (some a) m c/\news.length=m/\∀ j x,news[j]? = some x->w.cell? (a.add j)=some x
variable {P:Program}
theorem rY {w:World} {base:Nat} {t ty e:TypeId} {i:TypeInfo} {z:Value} {bytes:Nat} (ht:P.underlying t=some (.slice e)) (hi:P.info? e=some i) (hz:i.zero=some z) (hsize:i.size=1) (hby:i.bytes=bytes) (hzs:z.cells.size=1)
 {v u:Value} {n m:Nat} {xs news:List Value} (hown:w.ownsRow base e 1 v n xs) (hfrom:KL w u m news) (h1:∀ x∈news,x.oneCell'=true) (h63:n+m<=maxLen) (hbytes:(n+m)*bytes<=140737488355328) (hbase:base<=w.heap.size) :
 ∃ v' w',(Builtin.append_ #[t,t] ty #[v,u]).run P w=.ok v' w'/\w'.ownsRow base e 1 v' (n+m) (xs++news)/\w.grownBy w' v.ownBlock/\(v ≠ .slice none 0 0->v' ≠ .slice none 0 0):=by
 rcases hfrom with ⟨rfl,rfl,rfl⟩ | ⟨a,c,rfl,hl,hn⟩
 · have hr:=run_append_owned_none (P:=P) w base t ty e i 1 ht hi v n xs hown
   exact ⟨v,w,hr,by simpa using hown,World.grownBy.refl w _,fun h=>h⟩
 · obtain ⟨v',w',hr,ho,hg,hiff⟩:=run_append_own (P:=P) w base t ty e i z 1 bytes ht hi hz hsize hby hzs (by omega) v n xs hown a m c news (by rw [Nat.mul_one];exact hl) hn h1 h63 hbytes hbase
   exact ⟨v',w',hr,ho,hg,fun h h'=>h (hiff.1 h').1⟩
theorem oN {ops:Array Oper} {rest:List Oper} {o:Oper} {a:Act} {w:World} {Q:Exit->Act->World->Prop}
 (hgd:o.guard=none) (s x:Operand) (t:TypeId) (hop:o.op=Op.call { callee:=Callee.builtin Builtin.append,args:=#[s,x],argTypes:=#[t,t] })
 {base:Nat} {e:TypeId} {i:TypeInfo} {z:Value} {bytes:Nat} (ht:P.underlying t=some (.slice e)) (hi:P.info? e=some i) (hz:i.zero=some z) (hsize:i.size=1) (hby:i.bytes=bytes) (hzs:z.cells.size=1)
 (v u:Value) (n m:Nat) (xs news:List Value) (hs:a.eval s=v) (hx:a.eval x=u) (hown:w.ownsRow base e 1 v n xs) (hfrom:KL w u m news) (h1:∀ x∈news,x.oneCell'=true) (h63:n+m<=maxLen) (hbytes:(n+m)*bytes<=140737488355328) (hbase:base<=w.heap.size)
 (hK:∀ v' w',w'.ownsRow base e 1 v' (n+m) (xs++news)->w.grownBy w' v.ownBlock->(v ≠ .slice none 0 0->v' ≠ .slice none 0 0)->wpList P ops Q rest (a.put o.dst v') w') :
 wpList P ops Q (o::rest) a w:=by
 refine wpList_plain hgd fun K hK'=>?_
 obtain ⟨v',w',hr,ho,hgr,hnn⟩:=rY (P:=P) (ty:=o.type) ht hi hz hsize hby hzs hown hfrom h1 h63 hbytes hbase;unfold Oper.wp;simp [execOp,hop,resolve,invoke,builtin,hs,hx,hr,Result.andThen];exact hK' _ _ (hK _ _ ho hgr hnn)
end
section
open Go.RowKit
section
variable {P:Program}
end
theorem bR {w w':World} {base:Nat} {e:TypeId} {size:Nat} {v:Value} {n:Nat} {xs:List Value} (h:w.ownsRow base e size v n xs) (hb:Below w.heap.size w w'):w'.ownsRow base e size v n xs :=
 World.ownsRow.kept (row:=none) h ⟨hb.os,hb.tape,hb.output,hb.size,fun k hk _=>hb.block k hk⟩ (by cases v.ownBlock <;> simp)
theorem nN {w:World} {base:Nat} {e:TypeId} {size:Nat} {a:Addr} {n c j:Nat} {xs:List Value} {u:Value} (h:w.ownsRow base e size (.slice (some a) n c) n xs) (hj:xs[j]? = some u):∃ g,a=⟨g,0,none⟩/\w.cell? ⟨g,j,none⟩=some u:=by
 rcases h.2 with ⟨h,_⟩ | ⟨g,cap,cur,hv,_,hg,_,_,_,ht⟩
 · cases h
 · simp only [Value.slice.injEq,Option.some.injEq] at hv
   obtain ⟨rfl,_,_⟩:=hv;refine ⟨g,rfl,?_⟩;rw [cell_of_row w g j cur e (0,0) hg];rw [<- ht,List.getElem?_take] at hj;split at hj
   · simpa using hj
   · cases hj
end
section
open Go.RowKit
theorem f6 {w:World} {B C:Nat} {e:TypeId} {size:Nat} {v:Value} {n:Nat} {xs:List Value} (h:w.ownsRow B e size v n xs) (hc:C<=B):w.ownsRow C e size v n xs:=by
 refine ⟨h.1,?_⟩;rcases h.2 with h1 | ⟨g,cap,cur,h1,hb,rest⟩
 · exact .inl h1
 · exact .inr ⟨g,cap,cur,h1,by omega,rest⟩
theorem dF {w:World} {B m size:Nat} {e:TypeId} {v:Value} {xs:List Value} (h:w.ownsRow B e size v m xs):∃ a c,v=.slice a m c:=by
 rcases h.2 with ⟨rfl,h0⟩ | ⟨g,cap,_,rfl,_⟩
 · rw [h0];exact ⟨_,_,rfl⟩
 · exact ⟨_,_,rfl⟩
theorem EA {w w':World} {row:Option Nat} (h:w.grownBy w' none):w.grownBy w' row:=⟨h.os,h.tape,h.output,h.size,fun k hk _=>h.block k hk (by simp)⟩
variable {P:Program}
theorem mP {w:World} {base size:Nat} {t ty e:TypeId} {i:TypeInfo} {z:Value} {bytes:Nat} (ht:P.underlying t=some (.slice e)) (hi:P.info? e=some i) (hz:i.zero=some z) (hsize:i.size=size) (hby:i.bytes=bytes) (hzs:z.cells.size=size) (hpos:0<size)
 {v:Value} {n m c:Nat} {a:Addr} {xs news:List Value} (hown:w.ownsRow base e size v n xs) (hl:news.length=m*size) (hn:∀ j u,news[j]? = some u->w.cell? (a.add j)=some u) (h1:∀ x∈news,x.oneCell'=true) (h63:n+m<=maxLen) (hbytes:(n+m)*bytes<=140737488355328) (hbase:base<=w.heap.size) :
 ∃ v' w',(Builtin.append_ #[t,t] ty #[v,.slice (some a) m c]).run P w=.ok v' w'/\w'.ownsRow base e size v' (n+m) (xs++news)/\w.grownBy w' v.ownBlock/\∀ q,v'.ownBlock=some q->v.ownBlock=some q\/w.heap.size<=q:=by
 rcases hown.2 with ⟨rfl,rfl⟩ | ⟨g,cap,cur,rfl,hbg,hg,hnc,hcm,hcs,htake⟩
 · have hx:xs=[]:=List.eq_nil_of_length_eq_zero (by simpa using hown.1)
   subst hx;obtain ⟨v',w',hr,r1,r2,_⟩:=run_append_own (P:=P) w w.heap.size t ty e i z size bytes ht hi hz hsize hby hzs hpos (.slice none 0 0) 0 [] (World.ownsRow_nil w _ e size) a m c news hl hn h1 h63 hbytes (Nat.le_refl _);exact ⟨v',w',hr,f6 r1 hbase,r2,fun q hq=>.inr (r1.lt q hq).1⟩
 · by_cases hroom:n+m<=cap
   · obtain ⟨w',hr,r1,r2⟩:=run_append_fits (P:=P) w base t ty e i size ht hi hsize g n cap xs hown a m c news hl hn h1 hroom
     exact ⟨_,w',hr,r1,r2,fun q hq=>.inl hq⟩
   · have ho:∀ j u,xs[j]? = some u->w.cell? ((⟨g,0,none⟩:Addr).add j)=some u:=fun j u hj=>by
      rw [Addr.add_lit,Nat.zero_add];obtain ⟨g',h1,h2⟩:=nN hown hj;simp only [Addr.mk.injEq,and_true] at h1;subst h1;exact h2
     obtain ⟨v',w',hr,r1,r2⟩:=run_append_arg_grows (P:=P) w t ty e i z size bytes ht hi hz hsize hby hzs hpos ⟨g,0,none⟩ n cap xs hown.1 ho a m c news hl hn (by omega) h63 hbytes;exact ⟨v',w',hr,f6 r1 hbase,EA r2,fun q hq=>.inr (r1.lt q hq).1⟩
theorem aS {ops:Array Oper} {rest:List Oper} {o:Oper} {a:Act} {w:World} {Q:Exit->Act->World->Prop}
 (hgd:o.guard=none) (s x:Operand) (t:TypeId) (hop:o.op=Op.call { callee:=Callee.builtin Builtin.append,args:=#[s,x],argTypes:=#[t,t] })
 {base size:Nat} {e:TypeId} {i:TypeInfo} {z:Value} {bytes:Nat} (ht:P.underlying t=some (.slice e)) (hi:P.info? e=some i) (hz:i.zero=some z) (hsize:i.size=size) (hby:i.bytes=bytes) (hzs:z.cells.size=size) (hpos:0<size)
 (v:Value) (n m c:Nat) (ad:Addr) (xs news:List Value) (hs:a.eval s=v) (hx:a.eval x=.slice (some ad) m c) (hown:w.ownsRow base e size v n xs) (hl:news.length=m*size) (hn:∀ j u,news[j]? = some u->w.cell? (ad.add j)=some u) (h1:∀ x∈news,x.oneCell'=true) (h63:n+m<=maxLen) (hbytes:(n+m)*bytes<=140737488355328) (hbase:base<=w.heap.size)
 (hK:∀ v' w',w'.ownsRow base e size v' (n+m) (xs++news)->w.grownBy w' v.ownBlock->(∀ q,v'.ownBlock=some q->v.ownBlock=some q\/w.heap.size<=q)->wpList P ops Q rest (a.put o.dst v') w') :
 wpList P ops Q (o::rest) a w:=by
 refine wpList_plain hgd fun K hK'=>?_
 obtain ⟨v',w',hr,ho,hgr,hq⟩:=mP (P:=P) (ty:=o.type) (c:=c) ht hi hz hsize hby hzs hpos hown hl hn h1 h63 hbytes hbase;unfold Oper.wp;simp [execOp,hop,resolve,invoke,builtin,hs,hx,hr,Result.andThen];exact hK' _ _ (hK _ _ ho hgr hq)
end
section
open Go.RowKit
def tkL (t:Tk):List Value:=[.int .i64 t.kind,.string ⟨t.text.toArray⟩,.int .i64 t.num,.int .i64 t.place]
def eY (ts:List Tk):List Value:=ts.flatMap tkL
theorem CH:∀ (ts:List Tk) {j i:Nat} (hj:j<ts.length),i<4->(eY ts)[j*4+i]? = (tkL ts[j])[i]?
 | [],_,_,hj,_=>by simp at hj
 | t :: ts, 0, i, _, hi => by
   show (tkL t++eY ts)[0*4+i]? = _;rw [Nat.zero_mul,Nat.zero_add,List.getElem?_append_left (by show i<4;exact hi)];rfl
 | t :: ts, j + 1, i, hj, hi => by
   show (tkL t++eY ts)[(j+1)*4+i]? = _;rw [List.getElem?_append_right (by show 4<=_;omega)];have:=CH ts (j:=j) (i:=i) (by simpa using hj) hi;rw [show (j+1)*4+i-(tkL t).length=j*4+i by show _-4=_;omega,this];rfl
theorem jZ (t:Tk):∀ u∈tkL t,u.oneCell'=true:=by
 intro u hu;simp only [tkL,List.mem_cons,List.not_mem_nil,or_false] at hu;rcases hu with rfl | rfl | rfl | rfl <;> rfl
theorem fY (ts:List Tk) (t:Tk):eY (ts++[t])=eY ts++tkL t:=by unfold eY;simp
def fJ (l:List UInt8):fN:=if 1024<l.length then .bad 0 4 else c8 l 0
def sJ (E:TypeId) (L:fN) (w:World) (e:Ending) (w':World):Prop:=Below w.heap.size w w' /\
 match L with
 | .bad p er=>e=.returned (.tuple #[.slice none 0 0,.int .i64 (p:Nat),.int .i64 er])
 | .ok ts=>∃ a c,e=.returned (.tuple #[.slice a ts.length c,.int .i64 0,.int .i64 0])/\w'.ownsRow w.heap.size E 4 (.slice a ts.length c) ts.length (eY ts)
theorem Ie:(Tryz.prog.info? 158).map (fun i=>(i.zero,i.size,i.bytes))=some (some (.agg #[.int .i64 0,.string ⟨#[]⟩,.int .i64 0,.int .i64 0]),4,40):=by kernel_rfl
theorem wF {l:List UInt8} {e:Int} (h:cU l=.bad e):e=1\/e=2\/e=5:=by
 cases l with
 | nil=>cases h;exact .inr (.inl rfl)
 | cons c r =>
   simp only [cU] at h;split at h
   · unfold jP at h
     split at h
     · cases h;exact .inr (.inr rfl)
     · cases h
   · split at h
     · unfold mB at h
       split at h
       · cases h;exact .inr (.inl rfl)
       · split at h
         · cases h;exact .inl rfl
         · cases h
     · unfold jF at h
       split at h
       · cases h;exact .inr (.inl rfl)
       · cases h
theorem rM (s:ByteArray) (hm:s.size<=281474976710656) (w:World) (hw:iJ w):Calls Tryz.prog 28 #[.string s] w (sJ 158 (fJ s.data.toList) w):=by
 have hl:s.data.toList.length=s.size:=by simp
 by_cases hlong:1024<s.size
 · have P:=aA (show sJ 158 (fJ s.data.toList) w (.returned (.tuple #[.slice none 0 0,.int .i64 0,.int .i64 4])) w from by
    unfold fJ;rw [if_pos (by omega)];exact ⟨Below.refl _ _,rfl⟩)
   clear hl;go_enter Tryz.func28,Tryz.ntmps28
   go_wp2_with fail
   go_ret3
   exact P.out
 obtain ⟨i0,hi,hz0,hz1,hz2⟩:=info_parts Ie;have und:Tryz.prog.underlying 71=some (.slice 158):=Tryz.underlying71;obtain ⟨L,hL⟩:∃ L,s.data.toList=L:=⟨_,rfl⟩;have SK:=aA (p:=∀ (p:Nat) (hp:p<=s.size) w,Calls Tryz.prog 80 #[.string s,.int .i64 p] w fun e w'=>e=.returned (.int .i64 ((p+cH (· == 32) (L.drop p):Nat):Int))/\w=w') (fun p hp w=>by rw [<- hL];exact Ee s p hp hm w)
 have FI:=aA (p:=∀ (p:Nat) (hp:p<s.size) w (hw:iJ w),Calls Tryz.prog 81 #[.string (s.extract p s.size)] w fun e w'=>e=.returned (tD (L.drop p) (cU (L.drop p)))/\Below w.heap.size w w') (fun p hp w hw=>by
  rw [<- hL, <- nP];exact Bu (s.extract p s.size) (by rw [ByteArray.size_extract];omega) (by rw [ByteArray.size_extract];omega) w hw)
 have hLs:L.length=s.size:=by rw [<- hL];exact hl
 have skip_in:∀ p,p<=s.size->p+cH (· == 32) (L.drop p)<=s.size:=fun p hp=>by
  have:=tA (· == 32) (L.drop p);rw [List.length_drop] at this;omega
 have skip_lex:∀ p,p<=s.size->c8 (L.drop p) p=c8 (L.drop (p+cH (· == 32) (L.drop p))) (p+cH (· == 32) (L.drop p)):=fun p _=>by
  rw [Gi,List.drop_drop]
 have skip_hd:∀ p,¬ (L.drop (p+cH (· == 32) (L.drop p))).head? = some 32:=fun p=>by
  rw [<- List.drop_drop];exact DC _
 have hE:fJ s.data.toList=c8 L 0:=by
  unfold fJ;rw [if_neg (by omega),hL]
 rw [hE];obtain ⟨E,hEE⟩:∃ E,c8 L 0=E:=⟨_,rfl⟩;rw [hEE]
 have K0:=aA (show c8 (L.drop (0+cH (· == 32) (L.drop 0))) (0+cH (· == 32) (L.drop 0))=E by
  rw [<- hEE, <- skip_lex 0 (by omega),List.drop_zero])
 have H0:=aA (skip_hd 0);have N0:=skip_in 0 (by omega);have D0:=aA (SK.out 0 (by omega));obtain ⟨k0,hk0⟩:∃ k0,0+cH (· == 32) (L.drop 0)=k0:=⟨_,rfl⟩;rw [hk0] at K0 H0 N0 D0;have SKI:=aA skip_in;have SKL:=aA skip_lex;have SKH:=aA skip_hd;have HW:=aA hw;have HLS:=aA hLs;clear hE hEE hk0 skip_in skip_lex skip_hd hL hl hw hLs;go_enter Tryz.func28,Tryz.ntmps28
 go_wp2_with (go_at_call 80;refine (D0.out _).mono ?_;rintro e w' ⟨rfl,rfl⟩)
 go_loopw [5,6] (fun v i wr=>∃ (k:Nat) (va:Option Addr) (vc:Nat) (T:List Tk),v=.slice va T.length vc/\i=.int .i64 k/\k<=s.size/\T.length<=k/\Hid (¬ (L.drop k).head? = some 32)/\Hid ((c8 (L.drop k) k).after T=E)/\Hid (wr.ownsRow w.heap.size 158 4 (.slice va T.length vc) T.length (eY T))/\Hid (Below w.heap.size w wr)) (fun _ i _=>s.size-(intOf i).toNat)
 case atStart=>exact ⟨k0,none,0,[],rfl,rfl,N0,by simp,H0,aA (by rw [wR];exact K0.out),aA (World.ownsRow_nil _ _ _ _),aA (Below.refl _ _)⟩
 case round =>
  obtain ⟨k,va,vc,T,rfl,rfl,hk,hTk,hH,hE,hO,hB⟩:=hrel;by_cases hlt:k<s.size
  · have hne:¬ L.drop k=[]:=by
     intro e;have:=congrArg List.length e;rw [List.length_drop,HLS.out,List.length_nil] at this;omega
    have LW:=aA (HW.out.step hB.out);have F:=aA (FI.out k hlt wr LW.out);rcases vS (L.drop k) k hH.out with ⟨h,_⟩ | ⟨er,_,hf,hx⟩ | ⟨kd,n,nv,_,hf,hn1,hn2,hx⟩
    · exact absurd h hne
    · have q:((er:Int) != 0)=true:=by rcases wF hf with h | h | h <;> rw [h] <;> decide
      have R:=aA (show E=.bad k er by rw [<- hE.out,hx];rfl);have F2:=aA (p:=Calls Tryz.prog 81 #[.string (s.extract k s.size)] wr fun e w'=>e=.returned (.tuple #[tkV 0 ⟨#[]⟩ 0 0,.int .i64 er])/\Below wr.heap.size wr w') (by have:=F.out;rw [hf] at this;exact this);clear hf hx hne F;go_wp2_with fail
      refine F2.out.mono ?_;rintro e w1 ⟨rfl,hb⟩;have hz:=hB.out.size;have B1:=aA (hB.out.trans (hb.mono hz));clear hb;go_wp2_with fail
      go_ret3
      rw [R.out];exact ⟨B1.out.alloc B1.out.size _,rfl⟩
    · have F2:=aA (p:=Calls Tryz.prog 81 #[.string (s.extract k s.size)] wr fun e w'=>e=.returned (.tuple #[tkV kd ⟨((L.drop k).take n).toArray⟩ nv 0,.int .i64 0])/\Below wr.heap.size wr w') (by have:=F.out;rw [hf] at this;exact this)
      rw [List.length_drop,HLS.out] at hn2;obtain ⟨t,ht⟩:∃ t:Tk,t=⟨kd,(L.drop k).take n,nv,k⟩:=⟨_,rfl⟩
      have htl:(⟨((L.drop k).take n).toArray⟩:ByteArray).size=n:=by
       show ((L.drop k).take n).toArray.size=n;rw [List.size_toArray,List.length_take,List.length_drop,HLS.out];omega
      have hE2:=aA (show (c8 (L.drop (k+n)) (k+n)).after (T++[t])=E by
       rw [<- hE.out,hx,rW,List.drop_drop,ht])
      obtain ⟨X,hX⟩:∃ X:ByteArray,⟨((L.drop k).take n).toArray⟩=X:=⟨_,rfl⟩;rw [hX] at F2 htl;have hcells:=aA (show tkL t=[.int .i64 kd,.string X,.int .i64 nv,.int .i64 k] by rw [ht, <- hX];rfl);have hz:=hB.out.size;have D1:=aA (SK.out (k+n) (by omega));have N1:=SKI.out (k+n) (by omega);have H1:=aA (SKH.out (k+n));have E1:=aA (SKL.out (k+n) (by omega));obtain ⟨k2,hk2⟩:∃ k2,k+n+cH (· == 32) (L.drop (k+n))=k2:=⟨_,rfl⟩;have hk3:k+n<=k2:=by omega
      rw [hk2] at D1 N1 H1 E1;have E3:=aA (show (c8 (L.drop k2) k2).after (T++[t])=E by rw [<- E1.out];exact hE2.out);clear hf hx hne F ht hE2 hX hk2 E1;go_wp2_with fail
      refine F2.out.mono ?_;rintro e w1 ⟨rfl,hb⟩;have B1:=aA (hB.out.trans (hb.mono hz));have O1:=aA (bR hO.out hb);have hsz:=hb.size;have B2:=aA (show Below w.heap.size w (w1.alloc (tkO kd X nv k)) from B1.out.alloc B1.out.size _);have OA:=aA (show ((w1.alloc (tkO kd X nv k)).alloc (tkO kd X nv k)).ownsRow w.heap.size 158 4 (.slice va T.length vc) T.length (eY T) from (O1.out.alloc _).alloc _)
      have NA:=aA (p:=∀ j u,(tkL t)[j]? = some u->((w1.alloc (tkO kd X nv k)).alloc (tkO kd X nv k)).cell? ((⟨w1.heap.size+1,0,none⟩:Addr).add j)=some u) (fun j u hj=>by
       rw [hcells.out] at hj;rw [Addr.add_lit,Nat.zero_add,cell_of_row _ _ _ _ _ (0,0) (show ((w1.alloc (tkO kd X nv k)).alloc (tkO kd X nv k)).heap[w1.heap.size+1]? = some (tkO kd X nv k) by have:=heap_alloc_new (w1.alloc (tkO kd X nv k)) (tkO kd X nv k);rwa [World.size_alloc] at this)];simpa using hj)
      have CB:=aA (show ((w1.alloc (tkO kd X nv k)).alloc (tkO kd X nv k)).heap[w1.heap.size]? = some (tkO kd X nv k) from (Below.heap_alloc _ _ _ (by rw [World.size_alloc];omega)).trans (heap_alloc_new w1 _));have BA:=aA (show w.heap.size<=((w1.alloc (tkO kd X nv k)).alloc (tkO kd X nv k)).heap.size by rw [World.size_alloc,World.size_alloc];omega);have OLt:=aA (fun q hq=>O1.out.lt q hq);clear hb;go_wp2_with (at_builtin;refine aS rfl _ _ 71 rfl (base:=w.heap.size) und hi hz0 hz1 hz2 rfl (by decide) (.slice va T.length vc) T.length 1 1 ⟨w1.heap.size+1,0,none⟩ (eY T) (tkL t) rfl rfl OA.out rfl NA.out (jZ _) (by unfold maxLen;omega) (by omega) BA.out ?_)
      intro v6 w6 ho hg _;obtain ⟨va6,c6,rfl⟩:=dF ho;have B6:=aA (show Below w.heap.size w w6 from (B2.out.alloc B2.out.size _).grown hg BA.out (fun q hq=>(OLt.out q hq).1));have O6:=aA (show w6.ownsRow w.heap.size 158 4 (.slice va6 (T++[t]).length c6) (T++[t]).length (eY (T++[t])) by rw [fY,List.length_append];exact ho)
      have C6:w6.heap[w1.heap.size]? = some (tkO kd X nv k):=by
       rw [hg.block w1.heap.size (aG CB.out) (fun e=>by have:=(OLt.out _ e.symm).2;omega)];exact CB.out
      obtain ⟨⟨m0,m1,m2,m3⟩, -⟩:=aK C6;rw [show T.length+1=(T++[t]).length by rw [List.length_append];rfl];have hTl:(T++[t]).length<=k2:=by rw [List.length_append];show T.length+1<=k2;omega
      generalize T++[t]=T2 at E3 O6 hTl;clear ho hg OA NA CB BA OLt C6 O1 B1 B2 hO hB hE;go_wp2_with (go_at_call 80;refine (D1.out _).mono ?_;rintro e w' ⟨rfl,rfl⟩)
      go_roundw
      case rel=>exact ⟨k2,va6,c6,T2,rfl,by go_num,N1,hTl,H1,E3,O6,B6⟩
      case measure=>simp [intOf];omega
  · obtain rfl:k=s.size:=by omega
    have R:=aA (show E=.ok T by
     rw [<- hE.out,List.drop_of_length_le (by rw [HLS.out];exact Nat.le_refl _),iA];simp [fN.after])
    go_wp2_with fail
    go_ret3
    rw [R.out];exact ⟨hB.out,va,vc,rfl,hO.out⟩
end
section
open Go.RowKit
structure RS where
 pos:Nat
 cnt:Nat
 bad:Int
 whr:Nat
def aR (e:Int) (s:RS):RS:=if s.bad=0 then ⟨s.pos,s.cnt,e,s.pos⟩ else s
def aJ (s:RS):RS:=if s.bad=0 then (if 32<s.cnt+1 then ⟨s.pos+1,s.cnt+1,4,s.pos⟩ else ⟨s.pos+1,s.cnt+1,0,s.whr⟩) else ⟨s.pos+1,s.cnt,s.bad,s.whr⟩
def aO (s:RS):RS:=⟨s.pos+1,s.cnt,s.bad,s.whr⟩
def isS (L:List Tk) (x:List UInt8) (p:Nat):Bool:=match L[p]? with
 | some t=>t.kind == 3 && t.text == x
 | none=>false
def isM (L:List Tk) (p:Nat):Bool:=isS L [42] p || isS L [47] p || isS L [37] p
def isA (L:List Tk) (p:Nat):Bool:=isS L [43] p || isS L [45] p
def dQ (L:List Tk) (p:Nat):List UInt8:=match L[p]? with
 | some t=>t.text
 | none=>[]
def dJ (L:List Tk) (s:RS):RS:=aO (if (s.bad == 0 && !isS L [41] s.pos)=true then aR 2 s else s)
def aD:TN:=⟨⟨#[]⟩,⟨#[]⟩,0,.nil⟩
def mR (v:Int):TN:=⟨⟨#[110,117,109]⟩,⟨#[]⟩,v,.nil⟩
def dO (x:List UInt8):TN:=⟨⟨#[110,97,109,101]⟩,⟨x.toArray⟩,0,.nil⟩
def oD (k:TN):TN:=⟨⟨#[110,101,103]⟩,⟨#[]⟩,0,k.f⟩
def eI (o:List UInt8) (a b:TN):TN:=⟨⟨o.toArray⟩,⟨#[]⟩,0,.cons a.op a.nm a.n a.ks b.f⟩
inductive Md | fac | prod | sum | prodL (n:TN) | sumL (n:TN)
def pr (L:List Tk):Nat->Md->RS->TN×RS
 | 0,_,s=>(aD,s)
 | f + 1, .fac, s =>
   if s.bad=0 then
    match L[s.pos]? with
    | none=>(aD,aR 2 s)
    | some t =>
      if t.kind=2 then (mR t.num,aJ s)
      else if t.kind=1 then (dO t.text,aJ s)
      else if t.text=[45] then (oD (pr L f .fac (aJ s)).1,(pr L f .fac (aJ s)).2)
      else if t.text=[40] then ((pr L f .sum (aO s)).1,dJ L (pr L f .sum (aO s)).2)
      else (aD,aR 2 s)
   else (aD,s)
 | f+1,.prod,s=>pr L f (.prodL (pr L f .fac s).1) (pr L f .fac s).2
 | f+1,.prodL n,s=>if (s.bad == 0 && isM L s.pos)=true then pr L f (.prodL (eI (dQ L s.pos) n (pr L f .fac (aJ s)).1)) (pr L f .fac (aJ s)).2 else (n,s)
 | f+1,.sum,s=>pr L f (.sumL (pr L f .prod s).1) (pr L f .prod s).2
 | f+1,.sumL n,s=>if (s.bad == 0 && isA L s.pos)=true then pr L f (.sumL (eI (dQ L s.pos) n (pr L f .prod (aJ s)).1)) (pr L f .prod (aJ s)).2 else (n,s)
theorem jS (e:Int) (s:RS):(aR e s).pos=s.pos:=by unfold aR;split <;> rfl
theorem cD (s:RS):(aJ s).pos=s.pos+1:=by
 unfold aJ;split
 · split <;> rfl
 · rfl
theorem wM (L:List Tk) (s:RS):(dJ L s).pos=s.pos+1:=by
 unfold dJ aO;split
 · show (aR 2 s).pos+1=_
   rw [jS]
 · rfl
theorem dB (L:List Tk):∀ (f:Nat) (md:Md) (s:RS),s.pos<=(pr L f md s).2.pos
 | 0,_,s=>Nat.le_refl _
 | f + 1, .fac, s => by
   rw [pr];by_cases hb:s.bad=0
   · rw [if_pos hb]
     cases L[s.pos]? with
     | none=>simp only;rw [jS];exact Nat.le_refl _
     | some t =>
       simp only;by_cases h2:t.kind=2
       · rw [if_pos h2];simp only;rw [cD];omega
       rw [if_neg h2];by_cases h1:t.kind=1
       · rw [if_pos h1];simp only;rw [cD];omega
       rw [if_neg h1];by_cases h45:t.text=[45]
       · rw [if_pos h45];simp only
         have:=dB L f .fac (aJ s);rw [cD] at this;omega
       rw [if_neg h45];by_cases h40:t.text=[40]
       · rw [if_pos h40];simp only
         have:=dB L f .sum (aO s);rw [wM];have e:(aO s).pos=s.pos+1:=rfl;omega
       rw [if_neg h40];simp only;rw [jS];exact Nat.le_refl _
   · rw [if_neg hb];exact Nat.le_refl _
 | f + 1, .prod, s => by
   rw [pr];exact Nat.le_trans (dB L f .fac s) (dB L f _ _)
 | f + 1, .prodL n, s => by
   rw [pr];split
   · refine Nat.le_trans ?_ (dB L f _ _)
     have:=dB L f .fac (aJ s);rw [cD] at this;omega
   · exact Nat.le_refl _
 | f + 1, .sum, s => by
   rw [pr];exact Nat.le_trans (dB L f .prod s) (dB L f _ _)
 | f + 1, .sumL n, s => by
   rw [pr];split
   · refine Nat.le_trans ?_ (dB L f _ _)
     have:=dB L f .prod (aJ s);rw [cD] at this;omega
   · exact Nat.le_refl _
def bL (m:Nat):Md->Nat
 | .fac=>4*m+1
 | .prod=>4*m+2
 | .prodL _=>4*m+1
 | .sum=>4*m+3
 | .sumL _=>4*m+1
theorem fM {L:List Tk} {x:List UInt8} {p:Nat} (h:isS L x p=true):p<L.length:=by
 unfold isS at h;cases e:L[p]? with
 | none=>rw [e] at h;cases h
 | some t=>exact (List.getElem?_eq_some_iff.1 e).1
theorem mT {L:List Tk} {p:Nat} (h:isM L p=true):p<L.length:=by
 unfold isM at h;simp only [Bool.or_eq_true] at h;rcases h with (h | h) | h <;> exact fM h
theorem mU {L:List Tk} {p:Nat} (h:isA L p=true):p<L.length:=by
 unfold isA at h;simp only [Bool.or_eq_true] at h;rcases h with h | h <;> exact fM h
theorem fS (L:List Tk):∀ (f g:Nat) (md:Md) (s:RS),bL (L.length-s.pos) md<=f->f<=g->pr L g md s=pr L f md s
 | 0,_,md,s,h,_=>by cases md <;> simp [bL] at h
 | f+1,0,_,_,_,h=>by omega
 | f + 1, g + 1, .fac, s, h, hg => by
   simp only [bL] at h;rw [pr,pr];by_cases hb:s.bad=0
   · rw [if_pos hb,if_pos hb]
     cases e:L[s.pos]? with
     | none=>rfl
     | some t =>
       have hlt:=(List.getElem?_eq_some_iff.1 e).1;have e1:=fS L f g .fac (aJ s) (by rw [cD];simp only [bL];omega) (by omega);have e2:=fS L f g .sum (aO s) (by show bL (L.length-(s.pos+1)) _<=f;simp only [bL];omega) (by omega);rw [e1,e2]
   · rw [if_neg hb,if_neg hb]
 | f + 1, g + 1, .prod, s, h, hg => by
   simp only [bL] at h;rw [pr,pr];rw [fS L f g .fac s (by simp only [bL];omega) (by omega)];have hp:=dB L f .fac s;exact fS L f g _ _ (by simp only [bL];omega) (by omega)
 | f + 1, g + 1, .prodL n, s, h, hg => by
   simp only [bL] at h;rw [pr,pr];by_cases hc:(s.bad == 0 && isM L s.pos)=true
   · rw [if_pos hc,if_pos hc]
     have hlt:=mT (by simp only [Bool.and_eq_true] at hc;exact hc.2);rw [fS L f g .fac (aJ s) (by rw [cD];simp only [bL];omega) (by omega)];have hp:=dB L f .fac (aJ s);rw [cD] at hp;exact fS L f g _ _ (by simp only [bL];omega) (by omega)
   · rw [if_neg hc,if_neg hc]
 | f + 1, g + 1, .sum, s, h, hg => by
   simp only [bL] at h;rw [pr,pr];rw [fS L f g .prod s (by simp only [bL];omega) (by omega)];have hp:=dB L f .prod s;exact fS L f g _ _ (by simp only [bL];omega) (by omega)
 | f + 1, g + 1, .sumL n, s, h, hg => by
   simp only [bL] at h;rw [pr,pr];by_cases hc:(s.bad == 0 && isA L s.pos)=true
   · rw [if_pos hc,if_pos hc]
     have hlt:=mU (by simp only [Bool.and_eq_true] at hc;exact hc.2);rw [fS L f g .prod (aJ s) (by rw [cD];simp only [bL];omega) (by omega)];have hp:=dB L f .prod (aJ s);rw [cD] at hp;exact fS L f g _ _ (by simp only [bL];omega) (by omega)
   · rw [if_neg hc,if_neg hc]
def pE (L:List Tk) (md:Md) (s:RS):TN×RS:=pr L (4*(L.length-s.pos)+4) md s
theorem oI {L:List Tk} {f:Nat} {md:Md} {s:RS} (h:bL (L.length-s.pos) md<=f):pr L f md s=pE L md s:=by
 have h4:bL (L.length-s.pos) md<=4*(L.length-s.pos)+4:=by cases md <;> simp [bL]
 unfold pE;rcases Nat.le_total f (4*(L.length-s.pos)+4) with h1 | h1
 · exact (fS L _ _ md s h h1).symm
 · exact fS L _ _ md s h4 h1
theorem jO (L:List Tk) (md:Md) (s:RS):s.pos<=(pE L md s).2.pos:=dB L _ md s
theorem lQ (L:List Tk) (s:RS):pE L .fac s=if s.bad=0 then
 match L[s.pos]? with
 | none=>(aD,aR 2 s)
 | some t =>
   if t.kind=2 then (mR t.num,aJ s)
   else if t.kind=1 then (dO t.text,aJ s)
   else if t.text=[45] then (oD (pE L .fac (aJ s)).1,(pE L .fac (aJ s)).2)
   else if t.text=[40] then ((pE L .sum (aO s)).1,dJ L (pE L .sum (aO s)).2)
   else (aD,aR 2 s)
 else (aD,s):=by
 unfold pE;rw [pr];by_cases hb:s.bad=0
 · rw [if_pos hb,if_pos hb]
   cases e:L[s.pos]? with
   | none=>rfl
   | some t =>
     have hlt:=(List.getElem?_eq_some_iff.1 e).1;have e1:=oI (L:=L) (f:=4*(L.length-s.pos)+3) (md:=.fac) (s:=aJ s) (by rw [cD];simp only [bL];omega);have e2:=oI (L:=L) (f:=4*(L.length-s.pos)+3) (md:=.sum) (s:=aO s) (by show bL (L.length-(s.pos+1)) _<=_;simp only [bL];omega);simp only;rw [e1,e2];rfl
 · rw [if_neg hb,if_neg hb]
theorem IF (L:List Tk) (s:RS):pE L .prod s=pE L (.prodL (pE L .fac s).1) (pE L .fac s).2:=by
 conv=>lhs;unfold pE
 rw [pr,oI (md:=.fac) (by simp only [bL];omega)];have hp:=jO L .fac s;exact oI (by simp only [bL];omega)
theorem mQ (L:List Tk) (n:TN) (s:RS):pE L (.prodL n) s=if (s.bad == 0 && isM L s.pos)=true then pE L (.prodL (eI (dQ L s.pos) n (pE L .fac (aJ s)).1)) (pE L .fac (aJ s)).2 else (n,s):=by
 conv=>lhs;unfold pE
 rw [pr];by_cases hc:(s.bad == 0 && isM L s.pos)=true
 · rw [if_pos hc,if_pos hc]
   have hlt:=mT (by simp only [Bool.and_eq_true] at hc;exact hc.2);rw [oI (md:=.fac) (by rw [cD];simp only [bL];omega)];have hp:=jO L .fac (aJ s);rw [cD] at hp;exact oI (by simp only [bL];omega)
 · rw [if_neg hc,if_neg hc]
theorem J6 (L:List Tk) (s:RS):pE L .sum s=pE L (.sumL (pE L .prod s).1) (pE L .prod s).2:=by
 conv=>lhs;unfold pE
 rw [pr,oI (md:=.prod) (by simp only [bL];omega)];have hp:=jO L .prod s;exact oI (by simp only [bL];omega)
theorem sC (L:List Tk) (n:TN) (s:RS):pE L (.sumL n) s=if (s.bad == 0 && isA L s.pos)=true then pE L (.sumL (eI (dQ L s.pos) n (pE L .prod (aJ s)).1)) (pE L .prod (aJ s)).2 else (n,s):=by
 conv=>lhs;unfold pE
 rw [pr];by_cases hc:(s.bad == 0 && isA L s.pos)=true
 · rw [if_pos hc,if_pos hc]
   have hlt:=mU (by simp only [Bool.and_eq_true] at hc;exact hc.2);rw [oI (md:=.prod) (by rw [cD];simp only [bL];omega)];have hp:=jO L .prod (aJ s);rw [cD] at hp;exact oI (by simp only [bL];omega)
 · rw [if_neg hc,if_neg hc]
inductive Do | bad (p:Nat) (e:Int) | ok (t:TN) (p:Nat)
def ofL (L:List Tk) (p:Nat):Do:=if (pE L .sum ⟨p,0,0,0⟩).2.bad=0 then .ok (pE L .sum ⟨p,0,0,0⟩).1 (pE L .sum ⟨p,0,0,0⟩).2.pos else .bad (pE L .sum ⟨p,0,0,0⟩).2.whr (pE L .sum ⟨p,0,0,0⟩).2.bad
def eD (n:Nat) (L:List Tk) (p:Nat):Nat:=match L[p]? with
 | some t=>t.place
 | none=>n
end
section
open Go.RowKit
def eW (w:World) (a:Option Addr) (ts:List Tk):Prop :=
 ts=[]\/∃ b off,a=some ⟨b,off,none⟩/\b<w.heap.size/\∀ j (h:j<ts.length),w.cell? ⟨b,off+j*4,none⟩=some (.int .i64 ts[j].kind)/\w.cell? ⟨b,off+j*4+1,none⟩=some (.string ⟨ts[j].text.toArray⟩) /\
  w.cell? ⟨b,off+j*4+2,none⟩=some (.int .i64 ts[j].num)/\w.cell? ⟨b,off+j*4+3,none⟩=some (.int .i64 ts[j].place)
theorem eW.kept {w w':World} {a:Option Addr} {ts:List Tk} (h:eW w a ts) (hb:Below w.heap.size w w'):eW w' a ts:=by
 rcases h with h | ⟨b,off,rfl,hlt,hc⟩
 · exact .inl h
 · refine .inr ⟨b,off,rfl,Nat.lt_of_lt_of_le hlt hb.size,fun j hj=>?_⟩
   obtain ⟨c0,c1,c2,c3⟩:=hc j hj;exact ⟨(hb.cell (p:=⟨b,_,none⟩) hlt).trans c0,(hb.cell (p:=⟨b,_,none⟩) hlt).trans c1,(hb.cell (p:=⟨b,_,none⟩) hlt).trans c2,(hb.cell (p:=⟨b,_,none⟩) hlt).trans c3⟩
theorem oT {w:World} {B:Nat} {E:TypeId} {a:Option Addr} {c:Nat} {ts:List Tk} (h:w.ownsRow B E 4 (.slice a ts.length c) ts.length (eY ts)):eW w a ts:=by
 have h0:=h;rcases h.2 with ⟨hs,hn⟩ | ⟨g,cap,cur,hs,_,hg,_⟩
 · exact .inl (List.length_eq_zero_iff.1 hn)
 · simp only [Value.slice.injEq] at hs
   obtain ⟨rfl,_,rfl⟩:=hs
   have cell:∀ j i u,j<ts.length->i<4->(eY ts)[j*4+i]? = some u->w.cell? ⟨g,0+j*4+i,none⟩=some u:=fun j i u hj hi hu=>by
    obtain ⟨g',hg',hc⟩:=nN h0 hu;simp only [Addr.mk.injEq,and_true] at hg';subst hg';rw [Nat.zero_add];exact hc
   refine .inr ⟨g,0,rfl,aG hg,fun j hj=>?_⟩;have at4:∀ i,i<4->(eY ts)[j*4+i]? = (tkL ts[j])[i]? := fun i hi=>CH ts hj hi
   exact ⟨cell j 0 _ hj (by omega) (at4 0 (by omega)),cell j 1 _ hj (by omega) (at4 1 (by omega)),cell j 2 _ hj (by omega) (at4 2 (by omega)),cell j 3 _ hj (by omega) (at4 3 (by omega))⟩
end
end
end Go.Proofs.YtapcjnoaofmmiaaGreatDoor
