/-
 No statement: what AggEvalCard needs, of the texts OKeep, OKeepA, OStep, OFold, OFoldL.
-/
import Derived.Test.YtapcjnoaofmmiaaGreatDoorVE22
namespace Go.Proofs.YtapcjnoaofmmiaaGreatDoor
section
open Go.RowKit
def fG (most : Nat) (ks : List Int) (n : Int) : List Int := if has ks n = true then ks else (dI lsL ks n).drop ((dI lsL ks n).length - most)
theorem Ac {ks : List Int} {n : Int} (h : ¬ has ks n = true) : dI lsL ks n = ks.take (pos lsL ks n) ++ n :: ks.drop (pos lsL ks n) := by unfold dI; rw [if_neg h]
theorem Cx (ks : List Int) (x : Int) : pos lsL ks x <= ks.length := by
 unfold pos;exact (List.takeWhile_sublist _).length_le
theorem oZ {ks : List Int} {n : Int} (h : ¬ has ks n = true) : (dI lsL ks n).length = ks.length + 1 := by
 rw [Ac h, List.length_append, List.length_cons, List.length_take, List.length_drop];have := Cx ks n;omega
theorem zO {l : List Int} (h : bQ lsL l) (k : Nat) : bQ lsL (l.drop k) := List.Pairwise.sublist (List.drop_sublist k l) h
theorem xF {most : Nat} {ks : List Int} (h : bQ lsL ks) (n : Int) : bQ lsL (fG most ks n) := by
 unfold fG
 split
 · exact h
 · exact zO (eU eO h n) _
theorem Ey {most : Nat} {ks : List Int} (h : ks.length <= most) (n : Int) : (fG most ks n).length <= most := by
 unfold fG
 split
 · exact h
 · rw [List.length_drop]; omega
def iD (k : Nat) (l : List Int) : List Int := l.drop (l.length - k)
theorem vI (k : Nat) (l : List Int) : (iD k l).length = min k l.length := by unfold iD; rw [List.length_drop]; omega
theorem jY {k : Nat} {l : List Int} (h : l.length <= k) : iD k l = l := by unfold iD; rw [show l.length - k = 0 by omega, List.drop_zero]
theorem jD {a b : List Int} : bQ lsL (a ++ b) ↔ bQ lsL a /\ bQ lsL b /\ ∀ x ∈ a, ∀ y ∈ b, x < y := by
 unfold bQ;rw [List.pairwise_append];constructor
 · rintro ⟨h1, h2, h3⟩
   exact ⟨h1, h2, fun x hx y hy => by have := h3 x hx y hy; simpa [lsL] using this⟩
 · rintro ⟨h1, h2, h3⟩
   exact ⟨h1, h2, fun x hx y hy => by have := h3 x hx y hy; simpa [lsL] using this⟩
theorem qE {k : Nat} {a c : List Int} (h : k <= c.length) : iD k (a ++ c) = iD k c := by
 unfold iD;rw [List.length_append, show a.length + c.length - k = a.length + (c.length - k) by omega, List.drop_append, List.drop_of_length_le (by omega), List.nil_append]
 congr 1
 omega
theorem Ae (b : List Int) (n : Int) : b.length <= (dI lsL b n).length := by
 by_cases h : has b n = true
 · unfold dI; rw [if_pos h]; exact Nat.le_refl _
 · rw [oZ h]; omega
theorem IV {a b : List Int} (h : bQ lsL (a ++ b)) {n y : Int} (hy : y ∈ b) (hn : y <= n) : dI lsL (a ++ b) n = a ++ dI lsL b n := by
 obtain ⟨h1, h2, h3⟩ := jD.1 h;refine oK eO (eU eO h n) (jD.2 ⟨h1, eU eO h2 n, fun x hx z hz => ?_⟩) (fun x => ?_)
 · rcases (kU b n z).1 hz with hz | rfl
   · exact h3 x hx z hz
   · have := h3 x hx y hy; omega
 · rw [kU, List.mem_append, List.mem_append, kU]
   constructor
   · rintro ((h | h) | h)
     · exact .inl h
     · exact .inr (.inl h)
     · exact .inr (.inr h)
   · rintro (h | h | h)
     · exact .inl (.inl h)
     · exact .inl (.inr h)
     · exact .inr h
theorem Ad {a b : List Int} (h : bQ lsL (a ++ b)) {n : Int} (hn : ∀ y ∈ b, n < y) : dI lsL (a ++ b) n = dI lsL a n ++ b := by
 obtain ⟨h1, h2, h3⟩ := jD.1 h;refine oK eO (eU eO h n) (jD.2 ⟨eU eO h1 n, h2, fun x hx z hz => ?_⟩) (fun x => ?_)
 · rcases (kU a n x).1 hx with hx | rfl
   · exact h3 x hx z hz
   · exact hn z hz
 · rw [kU, List.mem_append, List.mem_append, kU]
   constructor
   · rintro ((h | h) | h)
     · exact .inl (.inl h)
     · exact .inr h
     · exact .inl (.inr h)
   · rintro ((h | h) | h)
     · exact .inl (.inl h)
     · exact .inr h
     · exact .inl (.inr h)
theorem GQ {l : List Int} (h : bQ lsL l) (k : Nat) (n : Int) : iD k (dI lsL (iD k l) n) = iD k (dI lsL l n) := by
 by_cases hk : l.length <= k
 · rw [jY hk]
 obtain ⟨a, b, hab, hb⟩ : ∃ a b, l = a ++ b /\ b = iD k l := ⟨l.take (l.length - k), _, (List.take_append_drop _ _).symm, rfl⟩;have hbl : b.length = k := by rw [hb, vI]; omega
 rw [<- hb, hab];rw [hab] at h
 by_cases hA : ∃ y ∈ b, y <= n
 · obtain ⟨y, hy, hn⟩ := hA
   rw [IV h hy hn, qE (by rw [<- hbl]; exact Ae b n)]
 · have hn : ∀ y ∈ b, n < y := fun y hy => by
    by_cases hl : y <= n
    · exact absurd ⟨y, hy, hl⟩ hA
    · omega
   rw [Ad h hn, qE (by omega), jY (by omega : b.length <= k)];have e := Ad (a := []) (b := b) (by simpa using (jD.1 h).2.1) hn;rw [List.nil_append] at e;rw [e, qE (by omega), jY (by omega)]
theorem Bu {most : Nat} {ks : List Int} (h : ks.length <= most) (n : Int) : fG most ks n = iD most (dI lsL ks n) := by
 unfold fG
 by_cases hh : has ks n = true
 · rw [if_pos hh]
   unfold dI;rw [if_pos hh, jY h]
 · rw [if_neg hh]; rfl
theorem Ex (most : Nat) (l : List Int) : ∀ (ks : List Int), bQ lsL ks -> l.foldl (fG most) (iD most ks) = iD most (l.foldl (dI lsL) ks) := by
 induction l with
 | nil => intro ks _; rfl
 | cons n r ih =>
   intro ks h;rw [List.foldl_cons, List.foldl_cons, Bu (by rw [vI]; omega), GQ h, ih _ (eU eO h n)]
set_option maxHeartbeats 2000000 in
theorem Fm (v : Value) (n : Nat) (xs : List Value) (w : World) (hn : n <= 1000000) (ho : w.ownsRow 0 2 1 v n xs) :
 Calls Tryz.prog 112 #[v, .int .i64 0, .int .i64 0] w fun e w' => e = .returned v /\ w = w' := by
 rcases lL ho with ⟨rfl, rfl, rfl⟩ | ⟨g, cap, cur, rfl, hob, hg, hnc, hm, hs, ht, hx, _⟩
 · go_enter Tryz.func112, Tryz.ntmps112
   go_wp2_with fail
   go_ret;exact ⟨rfl, rfl⟩
 · have a1 : (0 : Int) <= (n : Int) := by omega
   have a2 : (n : Int) <= (cap : Int) := by omega
   clear ho hob hg hs ht hx
   go_enter Tryz.func112, Tryz.ntmps112
   go_wp2_with fail
   go_ret;exact ⟨rfl, rfl⟩
theorem CH {w : World} {B n : Nat} {e : TypeId} {size : Nat} {v : Value} {xs : List Value} (h : w.ownsRow 0 e size v n xs) (hb : ∀ b, v.ownBlock = some b -> B <= b) : w.ownsRow B e size v n xs := by
 refine ⟨h.1, ?_⟩
 rcases h.2 with h2 | ⟨g, cap, cur, h1, h2, h3⟩
 · exact .inl h2
 · exact .inr ⟨g, cap, cur, h1, hb g (by rw [h1]; rfl), h3⟩
theorem At (l : List Int) : ∀ u ∈ l.map (Value.int .i64), u.oneCell' = true := fun u hu => by
 obtain ⟨n, -, rfl⟩ := List.mem_map.1 hu;rfl
set_option maxHeartbeats 8000000 in
set_option maxRecDepth 100000 in
theorem Ez (B : Nat) (v : Value) (ks : List Int) (n : Int) (most : Nat) (w : World) (hm : 1 <= most) (hm16 : most <= 1000) (hk : ks.length <= most) (hr : bQ lsL ks) (hB : B <= w.heap.size) (ho : w.ownsRow B 2 1 v ks.length (ks.map (Value.int .i64))) :
 Calls Tryz.prog 65 #[v, .int .i64 n, .int .i64 (most : Nat)] w fun e w' => ∃ v', e = .returned v' /\ w'.ownsRow B 2 1 v' (fG most ks n).length ((fG most ks n).map (Value.int .i64)) /\ aG (fun b => v.ownBlock = some b) w w' := by
 have o0 := dK ho (Nat.zero_le B);have SR := aA (Iy v ks.length ks n w (by omega) o0 hr);have HO := aA ho;have HR := aA hr;obtain ⟨av, cv, hv⟩ := bW ho;subst hv;clear o0 ho hr;cases hh : has ks n with
 | true =>
   rw [hh] at SR;have E := aA (show fG most ks n = ks by unfold fG; rw [if_pos hh]);clear hh
   go_enter Tryz.func65, Tryz.ntmps65
   go_wp2_with fail
   refine SR.out.mono ?_;rintro e w1 ⟨rfl, q, rfl⟩
   go_wp2_with fail
   go_ret;refine ⟨_, rfl, ?_, (aG.refl _ w).drewN q⟩;rw [E.out];exact dW (row := none) HO.out ((aG.refl _ w).drewN q) (fun b hb => by simp)
 | false =>
   rw [hh] at SR;have hh' : ¬ has ks n = true := by rw [hh]; decide
   have E := aA (show fG most ks n = (dI lsL ks n).drop ((dI lsL ks n).length - most) by unfold fG; rw [if_neg hh']);have EL := aA (oZ hh');have EM := aA (show (ks.map (Value.int .i64)).take (pos lsL ks n) ++ Value.int .i64 n :: (ks.map (Value.int .i64)).drop (pos lsL ks n) = (dI lsL ks n).map (Value.int .i64) by rw [Ac hh', List.map_append, List.map_cons, List.map_take, List.map_drop]);have HP := aA (Cx ks n);obtain ⟨pk, hpk⟩ : ∃ l, dI lsL ks n = l := ⟨_, rfl⟩;rw [hpk] at E EL EM;obtain ⟨ps, hps⟩ : ∃ p, pos lsL ks n = p := ⟨_, rfl⟩;rw [hps] at SR HP EM;clear hh hh' hpk hps
   go_enter Tryz.func65, Tryz.ntmps65
   go_wp2_with fail
   refine SR.out.mono ?_;rintro e w1 ⟨rfl, q, rfl⟩;have KD := (aG.refl (fun b => (Value.slice av ks.length cv).ownBlock = some b) w).drewN q;have o1 := dW (row := none) HO.out ((aG.refl (fun i => (none : Option Nat) = some i) w).drewN q) (fun b hb => by simp);have hs1 : (w.drewN q).heap.size = w.heap.size := rfl;generalize w.drewN q = W at *;have NB := heap_alloc_new W (.cells #[.int .i64 n] 2);have BA := (Below.refl W.heap.size W).alloc (Nat.le_refl _) (.cells #[.int .i64 n] 2);have o2 := aT o1 BA;have IL := aA (Lw (.slice av ks.length cv) ks.length ps W.heap.size (ks.map (Value.int .i64)) (.int .i64 n) (W.alloc (.cells #[.int .i64 n] 2)) (by omega) HP.out (dK o2 (Nat.zero_le _)) NB (fun e => by have := (o1.lt _ e).2; omega) (At ks) rfl);have KA := aA (KD.trans (aF BA (fun b => (Value.slice av ks.length cv).ownBlock = some b)) (fun i hi _ => hi));have HLB := aA (fun b (hb : (Value.slice av ks.length cv).ownBlock = some b) => (o1.lt b hb));rw [hs1] at IL;clear SR NB BA o1 o2 KD
   go_wp2_with fail
   refine IL.out.mono ?_;rintro e w2 ⟨v1, rfl, o3, hg3, hb3⟩;rw [EM.out] at o3;have hlen : (pk.map (Value.int .i64)).length = ks.length + 1 := by rw [List.length_map, EL.out]
   rw [hlen] at o3;obtain ⟨a1, c1, hv1⟩ := bW o3;subst hv1;have K3 := aA (KA.out.grown hg3 (fun k hk => .inl hk))
   have HB1 := aA (show ∀ b, (Value.slice a1 (ks.length + 1) c1).ownBlock = some b -> B <= b by
    intro b hb
    rcases hb3 with hb3 | ⟨b', hb', hle⟩
    · exact (HLB.out b (hb3.symm.trans hb)).1
    · rw [hb'] at hb
      cases hb;rw [World.size_alloc] at hle;omega)
   have HB2 := aA (show ∀ b, (Value.slice a1 (ks.length + 1) c1).ownBlock = some b -> (Value.slice av ks.length cv).ownBlock = some b \/ w.heap.size <= b by
    intro b hb
    rcases hb3 with hb3 | ⟨b', hb', hle⟩
    · exact .inl (hb3.symm.trans hb)
    · rw [hb'] at hb
      cases hb;rw [World.size_alloc] at hle;exact .inr (by omega))
   have O3 := aA o3;clear o3 hg3 hb3 IL KA;have m1 : ((ks.length + 1 : Nat) : Int) = (ks.length : Int) + 1 := rfl
   by_cases hle : ks.length + 1 <= most
   · have CD := aA (Fm (.slice a1 (ks.length + 1) c1) (ks.length + 1) _ w2 (by omega) O3.out)
     have a2 : max (0 : Int) ((ks.length : Int) + 1 - (most : Int)) = 0 := by omega
     have EE := aA (show fG most ks n = pk by rw [E.out, EL.out, show ks.length + 1 - most = 0 by omega, List.drop_zero])
     go_wp2_with fail
     refine CD.out.mono ?_;rintro e w3 ⟨rfl, rfl⟩
     go_wp2_with fail
     go_ret;refine ⟨_, rfl, ?_, K3.out⟩;rw [EE.out, EL.out];exact CH O3.out HB1.out
   · have CD := Lz (.slice a1 (ks.length + 1) c1) (ks.length + 1) 0 (pk.map (Value.int .i64)) w2 (by omega) (by omega) O3.out (At pk)
     have CD2 := aA (show Calls Tryz.prog 112 #[.slice a1 (ks.length + 1) c1, .int .i64 0, .int .i64 1] w2 fun e w' => yI w2 w' 2 (.slice a1 (ks.length + 1) c1) ((pk.map (Value.int .i64)).eraseIdx 0) e from CD);have a2 : max (0 : Int) ((ks.length : Int) + 1 - (most : Int)) = 1 := by omega
     have EE := aA (show fG most ks n = pk.drop 1 by rw [E.out, EL.out, show ks.length + 1 - most = 1 by omega]);clear CD
     go_wp2_with fail
     refine CD2.out.mono ?_;rintro e w3 ⟨v2, rfl, o4, hg4, hb4⟩
     have e1 : (pk.map (Value.int .i64)).eraseIdx 0 = (pk.drop 1).map (Value.int .i64) := by
      cases pk with
      | nil => rfl
      | cons x r => rfl
     rw [e1] at o4;have hlen2 : ((pk.drop 1).map (Value.int .i64)).length = (pk.drop 1).length := by simp
     rw [hlen2] at o4;have O4 := aA o4;have K4 := aA (K3.out.grown hg4 (fun k hk => HB2.out k hk));have HB4 := aA (fun b (hb : v2.ownBlock = some b) => HB1.out b (hb4.symm.trans hb));clear o4 hg4 hb4
     go_wp2_with fail
     go_ret;refine ⟨_, rfl, ?_, K4.out⟩;rw [EE.out];exact CH O4.out HB4.out
set_option maxHeartbeats 2000000
theorem DD (n u v : Int) (w : World) (h0 : 0 <= n) (h1 : n <= 1000000) : Calls Tryz.prog 60 #[.int .i64 n, .agg #[.int .i64 u, .int .i64 v]] w fun e w' => e = .returned (.int .i64 (n + 1)) /\ Below w.heap.size w w' := by
 go_enter Tryz.func60, Tryz.ntmps60
 go_wp2
 go_ret;exact ⟨rfl, (Below.refl _ w).alloc (Nat.le_refl _) _⟩
theorem DC (n u v : Int) (w : World) (h0 : aN n) (h1 : aN u) : Calls Tryz.prog 61 #[.int .i64 n, .agg #[.int .i64 u, .int .i64 v]] w fun e w' => e = .returned (.int .i64 (cG (n + u))) /\ Below w.heap.size w w' := by
 have VA := aA (fun w => yO n u w h0 h1);have B1 := aA ((Below.refl w.heap.size w).alloc (Nat.le_refl _) (aL u v));have N1 := heap_alloc_new w (aL u v);generalize hW : w.alloc (aL u v) = W at *;have HW := aA hW;obtain ⟨⟨m0, m1⟩, -⟩ := two N1;clear hW N1 h0 h1
 go_enter Tryz.func61, Tryz.ntmps61
 go_upto_region 1 with fail
 rw [show w.alloc (.cells #[.int .i64 u, .int .i64 v] 131) = W from HW.out]
 go_wp2_with fail
 refine (VA.out _).mono ?_;rintro e w1 ⟨rfl, rfl⟩
 go_wp2_with fail
 go_ret;exact ⟨rfl, B1.out⟩
theorem DA (B : Nat) (x : AG) (p : PA) (b : Nat) (vv : Value) (ks : List Int) (u v : Int) (most : Nat) (w : World) (hK : x.k = (most : Int)) (hm : 1 <= most) (hm16 : most <= 1000) (hk : ks.length <= most) (hr : bQ lsL ks) (hB : B <= w.heap.size) (ho : w.ownsRow B 2 1 vv ks.length (ks.map (Value.int .i64)))
 (ha : w.heap[b]? = some (agP x p)) :
 Calls Tryz.prog 64 #[vv, .agg #[.int .i64 u, .int .i64 v], .pointer (some ⟨b, 0, none⟩)] w fun e w' => ∃ v', e = .returned v' /\ w'.ownsRow B 2 1 v' (fG most ks u).length ((fG most ks u).map (Value.int .i64)) /\ aG (fun b => vv.ownBlock = some b) w w' := by
 have B1 := (Below.refl w.heap.size w).alloc (Nat.le_refl _) (aL u v);have N1 := heap_alloc_new w (aL u v);have hz : (w.alloc (aL u v)).heap.size = w.heap.size + 1 := World.size_alloc _ _;have o1 := ho.alloc (aL u v);have a1 := (B1.block b (aC ha)).trans ha;have K1 : aG (fun b => vv.ownBlock = some b) w (w.alloc (aL u v)) := (aG.refl _ w).alloc _;generalize hW : w.alloc (aL u v) = W at *;have KA := aA (Ez B vv ks u most W hm hm16 hk hr (by omega) o1);have HW := aA hW;have HK := aA K1;obtain ⟨⟨n0, n1⟩, -⟩ := two N1;obtain ⟨m0, m1, m2, m3, m4, m5, m6, m7, m8, m9, m10⟩ := aD a1;rw [hK] at m1;obtain ⟨av, cv, rfl⟩ := bW ho;clear hW N1 o1 a1 K1 B1 ho hr hz ha
 go_enter Tryz.func64, Tryz.ntmps64
 go_upto_region 1 with fail
 rw [show w.alloc (.cells #[.int .i64 u, .int .i64 v] 131) = W from HW.out]
 go_wp2_with fail
 refine KA.out.mono ?_;rintro e w1 ⟨v', rfl, h1, h2⟩
 go_wp2_with fail
 go_ret;exact ⟨v', rfl, h1, HK.out.trans h2 (fun i h _ => h)⟩
abbrev vlA (k n : Int) (a : Option Addr) (l c : Nat) : Obj := .cells #[.int .i64 k, .int .i64 n, .string ⟨#[]⟩, .slice a l c] 53
theorem iA (n : Int) (w : World) : Calls Tryz.prog 58 #[.int .i64 n] w fun e w' => e = .returned (vlV 1 n none 0 0) /\ Below w.heap.size w w' := by
 go_enter Tryz.func58, Tryz.ntmps58
 go_wp2_with fail
 obtain ⟨⟨y0, y1, y2, y3⟩, -⟩ := aJ (heap_alloc_new w (vlA 1 n none 0 0));exact bodyPost_ret (v := vlV 1 n none 0 0) (by simp [results, Tryz.results58, go_sem, y0, y1, y2, y3]) rfl ⟨rfl, (Below.refl _ _).alloc (Nat.le_refl _) _⟩
theorem Ek (a0 a1 b0 b1 : Int) (w : World) : Calls Tryz.prog 113 #[.agg #[.int .i64 a0, .int .i64 a1], .agg #[.int .i64 b0, .int .i64 b1]] w fun e w' => e = .returned (.bool (decide (a0 < b0))) /\ Below w.heap.size w w' := by
 have N1 := heap_alloc_new w (aL a0 a1);have B1 := (Below.refl w.heap.size w).alloc (Nat.le_refl _) (aL a0 a1);have hz1 : (w.alloc (aL a0 a1)).heap.size = w.heap.size + 1 := World.size_alloc _ _;have N2 := heap_alloc_new (w.alloc (aL a0 a1)) (aL b0 b1);have B2 := (Below.refl w.heap.size (w.alloc (aL a0 a1))).alloc (by omega) (aL b0 b1);have M1 := (((Below.refl _ (w.alloc (aL a0 a1))).alloc (Nat.le_refl _) (aL b0 b1)).block w.heap.size (by omega)).trans N1;have BB := aA (B1.trans B2);rw [hz1] at N2;generalize hW : (w.alloc (aL a0 a1)).alloc (aL b0 b1) = W at *;have HW := aA hW;obtain ⟨⟨m0, m1⟩, -⟩ := two M1;obtain ⟨⟨n0, n1⟩, -⟩ := two N2;clear hW N1 N2 M1 B1 B2
 go_enter Tryz.func113, Tryz.ntmps113
 go_upto_region 1 with fail
 rw [show (w.alloc (.cells #[.int .i64 a0, .int .i64 a1] 131)).alloc (.cells #[.int .i64 b0, .int .i64 b1] 131) = W from HW.out]
 go_wp2_with fail
 go_ret;exact ⟨rfl, BB.out⟩
theorem Ej (a0 a1 b0 b1 : Int) (w : World) : Calls Tryz.prog 114 #[.agg #[.int .i64 a0, .int .i64 a1], .agg #[.int .i64 b0, .int .i64 b1]] w fun e w' => e = .returned (.bool (decide (b0 < a0))) /\ Below w.heap.size w w' := by
 have N1 := heap_alloc_new w (aL a0 a1);have B1 := (Below.refl w.heap.size w).alloc (Nat.le_refl _) (aL a0 a1);have hz1 : (w.alloc (aL a0 a1)).heap.size = w.heap.size + 1 := World.size_alloc _ _;have N2 := heap_alloc_new (w.alloc (aL a0 a1)) (aL b0 b1);have B2 := (Below.refl w.heap.size (w.alloc (aL a0 a1))).alloc (by omega) (aL b0 b1);have M1 := (((Below.refl _ (w.alloc (aL a0 a1))).alloc (Nat.le_refl _) (aL b0 b1)).block w.heap.size (by omega)).trans N1;have BB := aA (B1.trans B2);rw [hz1] at N2;generalize hW : (w.alloc (aL a0 a1)).alloc (aL b0 b1) = W at *;have HW := aA hW;obtain ⟨⟨m0, m1⟩, -⟩ := two M1;obtain ⟨⟨n0, n1⟩, -⟩ := two N2;clear hW N1 N2 M1 B1 B2
 go_enter Tryz.func114, Tryz.ntmps114
 go_upto_region 1 with fail
 rw [show (w.alloc (.cells #[.int .i64 a0, .int .i64 a1] 131)).alloc (.cells #[.int .i64 b0, .int .i64 b1] 131) = W from HW.out]
 go_wp2_with fail
 go_ret;exact ⟨rfl, BB.out⟩
theorem Ei (a0 a1 b0 b1 : Int) (w : World) : Calls Tryz.prog 115 #[.agg #[.int .i64 a0, .int .i64 a1], .agg #[.int .i64 b0, .int .i64 b1]] w fun e w' => e = .returned (.bool (decide (a1 < b1))) /\ Below w.heap.size w w' := by
 have N1 := heap_alloc_new w (aL a0 a1);have B1 := (Below.refl w.heap.size w).alloc (Nat.le_refl _) (aL a0 a1);have hz1 : (w.alloc (aL a0 a1)).heap.size = w.heap.size + 1 := World.size_alloc _ _;have N2 := heap_alloc_new (w.alloc (aL a0 a1)) (aL b0 b1);have B2 := (Below.refl w.heap.size (w.alloc (aL a0 a1))).alloc (by omega) (aL b0 b1);have M1 := (((Below.refl _ (w.alloc (aL a0 a1))).alloc (Nat.le_refl _) (aL b0 b1)).block w.heap.size (by omega)).trans N1;have BB := aA (B1.trans B2);rw [hz1] at N2;generalize hW : (w.alloc (aL a0 a1)).alloc (aL b0 b1) = W at *;have HW := aA hW;obtain ⟨⟨m0, m1⟩, -⟩ := two M1;obtain ⟨⟨n0, n1⟩, -⟩ := two N2;clear hW N1 N2 M1 B1 B2
 go_enter Tryz.func115, Tryz.ntmps115
 go_upto_region 1 with fail
 rw [show (w.alloc (.cells #[.int .i64 a0, .int .i64 a1] 131)).alloc (.cells #[.int .i64 b0, .int .i64 b1] 131) = W from HW.out]
 go_wp2_with fail
 go_ret;exact ⟨rfl, BB.out⟩
theorem xZ (o : ByteArray) (w : World) (h : o.data.toList = fV) : Calls Tryz.prog 67 #[.string o] w fun e w' => e = .returned (.func (.func 113) #[] #[]) /\ w = w' := by
 have g1 : (o.toList == [109, 105, 110]) = true := bG (by rw [h]; decide);clear h
 go_enter Tryz.func67, Tryz.ntmps67
 go_wp2
 go_ret;exact ⟨rfl, rfl⟩
theorem yA (o : ByteArray) (w : World) (h : o.data.toList = gW) : Calls Tryz.prog 67 #[.string o] w fun e w' => e = .returned (.func (.func 114) #[] #[]) /\ w = w' := by
 have g1 : (o.toList == [109, 105, 110]) = false := aE (by rw [h]; decide);have g2 : (o.toList == [109, 97, 120]) = true := bG (by rw [h]; decide);clear h
 go_enter Tryz.func67, Tryz.ntmps67
 go_wp2
 go_ret;exact ⟨rfl, rfl⟩
theorem tS (o : ByteArray) (w : World) (h : o.data.toList = aY) : Calls Tryz.prog 67 #[.string o] w fun e w' => e = .returned (.func (.func 115) #[] #[]) /\ w = w' := by
 have g1 : (o.toList == [109, 105, 110]) = false := aE (by rw [h]; decide);have g2 : (o.toList == [109, 97, 120]) = false := aE (by rw [h]; decide);clear h
 go_enter Tryz.func67, Tryz.ntmps67
 go_wp2
 go_ret;exact ⟨rfl, rfl⟩
end
section
open Go.RowKit Go.Shelf
attribute [local go_sem] Oper.semAt_some
theorem dM {B : Nat} {vs : Array Value} {t : TypeId} {fz : Nat × Nat} {W W' : World} {row : Option Nat} (h : W.heap[B]? = some (.cells vs t fz)) (hg : W.grownBy W' row) (hr : ∀ r, row = some r -> ∃ o : Obj, W.heap[r]? = some o /\ o.isCells = false) : W'.heap[B]? = some (.cells vs t fz) :=
 (hg.block B (aC h) (fun e => by obtain ⟨o, ho, hc⟩ := hr B e.symm; rw [h] at ho; cases ho; cases hc)).trans h
theorem eC {W W' : World} (h : Below W.heap.size W W') (D : Nat) : KeepsFrom D W W' :=
 (KeepsOthers.of_grownBy (row := none) ⟨h.os, h.tape, h.output, h.size, fun k hk _ => h.block k hk⟩ (fun j o e => by cases e)).from D
abbrev FJ (bl ba bp : Nat) (L : List Q64) (w0 : World) : Prop := SeqStopsK Fence.wide 3 Tryz.prog 107 (tkF bl ba bp) tkE (Below w0.heap.size) (fun ys => ys = L) (fun pre => pre <+: L) L.length w0
theorem lA {n₀ : Nat} {w : World} (hn : n₀ <= w.heap.size) (W : World) (l : Nat) (o o' : Obj) (hl : w.heap.size <= l) (h : W.heap[l]? = some o) : Below n₀ W (W.putObj l o') :=
 (Below.refl n₀ W).grown (grownBy_putObj' W l o') (by have := (Array.getElem?_eq_some_iff.1 h).1; omega) (fun k e => by cases e; omega)
set_option maxRecDepth 100000 in
set_option maxHeartbeats 4000000 in
theorem Hf (bl ba bp : Nat) (L : List Q64) (w0 w : World) (hL : L.length <= 1000) (hseq : FJ bl ba bp L w0) (hb0 : Below w0.heap.size w0 w) (F : List Q64 -> Int) (hF0 : F [] = 0)
 (hst : ∀ (pre : List Q64) (q : Q64) (W : World), pre.length < L.length -> Calls Tryz.prog 60 #[.int .i64 (F pre), jU q.1] W fun e W' => e = .returned (.int .i64 (F (pre ++ [q]))) /\ Below W.heap.size W W') :
 CallsIn Fence.wide 4 Tryz.prog 59 #[.func (.func 107) #[] (tkF bl ba bp), .int .i64 0, .func (.func 60) #[] #[]] w fun e w' => e = .returned (.int .i64 (F L)) /\ Below w.heap.size w w' := by
 refine callsIn_of_wp_marks Tryz.func59 rfl trivial ?_ rfl;simp only [Tryz.ntmps59, List.size_toArray, List.length_cons, List.length_nil, Nat.reduceAdd, Nat.reduceSub, Array.replicate_succ, Array.replicate_zero, List.push_toArray, List.append_toArray, List.nil_append, List.cons_append]
 gi_wp2
 obtain ⟨B, hB0⟩ : ∃ B, w.heap.size = B := ⟨_, rfl⟩;have bF := (Boxed.new w 132 (.func (.func 60) #[] #[])).alloc (.cells #[.int .i64 0] 2);have bS := Boxed.new (w.alloc (.cells #[.func (.func 60) #[] #[]] 132)) 2 (.int .i64 0);have hBw : Below B w ((w.alloc (.cells #[.func (.func 60) #[] #[]] 132)).alloc (.cells #[.int .i64 0] 2)) := ((Below.refl _ w).alloc (by omega) _).alloc (by simp; omega) _;have hsz : ((w.alloc (.cells #[.func (.func 60) #[] #[]] 132)).alloc (.cells #[.int .i64 0] 2)).heap.size = B + 2 := by simp; omega
 simp only [World.size_alloc, hB0] at bF bS |-
 obtain ⟨W0, hW0⟩ : ∃ W0, (w.alloc (.cells #[.func (.func 60) #[] #[]] 132)).alloc (.cells #[.int .i64 0] 2) = W0 := ⟨_, rfl⟩;rw [hW0] at bF bS hBw hsz |-
 have hz0 : w0.heap.size <= B := by have := hb0.size; omega
 clear hW0
 refine wpIn_rangeFunc_ownH rfl (by decide) (gf := 107) (lb := tkF bl ba bp) rfl trivial (enters_of Tryz.func107 (by kernel_rfl) rfl)
  hseq belowK_t (belowK_b (by omega)) (hb0.trans (hBw.mono hz0)) (fun _ => rfl)
  (fun pre W => (Boxed W (B + 1) 2 (.int .i64 (F pre)) /\ Boxed W B 132 (.func (.func 60) #[] #[])) /\ Below B w W)
  (fun _ _ _ => False)
  (OwnFrom.and (OwnFrom.and (Own.from (boxed_own _ _ _) _) (Own.from (boxed_own _ _ _) _)) (ownFrom_below (by omega) (by omega)))
  (fun _ _ _ _ _ hs _ _ => hs)
  ⟨⟨by rw [hF0]; exact bS, bF⟩, hBw⟩
  (fun x a' W => ∃ Bx, B + 1 < Bx /\ W.heap[Bx]? = some (aL x.1.1 x.1.2) /\ a' = { tmps := #[.func (.func 107) #[] (tkF bl ba bp), .int .i64 0, .func (.func 60) #[] #[], undef, undef, .pointer (some ⟨B, 0, none⟩), .int .i64 0, .pointer (some ⟨B + 1, 0, none⟩), .pointer (some ⟨Bx, 0, none⟩), .int .i64 0, .func (.func 107) #[] (tkF bl ba bp), jU x.1, undef, undef, undef, undef, undef], defers := [] })
  (fun x a' _ X Y row hs hg hr => by obtain ⟨Bx, h1, h2, h3⟩ := hs; exact ⟨Bx, h1, dM h2 hg (fun r e => (hr r e).2), h3⟩)
  ?assign ?body ?done ?stop
 case assign =>
  rintro l pre x W K ⟨⟨bS1, bF1⟩, hB1⟩ hK;have h2 := bS1.lt
  gi_wp2
  exact hK _ _ ((KeepsOthers.alloc _ _).from _) ((Below.refl _ W).alloc (by omega) _) ⟨⟨bS1.alloc _, bF1.alloc _⟩, hB1.alloc (by omega) _⟩ ⟨W.heap.size, bS1.lt, heap_alloc_new W _, rfl⟩
 case body =>
  rintro l pre x a' W hl ⟨r, hr⟩ ⟨⟨bS1, bF1⟩, hB1⟩ ⟨Bx, hBx, bX, rfl⟩ hlt;obtain ⟨⟨x0, x1⟩, -⟩ := two bX;have c1 := bS1.cell;have c2 := bF1.cell;have ST := aA (hst pre x W hlt);have hz := bS1.lt
  gi_wp2_with (refine ⟨trivial, ?_⟩; gi_at_call 60; refine (CallsIn.inRound l (callsIn_wide.2 ST.out)).mono ?_; rintro e W2 ⟨rfl, hb2⟩; have bS2 : Boxed W2 (B + 1) 2 (.int .i64 (F pre)) := (hb2.block _ bS1.lt).trans bS1; have bF2 : Boxed W2 B 132 (.func (.func 60) #[] #[]) := (hb2.block _ bF1.lt).trans bF1; have d1 := bS2.cell; have d2 := bF2.cell; have f1 := bS2.frozen)
  exact ⟨(eC hb2 _).trans ((KeepsOthers.setCell _ _ _).from _), (hb2.mono (by omega)).setCell (p := ⟨B + 1, 0, none⟩) (by simp; omega) _, ⟨bS2.set _, bF2.other (by omega) _⟩, (hB1.trans (hb2.mono (by omega))).setCell (p := ⟨B + 1, 0, none⟩) (by simp) _⟩
 case done =>
  rintro D ys W hD rfl ⟨⟨bS1, bF1⟩, hB1⟩ hK;have c1 := bS1.cell
  gi_wp2
  refine ⟨by simp, .inl ⟨_, _, rfl, run_takeDeferred hK, ?_⟩⟩;exact ⟨_, results_tmp rfl _ _ _, rfl, by rw [hB0]; exact hB1.trans (lA (w := W0) (by omega) W D _ _ hD hK)⟩
 case stop =>
  rintro D c pre W _ _ h _;exact h.elim
set_option maxRecDepth 100000 in
set_option maxHeartbeats 4000000 in
theorem He (bl ba bp : Nat) (L : List Q64) (w0 w : World) (hL : L.length <= 1000) (hseq : FJ bl ba bp L w0) (hb0 : Below w0.heap.size w0 w) (F : List Q64 -> Int) (hF0 : F [] = 0)
 (hst : ∀ (pre : List Q64) (q : Q64) (W : World), pre.length < L.length -> Calls Tryz.prog 61 #[.int .i64 (F pre), jU q.1] W fun e W' => e = .returned (.int .i64 (F (pre ++ [q]))) /\ Below W.heap.size W W') :
 CallsIn Fence.wide 4 Tryz.prog 59 #[.func (.func 107) #[] (tkF bl ba bp), .int .i64 0, .func (.func 61) #[] #[]] w fun e w' => e = .returned (.int .i64 (F L)) /\ Below w.heap.size w w' := by
 refine callsIn_of_wp_marks Tryz.func59 rfl trivial ?_ rfl;simp only [Tryz.ntmps59, List.size_toArray, List.length_cons, List.length_nil, Nat.reduceAdd, Nat.reduceSub, Array.replicate_succ, Array.replicate_zero, List.push_toArray, List.append_toArray, List.nil_append, List.cons_append]
 gi_wp2
 obtain ⟨B, hB0⟩ : ∃ B, w.heap.size = B := ⟨_, rfl⟩;have bF := (Boxed.new w 132 (.func (.func 61) #[] #[])).alloc (.cells #[.int .i64 0] 2);have bS := Boxed.new (w.alloc (.cells #[.func (.func 61) #[] #[]] 132)) 2 (.int .i64 0);have hBw : Below B w ((w.alloc (.cells #[.func (.func 61) #[] #[]] 132)).alloc (.cells #[.int .i64 0] 2)) := ((Below.refl _ w).alloc (by omega) _).alloc (by simp; omega) _;have hsz : ((w.alloc (.cells #[.func (.func 61) #[] #[]] 132)).alloc (.cells #[.int .i64 0] 2)).heap.size = B + 2 := by simp; omega
 simp only [World.size_alloc, hB0] at bF bS |-
 obtain ⟨W0, hW0⟩ : ∃ W0, (w.alloc (.cells #[.func (.func 61) #[] #[]] 132)).alloc (.cells #[.int .i64 0] 2) = W0 := ⟨_, rfl⟩;rw [hW0] at bF bS hBw hsz |-
 have hz0 : w0.heap.size <= B := by have := hb0.size; omega
 clear hW0
 refine wpIn_rangeFunc_ownH rfl (by decide) (gf := 107) (lb := tkF bl ba bp) rfl trivial (enters_of Tryz.func107 (by kernel_rfl) rfl)
  hseq belowK_t (belowK_b (by omega)) (hb0.trans (hBw.mono hz0)) (fun _ => rfl)
  (fun pre W => (Boxed W (B + 1) 2 (.int .i64 (F pre)) /\ Boxed W B 132 (.func (.func 61) #[] #[])) /\ Below B w W)
  (fun _ _ _ => False)
  (OwnFrom.and (OwnFrom.and (Own.from (boxed_own _ _ _) _) (Own.from (boxed_own _ _ _) _)) (ownFrom_below (by omega) (by omega)))
  (fun _ _ _ _ _ hs _ _ => hs)
  ⟨⟨by rw [hF0]; exact bS, bF⟩, hBw⟩
  (fun x a' W => ∃ Bx, B + 1 < Bx /\ W.heap[Bx]? = some (aL x.1.1 x.1.2) /\ a' = { tmps := #[.func (.func 107) #[] (tkF bl ba bp), .int .i64 0, .func (.func 61) #[] #[], undef, undef, .pointer (some ⟨B, 0, none⟩), .int .i64 0, .pointer (some ⟨B + 1, 0, none⟩), .pointer (some ⟨Bx, 0, none⟩), .int .i64 0, .func (.func 107) #[] (tkF bl ba bp), jU x.1, undef, undef, undef, undef, undef], defers := [] })
  (fun x a' _ X Y row hs hg hr => by obtain ⟨Bx, h1, h2, h3⟩ := hs; exact ⟨Bx, h1, dM h2 hg (fun r e => (hr r e).2), h3⟩)
  ?assign ?body ?done ?stop
 case assign =>
  rintro l pre x W K ⟨⟨bS1, bF1⟩, hB1⟩ hK;have h2 := bS1.lt
  gi_wp2
  exact hK _ _ ((KeepsOthers.alloc _ _).from _) ((Below.refl _ W).alloc (by omega) _) ⟨⟨bS1.alloc _, bF1.alloc _⟩, hB1.alloc (by omega) _⟩ ⟨W.heap.size, bS1.lt, heap_alloc_new W _, rfl⟩
 case body =>
  rintro l pre x a' W hl ⟨r, hr⟩ ⟨⟨bS1, bF1⟩, hB1⟩ ⟨Bx, hBx, bX, rfl⟩ hlt;obtain ⟨⟨x0, x1⟩, -⟩ := two bX;have c1 := bS1.cell;have c2 := bF1.cell;have ST := aA (hst pre x W hlt);have hz := bS1.lt
  gi_wp2_with (refine ⟨trivial, ?_⟩; gi_at_call 61; refine (CallsIn.inRound l (callsIn_wide.2 ST.out)).mono ?_; rintro e W2 ⟨rfl, hb2⟩; have bS2 : Boxed W2 (B + 1) 2 (.int .i64 (F pre)) := (hb2.block _ bS1.lt).trans bS1; have bF2 : Boxed W2 B 132 (.func (.func 61) #[] #[]) := (hb2.block _ bF1.lt).trans bF1; have d1 := bS2.cell; have d2 := bF2.cell; have f1 := bS2.frozen)
  exact ⟨(eC hb2 _).trans ((KeepsOthers.setCell _ _ _).from _), (hb2.mono (by omega)).setCell (p := ⟨B + 1, 0, none⟩) (by simp; omega) _, ⟨bS2.set _, bF2.other (by omega) _⟩, (hB1.trans (hb2.mono (by omega))).setCell (p := ⟨B + 1, 0, none⟩) (by simp) _⟩
 case done =>
  rintro D ys W hD rfl ⟨⟨bS1, bF1⟩, hB1⟩ hK;have c1 := bS1.cell
  gi_wp2
  refine ⟨by simp, .inl ⟨_, _, rfl, run_takeDeferred hK, ?_⟩⟩;exact ⟨_, results_tmp rfl _ _ _, rfl, by rw [hB0]; exact hB1.trans (lA (w := W0) (by omega) W D _ _ hD hK)⟩
 case stop =>
  rintro D c pre W _ _ h _;exact h.elim
end
section
open Go.RowKit Go.Shelf
attribute [local go_sem] Oper.semAt_some
theorem zM {w : World} {B : Nat} {e : TypeId} {size : Nat} {v : Value} {n : Nat} {xs : List Value} (h : w.ownsRow B e size v n xs) : ∀ g, v.ownBlock = some g -> B <= g := by
 intro g hg
 rcases h.2 with ⟨rfl, _⟩ | ⟨g', cap, cur, rfl, hb, _⟩
 · cases hg
 · simp only [Value.ownBlock, Option.some.injEq] at hg
   omega
theorem DI {w w' : World} {B : Nat} {e : TypeId} {size : Nat} {v : Value} {n : Nat} {xs : List Value} (h : w.ownsRow B e size v n xs) (hk : aG (fun b => v.ownBlock = some b) w w') (D : Nat) : KeepsFrom D w w' :=
 ⟨hk.size, fun k o _ h0 ho => hk.heap h0 (fun hg => by
  rcases h.2 with ⟨rfl, _⟩ | ⟨g', cap, cur, rfl, hb, hgb, _⟩
  · cases hg
  · simp only [Value.ownBlock, Option.some.injEq] at hg
    subst hg;rw [hgb] at h0;cases h0;cases ho)⟩
abbrev ivK (l : List Int) : List Value := l.map (Value.int .i64)
abbrev pV (most : Nat) (pre : List Q64) : List Int := pre.foldl (fun ks q => fG most ks q.1.1) []
theorem Dt (most : Nat) (pre : List Q64) (q : Q64) : pV most (pre ++ [q]) = fG most (pV most pre) q.1.1 := by simp [pV]
theorem Cp (most : Nat) : ∀ (pre : List Q64) (ks : List Int), bQ lsL ks -> ks.length <= most -> bQ lsL (pre.foldl (fun ks q => fG most ks q.1.1) ks) /\ (pre.foldl (fun ks q => fG most ks q.1.1) ks).length <= most
 | [], _, h, hl => ⟨h, hl⟩
 | _ :: pre, _, h, hl => Cp most pre _ (xF h _) (Ey hl _)
set_option maxRecDepth 100000 in
set_option maxHeartbeats 4000000 in
theorem Hd (bl ba bp ea : Nat) (x : AG) (p : PA) (most : Nat) (L : List Q64) (w0 w : World) (hK : x.k = (most : Int)) (hm : 1 <= most) (hm16 : most <= 1000) (hea : w.heap[ea]? = some (agP x p)) (hseq : FJ bl ba bp L w0) (hb0 : Below w0.heap.size w0 w) :
 CallsIn Fence.wide 4 Tryz.prog 63 #[.func (.func 107) #[] (tkF bl ba bp), .slice none 0 0, .func (.func 64) #[] #[.pointer (some ⟨ea, 0, none⟩)]] w fun e w' =>
  ∃ v, e = .returned v /\ w'.ownsRow w.heap.size 2 1 v (pV most L).length (ivK (pV most L)) /\ Below w.heap.size w w' := by
 refine callsIn_of_wp_marks Tryz.func63 rfl trivial ?_ rfl;simp only [Tryz.ntmps63, List.size_toArray, List.length_cons, List.length_nil, Nat.reduceAdd, Nat.reduceSub, Array.replicate_succ, Array.replicate_zero, List.push_toArray, List.append_toArray, List.nil_append, List.cons_append]
 gi_wp2
 obtain ⟨B, hB0⟩ : ∃ B, w.heap.size = B := ⟨_, rfl⟩;have bF := (Boxed.new w 136 (.func (.func 64) #[] #[.pointer (some ⟨ea, 0, none⟩)])).alloc (.cells #[.slice none 0 0] 51);have bS := Boxed.new (w.alloc (.cells #[.func (.func 64) #[] #[.pointer (some ⟨ea, 0, none⟩)]] 136)) 51 (.slice none 0 0);have hBw : Below B w ((w.alloc (.cells #[.func (.func 64) #[] #[.pointer (some ⟨ea, 0, none⟩)]] 136)).alloc (.cells #[.slice none 0 0] 51)) := ((Below.refl _ w).alloc (by omega) _).alloc (by simp; omega) _;have hsz : ((w.alloc (.cells #[.func (.func 64) #[] #[.pointer (some ⟨ea, 0, none⟩)]] 136)).alloc (.cells #[.slice none 0 0] 51)).heap.size = B + 2 := by simp; omega
 simp only [World.size_alloc, hB0] at bF bS |-
 obtain ⟨W0, hW0⟩ : ∃ W0, (w.alloc (.cells #[.func (.func 64) #[] #[.pointer (some ⟨ea, 0, none⟩)]] 136)).alloc (.cells #[.slice none 0 0] 51) = W0 := ⟨_, rfl⟩;rw [hW0] at bF bS hBw hsz |-
 have hz0 : w0.heap.size <= B := by have := hb0.size; omega
 have hel : ea < B := by have := aC hea; omega
 clear hW0
 refine wpIn_rangeFunc_ownH rfl (by decide) (gf := 107) (lb := tkF bl ba bp) rfl trivial (enters_of Tryz.func107 (by kernel_rfl) rfl)
  hseq belowK_t (belowK_b (by omega)) (hb0.trans (hBw.mono hz0)) (fun _ => rfl)
  (fun pre W => ((∃ v, Boxed W (B + 1) 51 v /\ W.ownsRow (B + 2) 2 1 v (pV most pre).length (ivK (pV most pre)) /\ True) /\ Boxed W B 136 (.func (.func 64) #[] #[.pointer (some ⟨ea, 0, none⟩)])) /\ Below B w W)
  (fun _ _ _ => False)
  (OwnFrom.and (OwnFrom.and (Own.from (holdsRow_own (B + 2) (B + 1) _ _ 1 (fun pre => (pV most pre).length) (fun pre => ivK (pV most pre)) (fun _ _ => True)) _) (Own.from (boxed_own _ _ _) _)) (ownFrom_below (by omega) (by omega)))
  (fun _ _ _ _ _ hs _ _ => hs)
  ⟨⟨⟨_, bS, World.ownsRow_nil _ _ _ _, trivial⟩, bF⟩, hBw⟩
  (fun x a' W => ∃ Bx, B + 1 < Bx /\ W.heap[Bx]? = some (aL x.1.1 x.1.2) /\ a' = { tmps := #[.func (.func 107) #[] (tkF bl ba bp), .slice none 0 0, .func (.func 64) #[] #[.pointer (some ⟨ea, 0, none⟩)], undef, undef, .pointer (some ⟨B, 0, none⟩), .slice none 0 0, .pointer (some ⟨B + 1, 0, none⟩), .pointer (some ⟨Bx, 0, none⟩), .slice none 0 0, .func (.func 107) #[] (tkF bl ba bp), jU x.1, undef, undef, undef, undef, undef], defers := [] })
  (fun x a' _ X Y row hs hg hr => by obtain ⟨Bx, h1, h2, h3⟩ := hs; exact ⟨Bx, h1, dM h2 hg (fun r e => (hr r e).2), h3⟩)
  ?assign ?body ?done ?stop
 case assign =>
  rintro l pre x W K ⟨⟨⟨v, bS1, rS1, -⟩, bF1⟩, hB1⟩ hK;have h2 := bS1.lt
  gi_wp2
  exact hK _ _ ((KeepsOthers.alloc _ _).from _) ((Below.refl _ W).alloc (by omega) _) ⟨⟨⟨v, bS1.alloc _, rS1.alloc _, trivial⟩, bF1.alloc _⟩, hB1.alloc (by omega) _⟩ ⟨W.heap.size, bS1.lt, heap_alloc_new W _, rfl⟩
 case body =>
  rintro l pre q a' W hl ⟨r, hr⟩ ⟨⟨⟨v, bS1, rS1, -⟩, bF1⟩, hB1⟩ ⟨Bx, hBx, bX, rfl⟩ hlt;obtain ⟨⟨x0, x1⟩, -⟩ := two bX;have c1 := bS1.cell;have c2 := bF1.cell;have hz := bS1.lt;have hlx := aC bX;obtain ⟨k1, k2⟩ := Cp most pre [] List.Pairwise.nil (Nat.zero_le _);have ST := aA (DA (B + 2) x p ea v (pV most pre) q.1.1 q.1.2 most W hK hm hm16 k2 k1 (by omega) rS1 ((hB1.block ea (by omega)).trans hea));have hrb := zM rS1;have hrk := fun W2 hk => DI (w' := W2) rS1 hk
  obtain ⟨av, cv, rfl⟩ := bW rS1
  gi_wp2_with (refine ⟨trivial, ?_⟩; gi_at_call 64; refine (CallsIn.inRound l (callsIn_wide.2 ST.out)).mono ?_; rintro e W2 ⟨v', rfl, rS2, hk2⟩; obtain ⟨av2, cv2, rfl⟩ := bW rS2; have bS2 := (show W2.heap[B + 1]? = _ from hk2.heap bS1 (fun h => by have := hrb _ h; omega)); have bF2 : Boxed W2 B 136 (.func (.func 64) #[] #[.pointer (some ⟨ea, 0, none⟩)]) := hk2.heap bF1 (fun h => by have := hrb _ h; omega); have d1 := Boxed.cell bS2; have d2 := bF2.cell; have f1 := Boxed.frozen bS2)
  have hb2 : Below (B + 2) W W2 := hk2.below (fun i hi => hrb i hi) (by omega);have rb2 := zM rS2;refine ⟨(hrk _ hk2 _).trans ((KeepsOthers.setCell _ _ _).from _), (hb2.mono (by omega)).setCell (p := ⟨B + 1, 0, none⟩) (by simp; omega) _, ⟨⟨_, Boxed.set _ bS2, ?_, trivial⟩, bF2.other (by omega) _⟩, (hB1.trans (hb2.mono (by omega))).setCell (p := ⟨B + 1, 0, none⟩) (by simp) _⟩;rw [Dt];exact rS2.kept (grownBy_setCell' W2 (B + 1) _) (.inr fun e => by have := rb2 _ e; omega)
 case done =>
  rintro D ys W hD rfl ⟨⟨⟨v, bS1, rS1, -⟩, bF1⟩, hB1⟩ hK;have c1 := bS1.cell
  gi_wp2
  refine ⟨by simp, .inl ⟨_, _, rfl, run_takeDeferred hK, ?_⟩⟩;exact ⟨_, results_tmp rfl _ _ _, _, rfl, dK (ownsRow_putObj rS1 _ hK rfl) (by omega), by rw [hB0]; exact hB1.trans (lA (w := W0) (by omega) W D _ _ hD hK)⟩
 case stop =>
  rintro D c pre W _ _ h _;exact h.elim
end
end Go.Proofs.YtapcjnoaofmmiaaGreatDoor
