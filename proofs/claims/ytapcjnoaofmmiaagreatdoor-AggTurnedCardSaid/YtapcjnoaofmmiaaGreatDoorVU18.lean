/-
 No statement: what AggTurnedCard needs, of the texts OW3, HEval.
-/
import Derived.Test.YtapcjnoaofmmiaaGreatDoorVU17
namespace Go.Proofs.YtapcjnoaofmmiaaGreatDoor.Wr
section
section
open Go.RowKit
set_option maxHeartbeats 1000000 in
theorem GM (k n : Int) (s : ByteArray) (a : Option Addr) (len cap : Nat) (hs : s.size <= maxLen) (hl : len <= maxLen) (w : World) :
 Calls Tryz.prog 122 #[.agg #[.int .i64 k, .int .i64 n, .string s, .slice a len cap]] w fun e w' => e = .returned (.bool (decide (s.size <= 200) && decide (len <= 40))) /\ Below w.heap.size w w' := by
 unfold maxLen at hs hl
 by_cases h1 : s.size <= 200
 · by_cases h2 : len <= 40
   · go_enter Tryz.func122, Tryz.ntmps122
     go_wp2_with fail
     go_ret;exact ⟨cT (a := decide ((len : Int) <= 40)) (by rw [decide_eq_true h1, Bool.true_and, decide_eq_true h2]; exact decide_eq_true (by omega)), (Below.refl _ _).alloc (Nat.le_refl _) _⟩
   · go_enter Tryz.func122, Tryz.ntmps122
     go_wp2_with fail
     go_ret;exact ⟨cT (a := decide ((len : Int) <= 40)) (by rw [decide_eq_true h1, Bool.true_and, decide_eq_false h2]; exact decide_eq_false (by omega)), (Below.refl _ _).alloc (Nat.le_refl _) _⟩
 · go_enter Tryz.func122, Tryz.ntmps122
   go_wp2_with fail
   go_ret;exact ⟨cT (a := false) (by first | rfl | (rw [decide_eq_false h1]; rfl)), (Below.refl _ _).alloc (Nat.le_refl _) _⟩
def Bs (x : AD) : Bool := decide (x.m.size <= 100) && (decide (x.s.size <= 200) && decide (x.len <= 40))
def l8 (l : List AD) : Bool := l.all Bs
def sY (n : Nat) (A : Nat -> AD) : Bool := decide (n <= 40) && l8 (fromA A n 0)
def SizA (x : AD) : Prop := x.m.size <= maxLen /\ x.s.size <= maxLen /\ x.len <= maxLen
set_option maxRecDepth 100000 in
set_option maxHeartbeats 4000000 in
theorem xE (a : Option Addr) (n c : Nat) (A : Nat -> AD) (hS : ∀ j, j < n -> SizA (A j)) (w : World) (h : ReadsA w a n A) :
 Calls Tryz.prog 78 #[.slice a n c] w fun e w' => e = .returned (.bool (sY n A)) /\ Below w.heap.size w w' := by
 have hm := h.1;unfold maxLen at hm;have R := aA h;have HS := aA hS;clear h hS
 by_cases h40 : 40 < n
 · have E := aA (p := sY n A = false) (by unfold sY; rw [decide_eq_false (by omega)]; rfl)
   go_enter Tryz.func78, Tryz.ntmps78
   go_wp2_with fail
   go_ret;exact ⟨cT E.out.symm, Below.refl _ _⟩
 · have E := aA (p := sY n A = l8 (fromA A n 0)) (by unfold sY; rw [decide_eq_true (by omega)]; rfl)
   go_enter Tryz.func78, Tryz.ntmps78
   go_wp2_with fail
   go_loopw [3] (fun i wr => ∃ k : Nat, i = .int .i64 k /\ k <= n /\ Hid (l8 (fromA A n 0) = l8 (fromA A n k)) /\ Hid (Below w.heap.size w wr)) (fun i _ => n - (intOf i).toNat)
   case atStart => exact ⟨0, rfl, Nat.zero_le _, aA rfl, aA (Below.refl _ _)⟩
   case round =>
    obtain ⟨k, rfl, hk, hE, hB⟩ := hrel
    by_cases hlt : k < n
    · obtain ⟨b, off, rfl, hc⟩ := R.out.2.resolve_left (by omega)
      obtain ⟨y, e, g0, -⟩ := hc k hlt;have g := g0.kept hB.out;have hE2 := hE.out;rw [lH A hlt] at hE2;have hsz := HS.out k hlt;obtain ⟨x, hx⟩ : ∃ x, A k = x := ⟨_, rfl⟩;rw [hx] at g hE2 hsz;have hE3 : l8 (fromA A n 0) = (Bs x && l8 (fromA A n (k + 1))) := hE2;obtain ⟨hs1, hs2, hs3⟩ := hsz;have F2 := aA (fun w => GM x.k x.n x.s y x.len e hs2 hs3 w);obtain ⟨q, hq⟩ : ∃ q, (decide (x.s.size <= 200) && decide (x.len <= 40)) = q := ⟨_, rfl⟩;rw [hq] at F2;have hf : Bs x = (decide (x.m.size <= 100) && q) := by unfold Bs; rw [hq]
      rw [hf] at hE3;have hz := hB.out.size;unfold maxLen at hs1;obtain ⟨p0, p1, p2, p3, p4⟩ := g;clear hc hE2 hE hx hf hq g0 hs2 hs3
      by_cases h1 : 100 < x.m.size
      · have HE := aA (p := l8 (fromA A n 0) = false) (by rw [hE3, decide_eq_false (by omega)]; rfl)
        clear hE3
        go_wp2_with fail
        go_ret;exact ⟨cT (by rw [E.out, HE.out]), hB.out⟩
      · have HE := aA (p := l8 (fromA A n 0) = (q && l8 (fromA A n (k + 1)))) (by rw [hE3, decide_eq_true (by omega)]; rfl)
        clear hE3
        go_wp2_with fail
        refine (F2.out _).mono ?_;rintro e w2 ⟨rfl, hb⟩;have B2 := aA hb;clear hb p0 p1 p2 p3 p4;cases q with
        | true =>
          go_wp2_with fail
          go_roundw
          case rel => exact ⟨k + 1, by go_num, by omega, aA (by rw [HE.out]; rfl), aA (hB.out.trans (B2.out.mono hz))⟩
          case measure => simp [intOf]; omega
        | false =>
          go_wp2_with fail
          go_ret;exact ⟨cT (by rw [E.out, HE.out]; rfl), hB.out.trans (B2.out.mono hz)⟩
    · go_wp2_with fail
      go_ret;exact ⟨cT (by rw [E.out, hE.out, pW A (by omega)]; rfl), hB.out⟩
end
section
open Go.RowKit
def nP (x : AD) (y : Option Addr) (c : Nat) : List Value := [.string x.m, .int .i64 x.k, .int .i64 x.n, .string x.s, .slice y x.len c]
def gS (A : Nat -> AD) (Y : Nat -> Option Addr) (C : Nat -> Nat) : Nat -> List Value
 | 0 => []
 | k + 1 => gS A Y C k ++ nP (A k) (Y k) (C k)
theorem tH (A : Nat -> AD) (Y : Nat -> Option Addr) (C : Nat -> Nat) : ∀ k, (gS A Y C k).length = k * 5
 | 0 => rfl
 | k + 1 => by rw [gS, List.length_append, tH A Y C k]; show k * 5 + 5 = _; omega
theorem vS (A : Nat -> AD) (Y : Nat -> Option Addr) (C : Nat -> Nat) {i : Nat} (hi : i < 5) : ∀ {k j : Nat}, j < k -> (gS A Y C k)[j * 5 + i]? = (nP (A j) (Y j) (C j))[i]?
 | 0, j, h => by omega
 | k + 1, j, h => by
   have hl := tH A Y C k;rw [gS]
   by_cases hj : j < k
   · rw [List.getElem?_append_left (by omega)]
     exact vS A Y C hi hj
   · obtain rfl : j = k := by omega
     rw [List.getElem?_append_right (by omega), hl, show j * 5 + i - j * 5 = i by omega]
theorem EA (x : AD) (y : Option Addr) (c : Nat) : ∀ u ∈ nP x y c, u.oneCell' = true := by
 intro u hu;simp only [nP, List.mem_cons, List.not_mem_nil, or_false] at hu
 rcases hu with rfl | rfl | rfl | rfl | rfl <;> rfl
theorem AK {w : World} {base : Nat} {e : TypeId} {v : Value} {n : Nat} {A : Nat -> AD} {Y : Nat -> Option Addr} {C : Nat -> Nat} (h : w.ownsRow base e 5 v n (gS A Y C n)) (hr : ∀ j, j < n -> Reads w (Y j) (A j).len (A j).z) :
 ∃ a c, v = .slice a n c /\ ReadsA w a n A := by
 rcases h.2 with ⟨rfl, rfl⟩ | ⟨g, cap, cur, rfl, _, hg, hnc, hcm, _, ht⟩
 · exact ⟨none, 0, rfl, Nat.zero_le _, .inl rfl⟩
 · refine ⟨_, _, rfl, Nat.le_trans hnc hcm, .inr ⟨g, 0, rfl, fun j hj => ⟨Y j, C j, ?_, hr j hj⟩⟩⟩
   have cell : ∀ i u, i < 5 -> (nP (A j) (Y j) (C j))[i]? = some u -> w.cell? ⟨g, 0 + j * 5 + i, none⟩ = some u := fun i u hi hu => by
    rw [Nat.zero_add];obtain ⟨g', hg', hc⟩ := kZ h (by rw [vS A Y C hi hj]; exact hu);simp only [Addr.mk.injEq] at hg';obtain ⟨rfl, _⟩ := hg';exact hc
   exact ⟨cell 0 _ (by omega) rfl, cell 1 _ (by omega) rfl, cell 2 _ (by omega) rfl, cell 3 _ (by omega) rfl, cell 4 _ (by omega) rfl⟩
def qG (w0 w : World) (n : Nat) (A : Nat -> AD) (e : Ending) (w' : World) : Prop := (∃ a c, e = .returned (.slice a n c) /\ ∀ w3, aF (fun k => w0.heap.size <= k /\ k < w.heap.size) w' w3 -> ReadsA w3 a n A) /\ Below w.heap.size w w'
theorem F5 (w : World) (x : AD) (y : Option Addr) (c : Nat) : ∀ j u, (nP x y c)[j]? = some u -> (w.alloc (.cells #[.string x.m, .int .i64 x.k, .int .i64 x.n, .string x.s, .slice y x.len c] 192)).cell? ((⟨w.heap.size, 0, none⟩ : Addr).add j) = some u := fun j u hj => by
 rw [Addr.add_lit, Nat.zero_add, cell_of_row _ _ _ _ _ (0, 0) (heap_alloc_new w _)];simpa [nP] using hj
theorem DH {w : World} {base : Nat} {e : TypeId} {size : Nat} {v : Value} {n : Nat} {xs : List Value} (h : w.ownsRow base e size v n xs) : ∃ a l c, v = .slice a l c := by
 rcases h.2 with ⟨h, _⟩ | ⟨g, cap, _, h, _⟩
 · exact ⟨_, _, _, h⟩
 · exact ⟨_, _, _, h⟩
theorem JE : (Tryz.prog.info? 192).map (fun i => (i.zero, i.size, i.bytes)) = some (some (.agg #[.string ⟨#[]⟩, .int .i64 0, .int .i64 0, .string ⟨#[]⟩, .slice none 0 0]), 5, 72) := by kernel_rfl
set_option maxRecDepth 100000 in
set_option maxHeartbeats 4000000 in
theorem qM (a : Option Addr) (n c : Nat) (A : Nat -> AD) (hn : n <= 1000) (w0 w : World) (h : ReadsA w0 a n A) (h0w : Below w0.heap.size w0 w) :
 Calls Tryz.prog 73 #[.slice a n c] w (qG w0 w n A) := by
 obtain ⟨i0, hi, hz0, hz1, hz2⟩ := info_parts JE;have und : Tryz.prog.underlying 142 = some (.slice 192) := Tryz.underlying142;have hm := h.1;unfold maxLen at hm
 by_cases h0 : n = 0
 · subst h0
   have P := aA (show qG w0 w 0 A (.returned (.slice none 0 0)) w from ⟨⟨none, 0, rfl, fun _ _ => ⟨Nat.zero_le _, .inl rfl⟩⟩, Below.refl _ _⟩);clear h h0w
   go_enter Tryz.func73, Tryz.ntmps73
   go_wp2_with fail
   go_loop [3, 4] (fun v i => v = .slice none 0 0 /\ i = .int .i64 0) (fun _ _ => 0)
   case atStart => exact ⟨rfl, rfl⟩
   case round =>
    obtain ⟨rfl, rfl⟩ := hrel
    go_wp2_with fail
    go_ret;exact P.out
 obtain ⟨-, h1⟩ := h;obtain ⟨b, off, rfl, hc⟩ := h1.resolve_left h0;obtain ⟨Y, hY⟩ := Go.Deep.choose_lt hc;obtain ⟨C, hC⟩ := Go.Deep.choose_lt hY;have HC := aA hC;have H0 := aA h0w;have hz0w := h0w.size;clear hc hY hC h0 h0w
 go_enter Tryz.func73, Tryz.ntmps73
 go_wp2_with fail
 go_loopw [3, 4] (fun v i wr => ∃ (k : Nat) (va : Option Addr) (vl vc : Nat), v = .slice va vl vc /\ i = .int .i64 k /\ k <= n /\ Hid (wr.ownsRow w.heap.size 192 5 (.slice va vl vc) k (gS A Y C k)) /\ Hid (Below w.heap.size w wr)) (fun _ i _ => n - (intOf i).toNat)
 case atStart => exact ⟨0, none, 0, 0, rfl, rfl, Nat.zero_le _, aA (World.ownsRow_nil _ _ _ _), aA (Below.refl _ _)⟩
 case round =>
  obtain ⟨k, va, vl, vc, rfl, rfl, hk, hO, hB⟩ := hrel
  by_cases hlt : k < n
  · obtain ⟨g0, r0⟩ := HC.out k hlt
    obtain ⟨x, hx⟩ : ∃ x, A k = x := ⟨_, rfl⟩;obtain ⟨y, hy⟩ : ∃ y, Y k = y := ⟨_, rfl⟩;obtain ⟨ce, he⟩ : ∃ e, C k = e := ⟨_, rfl⟩;have hnx : gS A Y C (k + 1) = gS A Y C k ++ nP x y ce := by rw [gS, hx, hy, he]
    rw [hx, hy, he] at g0;have NX := aA hnx;have G := aA (p := ∀ w', Below w.heap.size w w' -> gU w' b (off + k * 5) x y ce) (fun w' hb => g0.kept (H0.out.trans (hb.mono hz0w)));have hz := hB.out.size;have hdr : Below wr.heap.size wr wr.drew := ⟨rfl, rfl, rfl, Nat.le_refl _, fun _ _ => rfl⟩;have HDR := aA hdr;have NEW := aA (fun w => F5 w x y ce);have OF := aA (fun w => JD x.k x.n x.s y x.len ce w);unfold val at OF;obtain ⟨p0, p1, p2, p3, p4⟩ := G.out _ hB.out;clear g0 r0 hx hy he hnx hdr
    go_wp2_with fail
    go_region_held3 (fun w' => w'.cell? ⟨b, off + k * 5, none⟩ = some (.string x.m) /\ w'.cell? ⟨b, off + k * 5 + 1, none⟩ = some (.int .i64 x.k) /\ w'.cell? ⟨b, off + k * 5 + 2, none⟩ = some (.int .i64 x.n) /\ w'.cell? ⟨b, off + k * 5 + 3, none⟩ = some (.string x.s) /\ w'.cell? ⟨b, off + k * 5 + 4, none⟩ = some (.slice y x.len ce)) (first | assumption | (refine ⟨?_, ?_, ?_, ?_, ?_⟩ <;> (first | assumption | (go_keep; done)))) (first
     | (go_at_call 24
        with_reducible refine (OF.out _).mono ?_
        rintro e w2 ⟨rfl, hb⟩;have B2 := aA (hB.out.trans ((HDR.out.trans hb).mono hz));have O2 := aA (bH hO.out (HDR.out.trans hb));have cc := G.out _ B2.out;clear hb)
     | (refine qV rfl (.tmp 11) (.tmp 24) 142 rfl (base := w.heap.size) und hi hz0 hz1 hz2 rfl (by decide) (.slice va vl vc) k (gS A Y C k) (nP x y ce) ⟨w2.heap.size, 0, none⟩ 1 (by first | (simp [Act.eval]; done) | fail) (by first | (simp [Act.eval]; done) | fail) (O2.out.alloc _) rfl (NEW.out w2) (EA x y ce) (by unfold maxLen; omega) (by omega) (by have := B2.out.size; simp; omega) ?_
        intro v3 w3 ho hg;have O3 := aA ho;have B3 := aA ((B2.out.alloc B2.out.size (.cells #[.string x.m, .int .i64 x.k, .int .i64 x.n, .string x.s, .slice y x.len ce] 192)).grown hg (by have := B2.out.size; simp; omega) (fun q hq => (O2.out.lt q hq).1));have cc := G.out _ B3.out;clear ho hg)
     | fail)
    obtain ⟨va', vl', vc', rfl⟩ := DH O3.out;have O4 := aA (p := w3.ownsRow w.heap.size 192 5 (.slice va' vl' vc') (k + 1) (gS A Y C (k + 1))) (by rw [NX.out]; exact O3.out);clear O3 O2 B2 p0 p1 p2 p3 p4
    go_wp2_with fail
    go_roundw
    case rel => exact ⟨k + 1, va', vl', vc', rfl, by go_num, by omega, O4, B3⟩
    case measure => simp [intOf]; omega
  · obtain rfl : k = n := by omega
    have hl : vl = k := by
     rcases hO.out.2 with ⟨h, h'⟩ | ⟨g, cap, _, h, _⟩
     · simp only [Value.slice.injEq] at h; omega
     · simp only [Value.slice.injEq] at h; omega
    subst hl
    have P := aA (show qG w0 w vl A (.returned (.slice va vl vc)) wr from ⟨⟨_, _, rfl, fun w3 k3 => by
     have b3 : Below w0.heap.size w0 w3 := (H0.out.trans (hB.out.mono hz0w)).trans (k3.below (fun k h => h.1) (by have := hB.out.size; omega));obtain ⟨a', c', hv, hr⟩ := AK (k3.owns hO.out (fun q hq h => by have := (hO.out.lt q hq).1; omega)) (fun j hj => (HC.out j hj).2.kept b3);simp only [Value.slice.injEq] at hv;obtain ⟨rfl, _, rfl⟩ := hv;exact hr⟩, hB.out⟩)
    go_wp2_with fail
    go_ret;exact P.out
end
section
open Go.RowKit
def nmD (D : List AD) : List ByteArray := D.map (·.m)
end
section
open Go.RowKit
theorem Kp : ∀ x y : List UInt8, decide (Lib.compareBytes x y < 0) = Op.bytesLess x y
 | [], [] => rfl
 | [], _ :: _ => rfl
 | _ :: _, [] => rfl
 | a :: r, b :: t => by
   have ih := Kp r t;unfold Lib.compareBytes Op.bytesLess
   by_cases h : a < b
   · simp [h]
   · by_cases h' : b < a
     · have : (a == b) = false := by rw [beq_eq_false_iff_ne]; rintro rfl; exact h h'
       simp [h, h', this]
     · have : a = b := UInt8.le_antisymm (UInt8.not_lt.1 h') (UInt8.not_lt.1 h)
       subst this;simp [h, ih]
theorem Kq : ∀ x y : List UInt8, decide (Lib.compareBytes x y = 0) = decide (x = y)
 | [], [] => rfl
 | [], _ :: _ => rfl
 | _ :: _, [] => rfl
 | a :: r, b :: t => by
   have ih := Kq r t;unfold Lib.compareBytes
   by_cases h : a < b
   · have : a ≠ b := by rintro rfl; exact absurd h (UInt8.lt_irrefl a)
     simp [h, this]
   · by_cases h' : b < a
     · have : a ≠ b := by rintro rfl; exact h h'
       simp [h, h', this]
     · have : a = b := UInt8.le_antisymm (UInt8.not_lt.1 h') (UInt8.not_lt.1 h)
       subst this;simpa [h] using ih
set_option maxHeartbeats 1000000 in
theorem lN (x : AD) (y : Option Addr) (c : Nat) (s : ByteArray) (w : World) :
 Calls Tryz.prog 234 #[.agg #[.string x.m, .int .i64 x.k, .int .i64 x.n, .string x.s, .slice y x.len c], .string s] w fun e w' => e = .returned (.int .i64 (Lib.compareBytes x.m.data.toList s.data.toList)) /\ Below w.heap.size w w' := by
 have bl : ∀ o, Below w.heap.size w (w.alloc o) := fun o => (Below.refl _ _).alloc (Nat.le_refl _) _
 have BL := aA bl;clear bl
 go_enter Tryz.func234, Tryz.ntmps234
 go_wp2_with fail
 refine (Tryz.strings_Compare _ _ _).mono ?_;rintro e w' ⟨rfl, rfl⟩;have P := aA (BL.out (.cells #[.string x.m, .int .i64 x.k, .int .i64 x.n, .string x.s, .slice y x.len c] 67))
 go_wp2_with fail
 go_ret;exact ⟨rfl, P.out⟩
theorem rising_nm {A : Nat -> AD} {n : Nat} (hR : RiseA A n) : bG lsS (nmD (twsA A n)) := by
 have : nmD (twsA A n) = (List.range n).map (fun j => (A j).m) := by simp [nmD, twsA, twA]
 rw [this];unfold bG;rw [List.pairwise_map];exact List.Pairwise.imp_of_mem (fun {i j} hi hj h => hR i j h (List.mem_range.1 hj)) List.pairwise_lt_range
theorem nm_at (A : Nat -> AD) {n t : Nat} (ht : t < n) : (nmD (twsA A n))[t]? = some (A t).m := by
 have : nmD (twsA A n) = (List.range n).map (fun j => (A j).m) := by simp [nmD, twsA, twA]
 rw [this, List.getElem?_map, List.getElem?_range ht]; rfl
set_option maxRecDepth 100000 in
set_option maxHeartbeats 4000000 in
theorem wF (a : Option Addr) (c : Nat) (f : Value) (x : ByteArray) (w : World) :
 Calls Tryz.prog 233 #[.slice a 0 c, .string x, f] w fun e w' => e = .returned (.tuple #[.int .i64 (0 : Nat), .bool false]) /\ w' = w := by
 go_enter Tryz.func233, Tryz.ntmps233
 go_wp2
 go_loop [9, 10] (fun s7 s8 => s7 = .int .i64 0 /\ s8 = .int .i64 0) (fun _ _ => 0)
 case atStart => exact ⟨rfl, rfl⟩
 case round =>
  obtain ⟨rfl, rfl⟩ := hrel
  go_wp2
  go_ret2;exact ⟨rfl, rfl⟩
set_option maxRecDepth 100000 in
set_option maxHeartbeats 4000000 in
theorem wE (b off : Nat) (n c : Nat) (A : Nat -> AD) (x : ByteArray) (hn : n <= 1000) (hR : RiseA A n) (w : World) (h : ∀ j, j < n -> ∃ y c, gU w b (off + j * 5) (A j) y c) :
 Calls Tryz.prog 233 #[.slice (some ⟨b, off, none⟩) n c, .string x, .func (.func 234) #[] #[]] w fun e w' =>
  e = .returned (.tuple #[.int .i64 (pos lsS (nmD (twsA A n)) x : Nat), .bool (has (nmD (twsA A n)) x)]) /\ Below w.heap.size w w' := by
 have hr := rising_nm hR;have hl : (nmD (twsA A n)).length = n := by simp [nmD, twsA]
 have hat : ∀ t, t < n -> (nmD (twsA A n))[t]? = some (A t).m := fun t ht => nm_at A ht
 generalize nmD (twsA A n) = ks at hr hl hat;have hS := rU eQ hr x;rw [hl] at hS;obtain ⟨I, hI⟩ : ∃ I, pos lsS ks x = I := ⟨_, rfl⟩;obtain ⟨B, hB⟩ : ∃ B, B = has ks x := ⟨_, rfl⟩;have hIn : I <= n := by rw [<- hI, <- hl]; exact sG _ _
 rw [hI] at hS;rw [hI, <- hB];have HE := aA (p := I < n -> decide ((A I).m = x) = B) (fun hy => by rw [hB, vG eQ hr hI (hat I hy)]);have HN := aA (p := n <= I -> false = B) (fun h => by rw [hB]; exact (sU eQ hr hI (by omega)).symm);have HG := aA (p := ∀ t, t < n -> ks.getD t x = (A t).m) (fun t ht => by rw [List.getD_eq_getElem?_getD, hat t ht]; rfl);have HS := aA hS;have HC := aA h;clear hS hI hB hr hl hat h hR
 go_enter Tryz.func233, Tryz.ntmps233
 go_wp2_with fail
 go_loopg [9, 10] n (fun g s7 s8 wr => ∃ lo hi : Nat, s7 = .int .i64 lo /\ s8 = .int .i64 hi /\ lo <= hi /\ hi <= n /\ hi - lo <= g /\ Hid (Below w.heap.size w wr) /\ Hid (Lib.bsGo (fun t => lsS (ks.getD t x) x) g lo hi = I))
 case atStart => exact ⟨0, n, rfl, rfl, Nat.zero_le _, Nat.le_refl _, by omega, aA (Below.refl _ _), HS⟩
 case round =>
  obtain ⟨lo, hi, rfl, rfl, hlh, hin, hg, hBl, hb⟩ := hrel
  by_cases hlt : lo < hi
  · obtain ⟨y, cy, h50⟩ := HC.out ((lo + hi) / 2) (by omega)
    have h5 := h50.kept hBl.out;obtain ⟨g', rfl⟩ : ∃ g', gk = g' + 1 := ⟨gk - 1, by omega⟩;have hb1 := hb.out;have hgt := HG.out ((lo + hi) / 2) (by omega);clear hb h50;simp only [Lib.bsGo, hlt, if_true] at hb1;obtain ⟨z, hz⟩ : ∃ z, A ((lo + hi) / 2) = z := ⟨_, rfl⟩;rw [hz] at h5 hgt;simp only [hgt] at hb1;have hcb := Kp z.m.data.toList x.data.toList;rw [<- Lib.toList_data, <- Lib.toList_data, show Op.bytesLess z.m.toList x.toList = lsS z.m x from rfl, Lib.toList_data, Lib.toList_data] at hcb;have CN := aA (fun w' => lN z y cy x w');obtain ⟨d0, d1, d2, d3, d4⟩ := h5;have hsz := hBl.out.size;clear hz hgt;cases hyx : lsS z.m x <;> simp only [hyx, if_true, Bool.false_eq_true, if_false] at hb1 hcb
    · have HB := aA hb1
      clear hb1 hyx
      go_wp2_with fail
      refine (CN.out _).mono ?_;rintro e w2 ⟨rfl, hb2⟩;have B2 := aA (hBl.out.trans (hb2.mono hsz));clear hb2
      go_wp2_with fail
      go_roundg ((lo + hi) / 2 - lo)
      case measure => omega
      case rel => exact ⟨lo, (lo + hi) / 2, rfl, by rw [show ((lo : Int) + (hi : Int)) / 2 = (((lo + hi) / 2 : Nat) : Int) by omega], by omega, by omega, Nat.le_refl _, B2, aA (by rw [<- HB.out]; exact Lib.bsGo_fuel _ _ _ _ _ (Nat.le_refl _) (by omega))⟩
    · have HB := aA hb1
      clear hb1 hyx
      go_wp2_with fail
      refine (CN.out _).mono ?_;rintro e w2 ⟨rfl, hb2⟩;have B2 := aA (hBl.out.trans (hb2.mono hsz));clear hb2
      go_wp2_with fail
      go_roundg (hi - ((lo + hi) / 2 + 1))
      case measure => omega
      case rel => exact ⟨(lo + hi) / 2 + 1, hi, by rw [show ((lo : Int) + (hi : Int)) / 2 + 1 = (((lo + hi) / 2 + 1 : Nat) : Int) by omega], rfl, by omega, hin, Nat.le_refl _, B2, aA (by rw [<- HB.out]; exact Lib.bsGo_fuel _ _ _ _ _ (Nat.le_refl _) (by omega))⟩
  · obtain rfl : hi = lo := by omega
    obtain rfl : hi = I := by
     rw [<- hb.out];cases gk <;> simp [Lib.bsGo]
    clear hb HS
    by_cases hn : hi < n
    · obtain ⟨y, cy, h50⟩ := HC.out hi hn
      have h5 := h50.kept hBl.out;have hBx := HE.out hn;obtain ⟨z, hz⟩ : ∃ z, A hi = z := ⟨_, rfl⟩;rw [hz] at h5 hBx;have hcb := Kq z.m.data.toList x.data.toList
      rw [show decide (z.m.data.toList = x.data.toList) = decide (z.m = x) from by
       by_cases hq : z.m = x
       · simp [hq]
       · rw [decide_eq_false hq]; exact decide_eq_false (fun h => hq (pH (by rw [Lib.toList_data, Lib.toList_data]; exact h))), hBx, show decide (Lib.compareBytes z.m.data.toList x.data.toList = 0) = (Lib.compareBytes z.m.data.toList x.data.toList == 0) from rfl] at hcb
      have CN := aA (fun w' => lN z y cy x w');obtain ⟨d0, d1, d2, d3, d4⟩ := h5;have hsz := hBl.out.size;clear HE HN HC HG hz hBx h50
      go_wp2_with fail
      refine (CN.out _).mono ?_;rintro e w2 ⟨rfl, hb2⟩;have B2 := aA (hBl.out.trans (hb2.mono hsz));clear hb2
      go_wp2_with fail
      go_ret2;exact ⟨rfl, B2.out⟩
    · have HB := HN.out (by omega)
      subst HB;clear HE HN HC HG
      go_wp2_with fail
      go_ret2;exact ⟨rfl, hBl.out⟩
theorem yU (a : Option Addr) (n c : Nat) (A : Nat -> AD) (x : ByteArray) (hn : n <= 1000) (hR : RiseA A n) (w : World) (h : ReadsA w a n A) :
 Calls Tryz.prog 233 #[.slice a n c, .string x, .func (.func 234) #[] #[]] w fun e w' =>
  e = .returned (.tuple #[.int .i64 (pos lsS (nmD (twsA A n)) x : Nat), .bool (has (nmD (twsA A n)) x)]) /\ Below w.heap.size w w' := by
 rcases h.2 with rfl | ⟨b, off, rfl, hc⟩
 · exact (wF a c _ x w).mono fun e w' ⟨he, hw⟩ => ⟨he, by rw [hw]; exact Below.refl _ _⟩
 · exact wE b off n c A x hn hR w (fun j hj => by obtain ⟨y, c, h, _⟩ := hc j hj; exact ⟨y, c, h⟩)
def C8 (w : World) (A : Nat -> AD) (n : Nat) (x : ByteArray) (e : Ending) (w' : World) : Prop :=
 (if has (nmD (twsA A n)) x = true then ∃ v a c, pos lsS (nmD (twsA A n)) x < n /\ A (pos lsS (nmD (twsA A n)) x) = v /\ e = .returned (.tuple #[.agg #[.int .i64 v.k, .int .i64 (twN v.k v.n), .string (twS v.k v.s), .slice a (twL v.k v.len) c], .bool true]) /\ Reads w' a (twL v.k v.len) v.z
  else e = .returned (.tuple #[.agg #[.int .i64 0, .int .i64 0, .string ⟨#[]⟩, .slice none 0 0], .bool false])) /\ Below w.heap.size w w'
set_option maxRecDepth 100000 in
set_option maxHeartbeats 4000000 in
theorem getL_any (a : Option Addr) (n c : Nat) (A : Nat -> AD) (x : ByteArray) (hn : n <= 1000) (hl : ∀ j, j < n -> (A j).len <= 1000000) (hR : RiseA A n) (w : World) (h : ReadsA w a n A) :
 Calls Tryz.prog 220 #[.slice a n c, .string x] w (C8 w A n x) := by
 have BL : ∀ o, Below w.heap.size w (w.alloc o) := fun o => (Below.refl _ _).alloc (Nat.le_refl _) _
 have SF := aA (fun o => yU a n c A x hn hR (w.alloc o) (h.kept (BL o)));obtain ⟨W, hW⟩ : ∃ W, w.alloc (.cells #[.int .i64 0, .int .i64 0, .string ⟨#[]⟩, .slice none 0 0] 53) = W := ⟨_, rfl⟩;have hWb : Below w.heap.size w W := by rw [<- hW]; exact BL _
 have hWs : W.heap.size = w.heap.size + 1 := by rw [<- hW]; simp
 have hW4 : W.heap[w.heap.size]? = some (.cells #[.int .i64 0, .int .i64 0, .string ⟨#[]⟩, .slice none 0 0] 53 (0, 0)) := by rw [<- hW]; exact heap_alloc_new w _
 have HW := aA hW;have HX := aA (And.intro hWb hW4);have RA := aA h;have HLn := aA hl;have hrn := rising_nm hR;have hnl : (nmD (twsA A n)).length = n := by simp [nmD, twsA]
 have HRN := aA (And.intro hrn hnl);clear hWb hW4 hW h hl hR BL hrn hnl
 by_cases hh : has (nmD (twsA A n)) x = true
 · have hp : pos lsS (nmD (twsA A n)) x < n := by
    have := (gJ eQ HRN.out.1).1 ((lG _ _).1 hh);have := (List.getElem?_eq_some_iff.1 this).1
    rwa [HRN.out.2] at this
   rw [hh] at SF;have HH := aA hh;obtain ⟨I, hI⟩ : ∃ I, pos lsS (nmD (twsA A n)) x = I := ⟨_, rfl⟩;obtain ⟨v, hv⟩ : ∃ v, A I = v := ⟨_, rfl⟩;rw [hI] at SF hp
   have GP := aA (p := ∀ a' c' w', Reads w' a' (twL v.k v.len) v.z -> Below w.heap.size w w' -> C8 w A n x (.returned (.tuple #[.agg #[.int .i64 v.k, .int .i64 (twN v.k v.n), .string (twS v.k v.s), .slice a' (twL v.k v.len) c'], .bool true])) w') (fun a' c' w' hr hb => ⟨by
    rw [if_pos HH.out, hI];exact ⟨v, a', c', hp, hv, rfl, hr⟩, hb⟩)
   obtain ⟨b, off, rfl, hc⟩ := RA.out.2.resolve_left (by omega);obtain ⟨y, cy, h5, hry⟩ := hc I hp;have hlv := HLn.out I hp;rw [hv] at h5 hry hlv;have H5 := aA (And.intro h5 hry);clear hc hv h5 hry hI hh
   go_enter Tryz.func220, Tryz.ntmps220
   go_wp2_with fail
   refine (SF.out _).mono ?_;rw [HW.out];rintro e w2 ⟨rfl, hb2⟩;have B2 := aA (HX.out.1.trans (hb2.mono HX.out.1.size));have V2 := aA ((hb2.block w.heap.size (by omega)).trans HX.out.2);have hz2 := hb2.size;obtain ⟨d0, d1, d2, d3, d4⟩ := H5.out.1.kept B2.out;have TW := aA (Ft v.k v.n v.s y v.len cy v.z hlv w2 (H5.out.2.kept B2.out));clear hb2
   go_wp2_with fail
   refine TW.out.mono ?_;rintro e w3 ⟨⟨a3, c3, rfl, hn3, hr3⟩, hb3⟩;have B3 := aA (B2.out.trans (hb3.mono (by omega)));have V3 := (hb3.block w.heap.size (by omega)).trans V2.out;obtain ⟨⟨c0, c1, c2, c3'⟩, ⟨f0, f1, f2, f3⟩⟩ := aK V3;have R3 := aA (And.intro (hr3 w3 (aF.refl _ _)) hn3);clear hb3 V3 hr3 hn3 d0 d1 d2 d3 d4
   go_wp2_with fail
   have hb4 := aA (l5 B3.out (Nat.le_refl _) (.int .i64 v.k) (.int .i64 (twN v.k v.n)) (.string (twS v.k v.s)) (.slice a3 (twL v.k v.len) c3));have hk4 := aA (R3.out.1.keptS (vF w3 w.heap.size (.int .i64 v.k) (.int .i64 (twN v.k v.n)) (.string (twS v.k v.s)) (.slice a3 (twL v.k v.len) c3)) (fun q hq h => by have := R3.out.2 q hq; omega));exact bodyPost_ret (v := .tuple #[.agg #[.int .i64 v.k, .int .i64 (twN v.k v.n), .string (twS v.k v.s), .slice a3 (twL v.k v.len) c3], .bool true]) (by simp [results, Tryz.results220, go_sem, *]) rfl (GP.out _ _ _ hk4.out hb4.out)
 · have hh' : has (nmD (twsA A n)) x = false := by simpa using hh
   rw [hh'] at SF;have HH := aA hh;clear hh hh'
   go_enter Tryz.func220, Tryz.ntmps220
   go_wp2_with fail
   refine (SF.out _).mono ?_;rw [HW.out];rintro e w2 ⟨rfl, hb2⟩;have B2 := aA (HX.out.1.trans (hb2.mono HX.out.1.size));have V2 := (hb2.block w.heap.size (by omega)).trans HX.out.2;obtain ⟨⟨c0, c1, c2, c3⟩, ⟨f0, f1, f2, f3⟩⟩ := aK V2;clear hb2 V2
   go_wp2_with fail
   have hb4 := aA (l5 B2.out (Nat.le_refl _) (.int .i64 0) (.int .i64 0) (.string ⟨#[]⟩) (.slice none 0 0));exact bodyPost_ret (v := .tuple #[.agg #[.int .i64 0, .int .i64 0, .string ⟨#[]⟩, .slice none 0 0], .bool false]) (by simp [results, Tryz.results220, go_sem, *]) rfl ⟨by rw [if_neg HH.out], hb4.out⟩
end
section
open Go.RowKit
def FK (n : Nat) (A : Nat -> AD) : RD := ⟨⟨#[107]⟩, 0, 0, 0, ⟨#[47, 97]⟩, n, A⟩
def goodL (n : Nat) (A : Nat -> AD) : Bool := sY n A && decide (Af (FK n A) = 0)
theorem GI {n : Nat} {A : Nat -> AD} (h : sY n A = true) : n <= 40 /\ ∀ j, j < n -> FewA (A j) := by
 unfold sY l8 at h;simp only [Bool.and_eq_true, decide_eq_true_eq, List.all_eq_true] at h;obtain ⟨h3, h4⟩ := h;refine ⟨h3, fun j hj => ?_⟩;have := h4 (A j) (by unfold fromA; exact List.mem_map.2 ⟨j, List.mem_range.2 (by omega), by rw [Nat.zero_add]⟩);unfold Bs at this;simp only [Bool.and_eq_true, decide_eq_true_eq] at this;unfold FewA;omega
set_option maxRecDepth 100000 in
set_option maxHeartbeats 2000000 in
theorem good_any (a : Option Addr) (n c : Nat) (A : Nat -> AD) (hS : ∀ j, j < n -> SizA (A j)) (w : World) (h : ReadsA w a n A) :
 Calls Tryz.prog 26 #[.slice a n c] w fun e w' => e = .returned (.bool (goodL n A)) /\ Below w.heap.size w w' := by
 have FE := aA (xE a n c A hS w h);have R := aA h;clear h hS;unfold goodL
 by_cases hf : sY n A = false
 · rw [hf] at FE |-
   go_enter Tryz.func26, Tryz.ntmps26
   go_wp2_with fail
   refine FE.out.mono ?_;rintro e w2 ⟨rfl, hb⟩;have P := aA hb;clear hb
   go_wp2_with fail
   go_ret;exact ⟨rfl, P.out⟩
 · have hf' : sY n A = true := by simpa using hf
   obtain ⟨hn, hA⟩ := GI hf';rw [hf'] at FE |-
   have HA := aA hA;have XC := aA (fun a c w h => Ax (FK n A) a c (by show (1 : Nat) <= 1000; omega) (by show (2 : Nat) <= 1000; omega) (fun j hj => by obtain ⟨h1, h2, _⟩ := HA.out j hj; show (A j).m.size <= 1000 /\ (A j).s.size <= 1000; omega) w h);obtain ⟨E, hE⟩ : ∃ E, Af (FK n A) = E := ⟨_, rfl⟩;rw [hE] at XC |-
   unfold FK at XC;simp only at XC;clear hf hf' hA hE
   by_cases h0 : E = 0
   · subst h0
     go_enter Tryz.func26, Tryz.ntmps26
     go_wp2_with fail
     refine FE.out.mono ?_;rintro e w2 ⟨rfl, hb⟩;have B2 := aA hb;clear hb
     go_wp2_with fail
     refine (qM a n c A (by omega) w2 w2 (R.out.kept B2.out) (Below.refl _ _)).mono ?_;rintro e w3 ⟨⟨a3, c3, rfl, hr⟩, hb⟩;have R3 := aA (hr w3 (aF.refl _ _));have B3 := aA (B2.out.trans (hb.mono B2.out.size));clear hr hb
     go_wp2_with fail
     refine (XC.out _ _ _ R3.out).mono ?_;rintro e w4 ⟨rfl, hb⟩;have P := aA (B3.out.trans (hb.mono B3.out.size));clear hb
     go_wp2_with fail
     go_ret;exact ⟨rfl, P.out⟩
   · rw [decide_eq_false h0]
     have h0' : (E == 0) = false := by simpa using h0
     clear h0
     go_enter Tryz.func26, Tryz.ntmps26
     go_wp2_with fail
     refine FE.out.mono ?_;rintro e w2 ⟨rfl, hb⟩;have B2 := aA hb;clear hb
     go_wp2_with fail
     refine (qM a n c A (by omega) w2 w2 (R.out.kept B2.out) (Below.refl _ _)).mono ?_;rintro e w3 ⟨⟨a3, c3, rfl, hr⟩, hb⟩;have R3 := aA (hr w3 (aF.refl _ _));have B3 := aA (B2.out.trans (hb.mono B2.out.size));clear hr hb
     go_wp2_with fail
     refine (XC.out _ _ _ R3.out).mono ?_;rintro e w4 ⟨rfl, hb⟩;have P := aA (B3.out.trans (hb.mono B3.out.size));clear hb
     go_wp2_with fail
     go_ret;exact ⟨rfl, P.out⟩
end
section
open Go.RowKit
end
section
open Go.RowKit Go.ChangeShapes Go.WideShapes Go.Deep
theorem Eo {zs : List Int} (h : ∀ n ∈ zs, (Lit.int .i64 n).wf = true) (j : Nat) : aW (zs.getD j 0) := by
 by_cases hj : j < zs.length
 · rw [List.getD, List.getElem?_eq_getElem hj]
   exact gL (h _ (List.getElem_mem hj))
 · rw [List.getD, List.getElem?_eq_none (by omega)]
   unfold aW; simp
theorem mX : aW 0 := by unfold aW; omega
theorem vW : Tryz.prog.cellsOf 67 = 5 := by kernel_rfl
set_option maxRecDepth 100000 in
/-- The four cells of a value. -/
theorem xT {H : Type} {enc : TypeId × Value -> H} {W : World} {n : Nat} {c0 c1 c2 c3 : Value} {x : DataW H × List MemPlace} (h : DataW.trod enc Tryz.prog W 0 (fun _ => true) true n 53 [c0, c1, c2, c3] = some x) :
 ∃ (k i : Int) (s : ByteArray) (a : Option Addr) (len cap : Nat) (z : Nat -> Int), c0 = .int .i64 k /\ c1 = .int .i64 i /\ c2 = .string s /\ c3 = .slice a len cap /\ aW k /\ aW i /\ s.size <= maxLen /\ (∀ j, aW (z j)) /\ Reads W a len z := by
 obtain ⟨ys, m, -, -, -, hyl, hf⟩ := DataW.trod_struct Tryz.underlying53 h;have y4 : ys.length = 4 := hyl
 match ys, y4 with
 | [y0, y1, y2, y3], _ =>
   have h0 : DataW.trod enc Tryz.prog W 0 (fun _ => true) true m 3 [c0] = some y0 := hf 0 _ rfl;have h1 : DataW.trod enc Tryz.prog W 0 (fun _ => true) true m 2 [c1] = some y1 := hf 1 _ rfl;have h2 : DataW.trod enc Tryz.prog W 0 (fun _ => true) true m 9 [c2] = some y2 := hf 2 _ rfl;have h3 : DataW.trod enc Tryz.prog W 0 (fun _ => true) true m 51 [c3] = some y3 := hf 3 _ rfl;obtain ⟨k, e0, -, w0⟩ := DataW.trod_int Tryz.underlying3 h0;obtain ⟨i, e1, -, w1⟩ := DataW.trod_int Tryz.underlying2 h1;obtain ⟨s, e2, -, w2⟩ := DataW.trod_string Tryz.underlying9 h2;cases e0; cases e1; cases e2
   rcases open_ints Tryz.underlying51 Tryz.underlying2 (by kernel_rfl) h3 with ⟨hcs, _⟩ | ⟨x, l, c, zs, hcs, _, hl, hm, hz, _, hcell, hwz⟩
   · cases hcs
     exact ⟨k, i, s, none, 0, 0, fun _ => 0, rfl, rfl, rfl, rfl, gL w0, gL w1, w2, fun _ => mX, ⟨Nat.zero_le _, .inl rfl⟩⟩
   · cases hcs
     simp only [if_true] at hz;refine ⟨k, i, s, some x, l, c, fun j => zs.getD j 0, rfl, rfl, rfl, rfl, gL w0, gL w1, w2, Eo hwz, ⟨Nat.le_trans hl hm, ?_⟩⟩
     by_cases hl0 : l = 0
     · exact .inl hl0
     · right
       obtain ⟨b, off, spot⟩ := x;have hspot : spot = none := by simpa [Addr.add] using World.cell?_spot (hcell 0 (by omega))
       subst hspot;exact ⟨b, off, rfl, fun j hj => by rw [<- Addr.add_lit]; exact hcell j (by omega)⟩
set_option maxRecDepth 100000 in
/-- The five cells of an attribute. -/
theorem BP {H : Type} {enc : TypeId × Value -> H} {W : World} {n : Nat} {cs : List Value} {x : DataW H × List MemPlace} (h : DataW.trod enc Tryz.prog W 0 (fun _ => true) true n 67 cs = some x) :
 ∃ (v : AD) (y : Option Addr) (c : Nat), SizA v /\ NumA v /\ cs = nP v y c /\ Reads W y v.len v.z := by
 obtain ⟨ys, m, -, -, hlen, hyl, hf⟩ := DataW.trod_struct Tryz.underlying67 h;rw [vW] at hlen
 match cs, hlen with
 | [c0, c1, c2, c3, c4], _ =>
   have y2 : ys.length = 2 := hyl
   match ys, y2 with
   | [y0, y1], _ =>
     have h0 : DataW.trod enc Tryz.prog W 0 (fun _ => true) true m 9 [c0] = some y0 := hf 0 _ rfl;have h1 : DataW.trod enc Tryz.prog W 0 (fun _ => true) true m 53 [c1, c2, c3, c4] = some y1 := hf 1 _ rfl;obtain ⟨s, e0, -, w0⟩ := DataW.trod_string Tryz.underlying9 h0;cases e0;obtain ⟨k, i, t, a, len, cap, z, rfl, rfl, rfl, rfl, wk, wi, wt, wz, hr⟩ := xT h1;exact ⟨⟨s, k, i, t, len, z⟩, a, cap, ⟨w0, wt, hr.1⟩, ⟨wk, wi, wz⟩, rfl, hr⟩
theorem attrs_of {H : Type} {enc : TypeId × Value -> H} {W : World} {fuel : Nat} {c5 : Value} {x : DataW H × List MemPlace}
 (hf : DataW.trod enc Tryz.prog W 0 (fun _ => true) true fuel 64 [c5] = some x) : ∃ (a : Option Addr) (len cap : Nat) (A : Nat -> AD), c5 = .slice a len cap /\ (∀ j, SizA (A j)) /\ (∀ j, NumA (A j)) /\ ReadsA W a len A := by
 have d0 : SizA ⟨⟨#[]⟩, 0, 0, ⟨#[]⟩, 0, fun _ => 0⟩ := ⟨Nat.zero_le _, Nat.zero_le _, Nat.zero_le _⟩;have d1 : NumA ⟨⟨#[]⟩, 0, 0, ⟨#[]⟩, 0, fun _ => 0⟩ := ⟨mX, mX, fun _ => mX⟩
 rcases open_slice Tryz.underlying64 hf with ⟨hcs, _⟩ | ⟨x, l, c, m, n, D, Pl, hcs, _, hl, hm, hmm, _, hi⟩
 · simp at hcs
   subst hcs;exact ⟨none, 0, 0, fun _ => ⟨⟨#[]⟩, 0, 0, ⟨#[]⟩, 0, fun _ => 0⟩, rfl, fun _ => d0, fun _ => d1, Nat.zero_le _, .inl rfl⟩
 · simp at hcs
   subst hcs;simp only [if_true] at hmm;subst hmm
   have hx : ∀ j, ∃ s : AD, SizA s /\ NumA s /\ (j < l -> ∃ y cc, (W.cell? (x.add (j * 5)) = some (.string s.m) /\ W.cell? (x.add (j * 5 + 1)) = some (.int .i64 s.k) /\ W.cell? (x.add (j * 5 + 2)) = some (.int .i64 s.n) /\ W.cell? (x.add (j * 5 + 3)) = some (.string s.s) /\ W.cell? (x.add (j * 5 + 4)) = some (.slice y s.len cc)) /\ Reads W y s.len s.z) := by
    intro j
    by_cases hj : j < l
    · obtain ⟨cs', hc, ht⟩ := hi j (by omega)
      rw [vW] at hc;obtain ⟨s, y, cc, hs, hn, rfl, hr⟩ := BP ht;obtain ⟨-, -, hat⟩ := World.cells?_some hc;have e : ∀ i, i < 5 -> (x.add (j * 5)).add i = x.add (j * 5 + i) := fun i _ => Go.Deep.add_add _ _ _
      refine ⟨s, hs, hn, fun _ => ⟨y, cc, ⟨?_, ?_, ?_, ?_, ?_⟩, hr⟩⟩
      · have := hat 0 (by omega); rw [e 0 (by omega)] at this; exact this
      · have := hat 1 (by omega); rw [e 1 (by omega)] at this; exact this
      · have := hat 2 (by omega); rw [e 2 (by omega)] at this; exact this
      · have := hat 3 (by omega); rw [e 3 (by omega)] at this; exact this
      · have := hat 4 (by omega); rw [e 4 (by omega)] at this; exact this
    · exact ⟨_, d0, d1, fun h => absurd h hj⟩
   have hS : ∃ S : Nat -> AD, ∀ j, SizA (S j) /\ NumA (S j) /\ (j < l -> ∃ y cc, (W.cell? (x.add (j * 5)) = some (.string (S j).m) /\ W.cell? (x.add (j * 5 + 1)) = some (.int .i64 (S j).k) /\ W.cell? (x.add (j * 5 + 2)) = some (.int .i64 (S j).n) /\ W.cell? (x.add (j * 5 + 3)) = some (.string (S j).s) /\ W.cell? (x.add (j * 5 + 4)) = some (.slice y (S j).len cc)) /\ Reads W y (S j).len (S j).z) := ⟨fun j => Classical.choose (hx j), fun j => Classical.choose_spec (hx j)⟩;obtain ⟨S, hS⟩ := hS;refine ⟨some x, l, _, S, rfl, fun j => (hS j).1, fun j => (hS j).2.1, Nat.le_trans hl hm, ?_⟩
   by_cases hz : l = 0
   · exact Or.inl hz
   · right
     obtain ⟨b, off, spot⟩ := x
     have hspot : spot = none := by
      obtain ⟨y, cc, h0, _⟩ := (hS 0).2.2 (by omega);simpa [Addr.add] using World.cell?_spot h0.1
     subst hspot;refine ⟨b, off, rfl, fun j hj => ?_⟩;obtain ⟨y, cc, h5, hr⟩ := (hS j).2.2 hj;rw [Addr.add_lit, Addr.add_lit, Addr.add_lit, Addr.add_lit, Addr.add_lit] at h5;exact ⟨y, cc, h5, hr⟩
end
end
end Go.Proofs.YtapcjnoaofmmiaaGreatDoor.Wr
namespace Go.Proofs.YtapcjnoaofmmiaaGreatDoor
section
open Go.RowKit
structure C9 (A : Nat -> Wr.AD) (n : Nat) (g : ByteArray -> Option Int) : Prop where
 yes : ∀ j, j < n -> g (A j).m = if (A j).k = 1 then some (A j).n else none
 no : ∀ x, (∀ j, j < n -> (A j).m ≠ x) -> g x = none
 fit : ∀ x v, g x = some v -> aW v
set_option maxHeartbeats 8000000 in
theorem AU (o : ByteArray) (a b : Int) (ha : aW a) (hb : aW b) (h4 : kD o = true) (w : World) : Calls Tryz.prog 199 #[.string o, .int .i64 a, .int .i64 b] w fun e w' => e = .returned (.tuple #[.int .i64 ((oD o a b).getD 0), .bool (oD o a b).isSome]) /\ w = w' := by
 have A1 := aA (xX a b w ha hb);have A2 := aA (xU a b w ha hb);have A3 := aA (Fn a b w ha hb);unfold kD at h4;unfold oD;cases h1 : (o.data.toList == [43]) with
 | true =>
   have g1 := bV h1;rw [if_pos rfl];simp only [Option.getD_some, Option.isSome_some];clear h1 h4
   go_enter Tryz.func199, Tryz.ntmps199
   go_wp2_with fail
   refine A1.out.mono ?_;rintro e w1 ⟨rfl, rfl⟩
   go_wp2_with fail
   go_ret2;exact ⟨rfl, rfl⟩
 | false =>
   have g1 := aH h1;rw [if_neg (by decide)];cases h2 : (o.data.toList == [45]) with
   | true =>
     have g2 := bV h2;rw [if_pos rfl];simp only [Option.getD_some, Option.isSome_some];clear h1 h4 h2
     go_enter Tryz.func199, Tryz.ntmps199
     go_wp2_with fail
     refine A2.out.mono ?_;rintro e w1 ⟨rfl, rfl⟩
     go_wp2_with fail
     go_ret2;exact ⟨rfl, rfl⟩
   | false =>
     have g2 := aH h2;rw [if_neg (by decide)];cases h3 : (o.data.toList == [42]) with
     | true =>
       have g3 := bV h3;rw [if_pos rfl];simp only [Option.getD_some, Option.isSome_some];clear h1 h4 h2 h3
       go_enter Tryz.func199, Tryz.ntmps199
       go_wp2_with fail
       refine A3.out.mono ?_;rintro e w1 ⟨rfl, rfl⟩
       go_wp2_with fail
       go_ret2;exact ⟨rfl, rfl⟩
     | false =>
       have g3 := aH h3;rw [if_neg (by decide)];cases h5 : (o.data.toList == [47]) with
       | true =>
         have g4 := bV h5;rw [if_pos rfl]
         by_cases hz : b = 0
         · subst hz
           have A4 := aA (xW a w);rw [if_pos rfl];simp only [Option.getD_none, Option.isSome_none];clear h1 h4 h2 h3 h5
           go_enter Tryz.func199, Tryz.ntmps199
           go_wp2_with fail
           refine A4.out.mono ?_;rintro e w1 ⟨rfl, rfl⟩
           go_wp2_with fail
           go_ret2;exact ⟨rfl, rfl⟩
         · have A4 := aA (Fp a b w ha hb hz)
           rw [if_neg hz];simp only [Option.getD_some, Option.isSome_some];clear h1 h4 h2 h3 h5 hz
           go_enter Tryz.func199, Tryz.ntmps199
           go_wp2_with fail
           refine A4.out.mono ?_;rintro e w1 ⟨rfl, rfl⟩
           go_wp2_with fail
           go_ret2;exact ⟨rfl, rfl⟩
       | false =>
         have g4 := aH h5;rw [if_neg (by decide)];have g5 := bV (o := o) (x := [37]) (by rw [h1, h2, h3, h5] at h4; simpa using h4)
         by_cases hz : b = 0
         · subst hz
           have A4 := aA (xV a w);rw [if_pos rfl];simp only [Option.getD_none, Option.isSome_none];clear h1 h4 h2 h3 h5
           go_enter Tryz.func199, Tryz.ntmps199
           go_wp2_with fail
           refine A4.out.mono ?_;rintro e w1 ⟨rfl, rfl⟩
           go_wp2_with fail
           go_ret2;exact ⟨rfl, rfl⟩
         · have A4 := aA (Fo a b w ha hb hz)
           rw [if_neg hz];simp only [Option.getD_some, Option.isSome_some];clear h1 h4 h2 h3 h5 hz
           go_enter Tryz.func199, Tryz.ntmps199
           go_wp2_with fail
           refine A4.out.mono ?_;rintro e w1 ⟨rfl, rfl⟩
           go_wp2_with fail
           go_ret2;exact ⟨rfl, rfl⟩
theorem Eu {A : Nat -> Wr.AD} {n : Nat} {g : ByteArray -> Option Int} (hg : C9 A n g) (hR : Wr.RiseA A n) (x : ByteArray) :
 (has (Wr.nmD (Wr.twsA A n)) x = true -> pos lsS (Wr.nmD (Wr.twsA A n)) x < n -> g x = if (A (pos lsS (Wr.nmD (Wr.twsA A n)) x)).k = 1 then some (A (pos lsS (Wr.nmD (Wr.twsA A n)) x)).n else none) /\
 (¬ has (Wr.nmD (Wr.twsA A n)) x = true -> g x = none) := by
 have hr := Wr.rising_nm hR;refine ⟨fun h hp => ?_, fun h => hg.no x fun j hj e => h ?_⟩
 · have h1 := (gJ eQ hr).1 ((lG _ _).1 h)
   rw [Wr.nm_at A hp] at h1;have h2 := hg.yes _ hp;rw [Option.some.inj h1] at h2;exact h2
 · rw [lG]
   exact e ▸ List.mem_of_getElem? (Wr.nm_at A hj)
set_option maxHeartbeats 8000000 in
theorem AX {A : Nat -> Wr.AD} {n : Nat} {g : ByteArray -> Option Int} (hg : C9 A n g) (hR : Wr.RiseA A n) (hn : n <= 1000) (hl : ∀ j, j < n -> (A j).len <= 1000000) (a : Option Addr) (c : Nat) (x : ByteArray) (w : World) (h : Wr.ReadsA w a n A) :
 Calls Tryz.prog 197 #[.slice a n c, .string x] w fun e w' => e = .returned (.tuple #[.int .i64 ((g x).getD 0), .bool (g x).isSome]) /\ Below w.heap.size w w' := by
 have C := aA (Wr.getL_any a n c A x hn hl hR w h);obtain ⟨F1, F2⟩ := Eu hg hR x
 by_cases hh : has (Wr.nmD (Wr.twsA A n)) x = true
 · have C1 := aA (p := Calls Tryz.prog 220 #[.slice a n c, .string x] w fun e w' => (∃ (v : Wr.AD) (a : Option Addr) (c : Nat), g x = (if v.k = 1 then some v.n else none) /\ e = .returned (.tuple #[.agg #[.int .i64 v.k, .int .i64 (Wr.twN v.k v.n), .string (Wr.twS v.k v.s), .slice a (Wr.twL v.k v.len) c], .bool true])) /\ Below w.heap.size w w') (C.out.mono fun e w' ⟨he, hb⟩ => by
    rw [if_pos hh] at he;obtain ⟨v, a2, c2, hp, rfl, he, -⟩ := he;exact ⟨⟨_, a2, c2, F1 hh hp, he⟩, hb⟩)
   clear F1 F2 C h hh
   go_enter Tryz.func197, Tryz.ntmps197
   go_wp2_with fail
   refine C1.out.mono ?_;rintro e w1 ⟨⟨v, a2, c2, hv, rfl⟩, hb⟩;have B1 := aA hb;have HV := aA hv;have tw1 : v.k = 1 -> Wr.twN v.k v.n = v.n := fun h => by rw [h]; rfl
   obtain ⟨N, hN⟩ : ∃ N, Wr.twN v.k v.n = N := ⟨_, rfl⟩;obtain ⟨Z, hZ⟩ : ∃ Z, Wr.twS v.k v.s = Z := ⟨_, rfl⟩;obtain ⟨L, hL⟩ : ∃ L, Wr.twL v.k v.len = L := ⟨_, rfl⟩;rw [hN] at tw1;rw [hN, hZ, hL];obtain ⟨k, hk⟩ : ∃ k, v.k = k := ⟨_, rfl⟩;rw [hk] at HV tw1 |-
   clear hb hv hN hZ hL hk C1
   by_cases h1 : k = 1
   · have TW := aA (tw1 h1)
     subst h1;have HG := aA (show g x = some v.n by rw [HV.out, if_pos rfl]);clear HV tw1;have B2 := aA (B1.out.trans (((Below.refl w1.heap.size w1).alloc (Nat.le_refl _) (.cells #[.int .i64 1, .int .i64 N, .string Z, .slice a2 L c2] 53)).mono B1.out.size))
     go_wp2_with fail
     go_ret2;exact ⟨by rw [HG.out, TW.out]; rfl, B2.out⟩
   · have HG := aA (show g x = none by rw [HV.out, if_neg h1])
     have e1 : (k == 1) = false := by simpa using h1
     have e2 : (k != 1) = true := by simpa using h1
     clear HV tw1;have B2 := aA (B1.out.trans (((Below.refl w1.heap.size w1).alloc (Nat.le_refl _) (.cells #[.int .i64 k, .int .i64 N, .string Z, .slice a2 L c2] 53)).mono B1.out.size))
     go_wp2_with fail
     go_ret2;rw [HG.out];exact ⟨rfl, B2.out⟩
 · have HG := aA (F2 hh)
   have C1 := aA (p := Calls Tryz.prog 220 #[.slice a n c, .string x] w fun e w' => e = .returned (.tuple #[.agg #[.int .i64 0, .int .i64 0, .string ⟨#[]⟩, .slice none 0 0], .bool false]) /\ Below w.heap.size w w') (C.out.mono fun e w' ⟨he, hb⟩ => by
    rw [if_neg hh] at he;exact ⟨he, hb⟩)
   clear F1 F2 C h hh
   go_enter Tryz.func197, Tryz.ntmps197
   go_wp2_with fail
   refine C1.out.mono ?_;rintro e w1 ⟨rfl, hb⟩;have B2 := aA (hb.trans (((Below.refl w1.heap.size w1).alloc (Nat.le_refl _) (.cells #[.int .i64 0, .int .i64 0, .string ⟨#[]⟩, .slice none 0 0] 53)).mono hb.size));clear hb C1
   go_wp2_with fail
   go_ret2;rw [HG.out];exact ⟨rfl, B2.out⟩
end
end Go.Proofs.YtapcjnoaofmmiaaGreatDoor
