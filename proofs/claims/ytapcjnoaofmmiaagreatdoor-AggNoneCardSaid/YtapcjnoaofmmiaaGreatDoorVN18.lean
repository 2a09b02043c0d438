/-
 No statement: what AggNoneCard needs, of the texts OW3, HEval, HEvalT, OHold.
-/
import Derived.Test.YtapcjnoaofmmiaaGreatDoorVN17
namespace Go.Proofs.YtapcjnoaofmmiaaGreatDoor.Wr
section
section
open Go.RowKit
set_option maxHeartbeats 1000000 in
theorem Ft (k n : Int) (s : ByteArray) (a : Option Addr) (len cap : Nat) (hs : s.size <= maxLen) (hl : len <= maxLen) (w : World) :
 Calls Tryz.prog 122 #[.agg #[.int .i64 k, .int .i64 n, .string s, .slice a len cap]] w fun e w' => e = .returned (.bool (decide (s.size <= 200) && decide (len <= 40))) /\ Below w.heap.size w w' := by
 unfold maxLen at hs hl
 by_cases h1 : s.size <= 200
 · by_cases h2 : len <= 40
   · go_enter Tryz.func122, Tryz.ntmps122
     go_wp2_with fail
     go_ret;exact ⟨cU (a := decide ((len : Int) <= 40)) (by rw [decide_eq_true h1, Bool.true_and, decide_eq_true h2]; exact decide_eq_true (by omega)), (Below.refl _ _).alloc (Nat.le_refl _) _⟩
   · go_enter Tryz.func122, Tryz.ntmps122
     go_wp2_with fail
     go_ret;exact ⟨cU (a := decide ((len : Int) <= 40)) (by rw [decide_eq_true h1, Bool.true_and, decide_eq_false h2]; exact decide_eq_false (by omega)), (Below.refl _ _).alloc (Nat.le_refl _) _⟩
 · go_enter Tryz.func122, Tryz.ntmps122
   go_wp2_with fail
   go_ret;exact ⟨cU (a := false) (by first | rfl | (rw [decide_eq_false h1]; rfl)), (Below.refl _ _).alloc (Nat.le_refl _) _⟩
def Fs (x : AD) : Bool := decide (x.m.size <= 100) && (decide (x.s.size <= 200) && decide (x.len <= 40))
def mU (l : List AD) : Bool := l.all Fs
def tB (n : Nat) (A : Nat -> AD) : Bool := decide (n <= 40) && mU (dF A n 0)
def Ja (x : AD) : Prop := x.m.size <= maxLen /\ x.s.size <= maxLen /\ x.len <= maxLen
set_option maxRecDepth 100000 in
set_option maxHeartbeats 4000000 in
theorem vV (a : Option Addr) (n c : Nat) (A : Nat -> AD) (hS : ∀ j, j < n -> Ja (A j)) (w : World) (h : ReadsA w a n A) :
 Calls Tryz.prog 78 #[.slice a n c] w fun e w' => e = .returned (.bool (tB n A)) /\ Below w.heap.size w w' := by
 have hm := h.1;unfold maxLen at hm;have R := aA h;have HS := aA hS;clear h hS
 by_cases h40 : 40 < n
 · have E := aA (p := tB n A = false) (by unfold tB; rw [decide_eq_false (by omega)]; rfl)
   go_enter Tryz.func78, Tryz.ntmps78
   go_wp2_with fail
   go_ret;exact ⟨cU E.out.symm, Below.refl _ _⟩
 · have E := aA (p := tB n A = mU (dF A n 0)) (by unfold tB; rw [decide_eq_true (by omega)]; rfl)
   go_enter Tryz.func78, Tryz.ntmps78
   go_wp2_with fail
   go_loopw [3] (fun i wr => ∃ k : Nat, i = .int .i64 k /\ k <= n /\ Hid (mU (dF A n 0) = mU (dF A n k)) /\ Hid (Below w.heap.size w wr)) (fun i _ => n - (intOf i).toNat)
   case atStart => exact ⟨0, rfl, Nat.zero_le _, aA rfl, aA (Below.refl _ _)⟩
   case round =>
    obtain ⟨k, rfl, hk, hE, hB⟩ := hrel
    by_cases hlt : k < n
    · obtain ⟨b, off, rfl, hc⟩ := R.out.2.resolve_left (by omega)
      obtain ⟨y, e, g0, -⟩ := hc k hlt;have g := g0.kept hB.out;have hE2 := hE.out;rw [rT A hlt] at hE2;have hsz := HS.out k hlt;obtain ⟨x, hx⟩ : ∃ x, A k = x := ⟨_, rfl⟩;rw [hx] at g hE2 hsz;have hE3 : mU (dF A n 0) = (Fs x && mU (dF A n (k + 1))) := hE2;obtain ⟨hs1, hs2, hs3⟩ := hsz;have F2 := aA (fun w => Ft x.k x.n x.s y x.len e hs2 hs3 w);obtain ⟨q, hq⟩ : ∃ q, (decide (x.s.size <= 200) && decide (x.len <= 40)) = q := ⟨_, rfl⟩;rw [hq] at F2;have hf : Fs x = (decide (x.m.size <= 100) && q) := by unfold Fs; rw [hq]
      rw [hf] at hE3;have hz := hB.out.size;unfold maxLen at hs1;obtain ⟨p0, p1, p2, p3, p4⟩ := g;clear hc hE2 hE hx hf hq g0 hs2 hs3
      by_cases h1 : 100 < x.m.size
      · have HE := aA (p := mU (dF A n 0) = false) (by rw [hE3, decide_eq_false (by omega)]; rfl)
        clear hE3
        go_wp2_with fail
        go_ret;exact ⟨cU (by rw [E.out, HE.out]), hB.out⟩
      · have HE := aA (p := mU (dF A n 0) = (q && mU (dF A n (k + 1)))) (by rw [hE3, decide_eq_true (by omega)]; rfl)
        clear hE3
        go_wp2_with fail
        refine (F2.out _).mono ?_;rintro e w2 ⟨rfl, hb⟩;have B2 := aA hb;clear hb p0 p1 p2 p3 p4;cases q with
        | true =>
          go_wp2_with fail
          go_roundw
          case rel => exact ⟨k + 1, by go_num, by omega, aA (by rw [HE.out]; rfl), aA (hB.out.trans (B2.out.mono hz))⟩
          case measure => simp [intOf]; omega
        | false =>
          go_wp2_with fail
          go_ret;exact ⟨cU (by rw [E.out, HE.out]; rfl), hB.out.trans (B2.out.mono hz)⟩
    · go_wp2_with fail
      go_ret;exact ⟨cU (by rw [E.out, hE.out, uB A (by omega)]; rfl), hB.out⟩
end
section
open Go.RowKit
def oG (x : AD) (y : Option Addr) (c : Nat) : List Value := [.string x.m, .int .i64 x.k, .int .i64 x.n, .string x.s, .slice y x.len c]
def gL (A : Nat -> AD) (Y : Nat -> Option Addr) (C : Nat -> Nat) : Nat -> List Value
 | 0 => []
 | k + 1 => gL A Y C k ++ oG (A k) (Y k) (C k)
theorem sG (A : Nat -> AD) (Y : Nat -> Option Addr) (C : Nat -> Nat) : ∀ k, (gL A Y C k).length = k * 5
 | 0 => rfl
 | k + 1 => by rw [gL, List.length_append, sG A Y C k]; show k * 5 + 5 = _; omega
theorem uL (A : Nat -> AD) (Y : Nat -> Option Addr) (C : Nat -> Nat) {i : Nat} (hi : i < 5) : ∀ {k j : Nat}, j < k -> (gL A Y C k)[j * 5 + i]? = (oG (A j) (Y j) (C j))[i]?
 | 0, j, h => by omega
 | k + 1, j, h => by
   have hl := sG A Y C k;rw [gL]
   by_cases hj : j < k
   · rw [List.getElem?_append_left (by omega)]
     exact uL A Y C hi hj
   · obtain rfl : j = k := by omega
     rw [List.getElem?_append_right (by omega), hl, show j * 5 + i - j * 5 = i by omega]
theorem Du (x : AD) (y : Option Addr) (c : Nat) : ∀ u ∈ oG x y c, u.oneCell' = true := by
 intro u hu;simp only [oG, List.mem_cons, List.not_mem_nil, or_false] at hu
 rcases hu with rfl | rfl | rfl | rfl | rfl <;> rfl
theorem zS {w : World} {base : Nat} {e : TypeId} {v : Value} {n : Nat} {A : Nat -> AD} {Y : Nat -> Option Addr} {C : Nat -> Nat} (h : w.ownsRow base e 5 v n (gL A Y C n)) (hr : ∀ j, j < n -> gG w (Y j) (A j).len (A j).z) :
 ∃ a c, v = .slice a n c /\ ReadsA w a n A := by
 rcases h.2 with ⟨rfl, rfl⟩ | ⟨g, cap, cur, rfl, _, hg, hnc, hcm, _, ht⟩
 · exact ⟨none, 0, rfl, Nat.zero_le _, .inl rfl⟩
 · refine ⟨_, _, rfl, Nat.le_trans hnc hcm, .inr ⟨g, 0, rfl, fun j hj => ⟨Y j, C j, ?_, hr j hj⟩⟩⟩
   have cell : ∀ i u, i < 5 -> (oG (A j) (Y j) (C j))[i]? = some u -> w.cell? ⟨g, 0 + j * 5 + i, none⟩ = some u := fun i u hi hu => by
    rw [Nat.zero_add];obtain ⟨g', hg', hc⟩ := kM h (by rw [uL A Y C hi hj]; exact hu);simp only [Addr.mk.injEq] at hg';obtain ⟨rfl, _⟩ := hg';exact hc
   exact ⟨cell 0 _ (by omega) rfl, cell 1 _ (by omega) rfl, cell 2 _ (by omega) rfl, cell 3 _ (by omega) rfl, cell 4 _ (by omega) rfl⟩
def pJ (w0 w : World) (n : Nat) (A : Nat -> AD) (e : Ending) (w' : World) : Prop := (∃ a c, e = .returned (.slice a n c) /\ ∀ w3, aG (fun k => w0.heap.size <= k /\ k < w.heap.size) w' w3 -> ReadsA w3 a n A) /\ Below w.heap.size w w'
theorem EG (w : World) (x : AD) (y : Option Addr) (c : Nat) : ∀ j u, (oG x y c)[j]? = some u -> (w.alloc (.cells #[.string x.m, .int .i64 x.k, .int .i64 x.n, .string x.s, .slice y x.len c] 192)).cell? ((⟨w.heap.size, 0, none⟩ : Addr).add j) = some u := fun j u hj => by
 rw [Addr.add_lit, Nat.zero_add, cell_of_row _ _ _ _ _ (0, 0) (heap_alloc_new w _)];simpa [oG] using hj
theorem Ck {w : World} {base : Nat} {e : TypeId} {size : Nat} {v : Value} {n : Nat} {xs : List Value} (h : w.ownsRow base e size v n xs) : ∃ a l c, v = .slice a l c := by
 rcases h.2 with ⟨h, _⟩ | ⟨g, cap, _, h, _⟩
 · exact ⟨_, _, _, h⟩
 · exact ⟨_, _, _, h⟩
theorem Is : (Tryz.prog.info? 192).map (fun i => (i.zero, i.size, i.bytes)) = some (some (.agg #[.string ⟨#[]⟩, .int .i64 0, .int .i64 0, .string ⟨#[]⟩, .slice none 0 0]), 5, 72) := by kernel_rfl
set_option maxRecDepth 100000 in
set_option maxHeartbeats 4000000 in
theorem pO (a : Option Addr) (n c : Nat) (A : Nat -> AD) (hn : n <= 1000) (w0 w : World) (h : ReadsA w0 a n A) (h0w : Below w0.heap.size w0 w) :
 Calls Tryz.prog 73 #[.slice a n c] w (pJ w0 w n A) := by
 obtain ⟨i0, hi, hz0, hz1, hz2⟩ := info_parts Is;have und : Tryz.prog.underlying 142 = some (.slice 192) := Tryz.underlying142;have hm := h.1;unfold maxLen at hm
 by_cases h0 : n = 0
 · subst h0
   have P := aA (show pJ w0 w 0 A (.returned (.slice none 0 0)) w from ⟨⟨none, 0, rfl, fun _ _ => ⟨Nat.zero_le _, .inl rfl⟩⟩, Below.refl _ _⟩);clear h h0w
   go_enter Tryz.func73, Tryz.ntmps73
   go_wp2_with fail
   go_loop [3, 4] (fun v i => v = .slice none 0 0 /\ i = .int .i64 0) (fun _ _ => 0)
   case atStart => exact ⟨rfl, rfl⟩
   case round =>
    obtain ⟨rfl, rfl⟩ := hrel
    go_wp2_with fail
    go_ret;exact P.out
 obtain ⟨-, h1⟩ := h;obtain ⟨b, off, rfl, hc⟩ := h1.resolve_left h0;obtain ⟨Y, hY⟩ := Go.Deep.choose_lt hc;obtain ⟨C, hC⟩ := Go.Deep.choose_lt hY;have HC := aA hC;have H0 := aA h0w;have hz0w := h0w.size;clear hc hY hC h0 h0w
 go_enter Tryz.func73, Tryz.ntmps73
 go_wp2_with fail
 go_loopw [3, 4] (fun v i wr => ∃ (k : Nat) (va : Option Addr) (vl vc : Nat), v = .slice va vl vc /\ i = .int .i64 k /\ k <= n /\ Hid (wr.ownsRow w.heap.size 192 5 (.slice va vl vc) k (gL A Y C k)) /\ Hid (Below w.heap.size w wr)) (fun _ i _ => n - (intOf i).toNat)
 case atStart => exact ⟨0, none, 0, 0, rfl, rfl, Nat.zero_le _, aA (World.ownsRow_nil _ _ _ _), aA (Below.refl _ _)⟩
 case round =>
  obtain ⟨k, va, vl, vc, rfl, rfl, hk, hO, hB⟩ := hrel
  by_cases hlt : k < n
  · obtain ⟨g0, r0⟩ := HC.out k hlt
    obtain ⟨x, hx⟩ : ∃ x, A k = x := ⟨_, rfl⟩;obtain ⟨y, hy⟩ : ∃ y, Y k = y := ⟨_, rfl⟩;obtain ⟨ce, he⟩ : ∃ e, C k = e := ⟨_, rfl⟩;have hnx : gL A Y C (k + 1) = gL A Y C k ++ oG x y ce := by rw [gL, hx, hy, he]
    rw [hx, hy, he] at g0;have NX := aA hnx;have G := aA (p := ∀ w', Below w.heap.size w w' -> gN w' b (off + k * 5) x y ce) (fun w' hb => g0.kept (H0.out.trans (hb.mono hz0w)));have hz := hB.out.size;have hdr : Below wr.heap.size wr wr.drew := ⟨rfl, rfl, rfl, Nat.le_refl _, fun _ _ => rfl⟩;have HDR := aA hdr;have NEW := aA (fun w => EG w x y ce);have OF := aA (fun w => Ir x.k x.n x.s y x.len ce w);unfold val at OF;obtain ⟨p0, p1, p2, p3, p4⟩ := G.out _ hB.out;clear g0 r0 hx hy he hnx hdr
    go_wp2_with fail
    go_region_held3 (fun w' => w'.cell? ⟨b, off + k * 5, none⟩ = some (.string x.m) /\ w'.cell? ⟨b, off + k * 5 + 1, none⟩ = some (.int .i64 x.k) /\ w'.cell? ⟨b, off + k * 5 + 2, none⟩ = some (.int .i64 x.n) /\ w'.cell? ⟨b, off + k * 5 + 3, none⟩ = some (.string x.s) /\ w'.cell? ⟨b, off + k * 5 + 4, none⟩ = some (.slice y x.len ce)) (first | assumption | (refine ⟨?_, ?_, ?_, ?_, ?_⟩ <;> (first | assumption | (go_keep; done)))) (first
     | (go_at_call 24
        with_reducible refine (OF.out _).mono ?_
        rintro e w2 ⟨rfl, hb⟩;have B2 := aA (hB.out.trans ((HDR.out.trans hb).mono hz));have O2 := aA (bB hO.out (HDR.out.trans hb));have cc := G.out _ B2.out;clear hb)
     | (refine pX rfl (.tmp 11) (.tmp 24) 142 rfl (base := w.heap.size) und hi hz0 hz1 hz2 rfl (by decide) (.slice va vl vc) k (gL A Y C k) (oG x y ce) ⟨w2.heap.size, 0, none⟩ 1 (by first | (simp [Act.eval]; done) | fail) (by first | (simp [Act.eval]; done) | fail) (O2.out.alloc _) rfl (NEW.out w2) (Du x y ce) (by unfold maxLen; omega) (by omega) (by have := B2.out.size; simp; omega) ?_
        intro v3 w3 ho hg;have O3 := aA ho;have B3 := aA ((B2.out.alloc B2.out.size (.cells #[.string x.m, .int .i64 x.k, .int .i64 x.n, .string x.s, .slice y x.len ce] 192)).grown hg (by have := B2.out.size; simp; omega) (fun q hq => (O2.out.lt q hq).1));have cc := G.out _ B3.out;clear ho hg)
     | fail)
    obtain ⟨va', vl', vc', rfl⟩ := Ck O3.out;have O4 := aA (p := w3.ownsRow w.heap.size 192 5 (.slice va' vl' vc') (k + 1) (gL A Y C (k + 1))) (by rw [NX.out]; exact O3.out);clear O3 O2 B2 p0 p1 p2 p3 p4
    go_wp2_with fail
    go_roundw
    case rel => exact ⟨k + 1, va', vl', vc', rfl, by go_num, by omega, O4, B3⟩
    case measure => simp [intOf]; omega
  · obtain rfl : k = n := by omega
    have hl : vl = k := by
     rcases hO.out.2 with ⟨h, h'⟩ | ⟨g, cap, _, h, _⟩
     · simp only [Value.slice.injEq] at h; omega
     · simp only [Value.slice.injEq] at h; omega
    subst hl
    have P := aA (show pJ w0 w vl A (.returned (.slice va vl vc)) wr from ⟨⟨_, _, rfl, fun w3 k3 => by
     have b3 : Below w0.heap.size w0 w3 := (H0.out.trans (hB.out.mono hz0w)).trans (k3.below (fun k h => h.1) (by have := hB.out.size; omega));obtain ⟨a', c', hv, hr⟩ := zS (k3.owns hO.out (fun q hq h => by have := (hO.out.lt q hq).1; omega)) (fun j hj => (HC.out j hj).2.kept b3);simp only [Value.slice.injEq] at hv;obtain ⟨rfl, _, rfl⟩ := hv;exact hr⟩, hB.out⟩)
    go_wp2_with fail
    go_ret;exact P.out
end
section
open Go.RowKit
def nmD (D : List AD) : List ByteArray := D.map (·.m)
end
section
open Go.RowKit
theorem I7 : ∀ x y : List UInt8, decide (Lib.compareBytes x y < 0) = Op.bytesLess x y
 | [], [] => rfl
 | [], _ :: _ => rfl
 | _ :: _, [] => rfl
 | a :: r, b :: t => by
   have ih := I7 r t;unfold Lib.compareBytes Op.bytesLess
   by_cases h : a < b
   · simp [h]
   · by_cases h' : b < a
     · have : (a == b) = false := by rw [beq_eq_false_iff_ne]; rintro rfl; exact h h'
       simp [h, h', this]
     · have : a = b := UInt8.le_antisymm (UInt8.not_lt.1 h') (UInt8.not_lt.1 h)
       subst this;simp [h, ih]
theorem I8 : ∀ x y : List UInt8, decide (Lib.compareBytes x y = 0) = decide (x = y)
 | [], [] => rfl
 | [], _ :: _ => rfl
 | _ :: _, [] => rfl
 | a :: r, b :: t => by
   have ih := I8 r t;unfold Lib.compareBytes
   by_cases h : a < b
   · have : a ≠ b := by rintro rfl; exact absurd h (UInt8.lt_irrefl a)
     simp [h, this]
   · by_cases h' : b < a
     · have : a ≠ b := by rintro rfl; exact h h'
       simp [h, h', this]
     · have : a = b := UInt8.le_antisymm (UInt8.not_lt.1 h') (UInt8.not_lt.1 h)
       subst this;simpa [h] using ih
set_option maxHeartbeats 1000000 in
theorem lA (x : AD) (y : Option Addr) (c : Nat) (s : ByteArray) (w : World) :
 Calls Tryz.prog 234 #[.agg #[.string x.m, .int .i64 x.k, .int .i64 x.n, .string x.s, .slice y x.len c], .string s] w fun e w' => e = .returned (.int .i64 (Lib.compareBytes x.m.data.toList s.data.toList)) /\ Below w.heap.size w w' := by
 have bl : ∀ o, Below w.heap.size w (w.alloc o) := fun o => (Below.refl _ _).alloc (Nat.le_refl _) _
 have BL := aA bl;clear bl
 go_enter Tryz.func234, Tryz.ntmps234
 go_wp2_with fail
 refine (Tryz.strings_Compare _ _ _).mono ?_;rintro e w' ⟨rfl, rfl⟩;have P := aA (BL.out (.cells #[.string x.m, .int .i64 x.k, .int .i64 x.n, .string x.s, .slice y x.len c] 67))
 go_wp2_with fail
 go_ret;exact ⟨rfl, P.out⟩
theorem rising_nm {A : Nat -> AD} {n : Nat} (hR : RiseA A n) : bV lsS (nmD (twsA A n)) := by
 have : nmD (twsA A n) = (List.range n).map (fun j => (A j).m) := by simp [nmD, twsA, twA]
 rw [this];unfold bV;rw [List.pairwise_map];exact List.Pairwise.imp_of_mem (fun {i j} hi hj h => hR i j h (List.mem_range.1 hj)) List.pairwise_lt_range
theorem nm_at (A : Nat -> AD) {n t : Nat} (ht : t < n) : (nmD (twsA A n))[t]? = some (A t).m := by
 have : nmD (twsA A n) = (List.range n).map (fun j => (A j).m) := by simp [nmD, twsA, twA]
 rw [this, List.getElem?_map, List.getElem?_range ht]; rfl
set_option maxRecDepth 100000 in
set_option maxHeartbeats 4000000 in
theorem uX (a : Option Addr) (c : Nat) (f : Value) (x : ByteArray) (w : World) :
 Calls Tryz.prog 233 #[.slice a 0 c, .string x, f] w fun e w' => e = .returned (.tuple #[.int .i64 (0 : Nat), .bool false]) /\ w' = w := by
 go_enter Tryz.func233, Tryz.ntmps233
 go_wp2
 go_loop [9, 10] (fun s7 s8 => s7 = .int .i64 0 /\ s8 = .int .i64 0) (fun _ _ => 0)
 case atStart => exact ⟨rfl, rfl⟩
 case round =>
  obtain ⟨rfl, rfl⟩ := hrel
  go_wp2
  go_ret2;exact ⟨rfl, rfl⟩
set_option maxRecDepth 100000 in
set_option maxHeartbeats 4000000 in
theorem uW (b off : Nat) (n c : Nat) (A : Nat -> AD) (x : ByteArray) (hn : n <= 1000) (hR : RiseA A n) (w : World) (h : ∀ j, j < n -> ∃ y c, gN w b (off + j * 5) (A j) y c) :
 Calls Tryz.prog 233 #[.slice (some ⟨b, off, none⟩) n c, .string x, .func (.func 234) #[] #[]] w fun e w' =>
  e = .returned (.tuple #[.int .i64 (pos lsS (nmD (twsA A n)) x : Nat), .bool (has (nmD (twsA A n)) x)]) /\ Below w.heap.size w w' := by
 have hr := rising_nm hR;have hl : (nmD (twsA A n)).length = n := by simp [nmD, twsA]
 have hat : ∀ t, t < n -> (nmD (twsA A n))[t]? = some (A t).m := fun t ht => nm_at A ht
 generalize nmD (twsA A n) = ks at hr hl hat;have hS := qS gT hr x;rw [hl] at hS;obtain ⟨I, hI⟩ : ∃ I, pos lsS ks x = I := ⟨_, rfl⟩;obtain ⟨B, hB⟩ : ∃ B, B = has ks x := ⟨_, rfl⟩;have hIn : I <= n := by rw [<- hI, <- hl]; exact rF _ _
 rw [hI] at hS;rw [hI, <- hB];have HE := aA (p := I < n -> decide ((A I).m = x) = B) (fun hy => by rw [hB, uD gT hr hI (hat I hy)]);have HN := aA (p := n <= I -> false = B) (fun h => by rw [hB]; exact (rU gT hr hI (by omega)).symm);have HG := aA (p := ∀ t, t < n -> ks.getD t x = (A t).m) (fun t ht => by rw [List.getD_eq_getElem?_getD, hat t ht]; rfl);have HS := aA hS;have HC := aA h;clear hS hI hB hr hl hat h hR
 go_enter Tryz.func233, Tryz.ntmps233
 go_wp2_with fail
 go_loopg [9, 10] n (fun g s7 s8 wr => ∃ lo hi : Nat, s7 = .int .i64 lo /\ s8 = .int .i64 hi /\ lo <= hi /\ hi <= n /\ hi - lo <= g /\ Hid (Below w.heap.size w wr) /\ Hid (Lib.bsGo (fun t => lsS (ks.getD t x) x) g lo hi = I))
 case atStart => exact ⟨0, n, rfl, rfl, Nat.zero_le _, Nat.le_refl _, by omega, aA (Below.refl _ _), HS⟩
 case round =>
  obtain ⟨lo, hi, rfl, rfl, hlh, hin, hg, hBl, hb⟩ := hrel
  by_cases hlt : lo < hi
  · obtain ⟨y, cy, h50⟩ := HC.out ((lo + hi) / 2) (by omega)
    have h5 := h50.kept hBl.out;obtain ⟨g', rfl⟩ : ∃ g', gk = g' + 1 := ⟨gk - 1, by omega⟩;have hb1 := hb.out;have hgt := HG.out ((lo + hi) / 2) (by omega);clear hb h50;simp only [Lib.bsGo, hlt, if_true] at hb1;obtain ⟨z, hz⟩ : ∃ z, A ((lo + hi) / 2) = z := ⟨_, rfl⟩;rw [hz] at h5 hgt;simp only [hgt] at hb1;have hcb := I7 z.m.data.toList x.data.toList;rw [<- Lib.toList_data, <- Lib.toList_data, show Op.bytesLess z.m.toList x.toList = lsS z.m x from rfl, Lib.toList_data, Lib.toList_data] at hcb;have CN := aA (fun w' => lA z y cy x w');obtain ⟨d0, d1, d2, d3, d4⟩ := h5;have hsz := hBl.out.size;clear hz hgt;cases hyx : lsS z.m x <;> simp only [hyx, if_true, Bool.false_eq_true, if_false] at hb1 hcb
    · have HB := aA hb1
      clear hb1 hyx
      go_wp2_with fail
      refine (CN.out _).mono ?_;rintro e w2 ⟨rfl, hb2⟩;have B2 := aA (hBl.out.trans (hb2.mono hsz));clear hb2
      go_wp2_with fail
      go_roundg ((lo + hi) / 2 - lo)
      case measure => omega
      case rel => exact ⟨lo, (lo + hi) / 2, rfl, by rw [show ((lo : Int) + (hi : Int)) / 2 = (((lo + hi) / 2 : Nat) : Int) by omega], by omega, by omega, Nat.le_refl _, B2, aA (by rw [<- HB.out]; exact Lib.bsGo_fuel _ _ _ _ _ (Nat.le_refl _) (by omega))⟩
    · have HB := aA hb1
      clear hb1 hyx
      go_wp2_with fail
      refine (CN.out _).mono ?_;rintro e w2 ⟨rfl, hb2⟩;have B2 := aA (hBl.out.trans (hb2.mono hsz));clear hb2
      go_wp2_with fail
      go_roundg (hi - ((lo + hi) / 2 + 1))
      case measure => omega
      case rel => exact ⟨(lo + hi) / 2 + 1, hi, by rw [show ((lo : Int) + (hi : Int)) / 2 + 1 = (((lo + hi) / 2 + 1 : Nat) : Int) by omega], rfl, by omega, hin, Nat.le_refl _, B2, aA (by rw [<- HB.out]; exact Lib.bsGo_fuel _ _ _ _ _ (Nat.le_refl _) (by omega))⟩
  · obtain rfl : hi = lo := by omega
    obtain rfl : hi = I := by
     rw [<- hb.out];cases gk <;> simp [Lib.bsGo]
    clear hb HS
    by_cases hn : hi < n
    · obtain ⟨y, cy, h50⟩ := HC.out hi hn
      have h5 := h50.kept hBl.out;have hBx := HE.out hn;obtain ⟨z, hz⟩ : ∃ z, A hi = z := ⟨_, rfl⟩;rw [hz] at h5 hBx;have hcb := I8 z.m.data.toList x.data.toList
      rw [show decide (z.m.data.toList = x.data.toList) = decide (z.m = x) from by
       by_cases hq : z.m = x
       · simp [hq]
       · rw [decide_eq_false hq]; exact decide_eq_false (fun h => hq (sH (by rw [Lib.toList_data, Lib.toList_data]; exact h))), hBx, show decide (Lib.compareBytes z.m.data.toList x.data.toList = 0) = (Lib.compareBytes z.m.data.toList x.data.toList == 0) from rfl] at hcb
      have CN := aA (fun w' => lA z y cy x w');obtain ⟨d0, d1, d2, d3, d4⟩ := h5;have hsz := hBl.out.size;clear HE HN HC HG hz hBx h50
      go_wp2_with fail
      refine (CN.out _).mono ?_;rintro e w2 ⟨rfl, hb2⟩;have B2 := aA (hBl.out.trans (hb2.mono hsz));clear hb2
      go_wp2_with fail
      go_ret2;exact ⟨rfl, B2.out⟩
    · have HB := HN.out (by omega)
      subst HB;clear HE HN HC HG
      go_wp2_with fail
      go_ret2;exact ⟨rfl, hBl.out⟩
theorem xO (a : Option Addr) (n c : Nat) (A : Nat -> AD) (x : ByteArray) (hn : n <= 1000) (hR : RiseA A n) (w : World) (h : ReadsA w a n A) :
 Calls Tryz.prog 233 #[.slice a n c, .string x, .func (.func 234) #[] #[]] w fun e w' =>
  e = .returned (.tuple #[.int .i64 (pos lsS (nmD (twsA A n)) x : Nat), .bool (has (nmD (twsA A n)) x)]) /\ Below w.heap.size w w' := by
 rcases h.2 with rfl | ⟨b, off, rfl, hc⟩
 · exact (uX a c _ x w).mono fun e w' ⟨he, hw⟩ => ⟨he, by rw [hw]; exact Below.refl _ _⟩
 · exact uW b off n c A x hn hR w (fun j hj => by obtain ⟨y, c, h, _⟩ := hc j hj; exact ⟨y, c, h⟩)
def Bw (w : World) (A : Nat -> AD) (n : Nat) (x : ByteArray) (e : Ending) (w' : World) : Prop :=
 (if has (nmD (twsA A n)) x = true then ∃ v a c, pos lsS (nmD (twsA A n)) x < n /\ A (pos lsS (nmD (twsA A n)) x) = v /\ e = .returned (.tuple #[.agg #[.int .i64 v.k, .int .i64 (twN v.k v.n), .string (twS v.k v.s), .slice a (twL v.k v.len) c], .bool true]) /\ gG w' a (twL v.k v.len) v.z
  else e = .returned (.tuple #[.agg #[.int .i64 0, .int .i64 0, .string ⟨#[]⟩, .slice none 0 0], .bool false])) /\ Below w.heap.size w w'
set_option maxRecDepth 100000 in
set_option maxHeartbeats 4000000 in
theorem getL_any (a : Option Addr) (n c : Nat) (A : Nat -> AD) (x : ByteArray) (hn : n <= 1000) (hl : ∀ j, j < n -> (A j).len <= 1000000) (hR : RiseA A n) (w : World) (h : ReadsA w a n A) :
 Calls Tryz.prog 220 #[.slice a n c, .string x] w (Bw w A n x) := by
 have BL : ∀ o, Below w.heap.size w (w.alloc o) := fun o => (Below.refl _ _).alloc (Nat.le_refl _) _
 have SF := aA (fun o => xO a n c A x hn hR (w.alloc o) (h.kept (BL o)));obtain ⟨W, hW⟩ : ∃ W, w.alloc (.cells #[.int .i64 0, .int .i64 0, .string ⟨#[]⟩, .slice none 0 0] 53) = W := ⟨_, rfl⟩;have hWb : Below w.heap.size w W := by rw [<- hW]; exact BL _
 have hWs : W.heap.size = w.heap.size + 1 := by rw [<- hW]; simp
 have hW4 : W.heap[w.heap.size]? = some (.cells #[.int .i64 0, .int .i64 0, .string ⟨#[]⟩, .slice none 0 0] 53 (0, 0)) := by rw [<- hW]; exact heap_alloc_new w _
 have HW := aA hW;have HX := aA (And.intro hWb hW4);have RA := aA h;have HLn := aA hl;have hrn := rising_nm hR;have hnl : (nmD (twsA A n)).length = n := by simp [nmD, twsA]
 have HRN := aA (And.intro hrn hnl);clear hWb hW4 hW h hl hR BL hrn hnl
 by_cases hh : has (nmD (twsA A n)) x = true
 · have hp : pos lsS (nmD (twsA A n)) x < n := by
    have := (gC gT HRN.out.1).1 ((kW _ _).1 hh);have := (List.getElem?_eq_some_iff.1 this).1
    rwa [HRN.out.2] at this
   rw [hh] at SF;have HH := aA hh;obtain ⟨I, hI⟩ : ∃ I, pos lsS (nmD (twsA A n)) x = I := ⟨_, rfl⟩;obtain ⟨v, hv⟩ : ∃ v, A I = v := ⟨_, rfl⟩;rw [hI] at SF hp
   have GP := aA (p := ∀ a' c' w', gG w' a' (twL v.k v.len) v.z -> Below w.heap.size w w' -> Bw w A n x (.returned (.tuple #[.agg #[.int .i64 v.k, .int .i64 (twN v.k v.n), .string (twS v.k v.s), .slice a' (twL v.k v.len) c'], .bool true])) w') (fun a' c' w' hr hb => ⟨by
    rw [if_pos HH.out, hI];exact ⟨v, a', c', hp, hv, rfl, hr⟩, hb⟩)
   obtain ⟨b, off, rfl, hc⟩ := RA.out.2.resolve_left (by omega);obtain ⟨y, cy, h5, hry⟩ := hc I hp;have hlv := HLn.out I hp;rw [hv] at h5 hry hlv;have H5 := aA (And.intro h5 hry);clear hc hv h5 hry hI hh
   go_enter Tryz.func220, Tryz.ntmps220
   go_wp2_with fail
   refine (SF.out _).mono ?_;rw [HW.out];rintro e w2 ⟨rfl, hb2⟩;have B2 := aA (HX.out.1.trans (hb2.mono HX.out.1.size));have V2 := aA ((hb2.block w.heap.size (by omega)).trans HX.out.2);have hz2 := hb2.size;obtain ⟨d0, d1, d2, d3, d4⟩ := H5.out.1.kept B2.out;have TW := aA (Ed v.k v.n v.s y v.len cy v.z hlv w2 (H5.out.2.kept B2.out));clear hb2
   go_wp2_with fail
   refine TW.out.mono ?_;rintro e w3 ⟨⟨a3, c3, rfl, hn3, hr3⟩, hb3⟩;have B3 := aA (B2.out.trans (hb3.mono (by omega)));have V3 := (hb3.block w.heap.size (by omega)).trans V2.out;obtain ⟨⟨c0, c1, c2, c3'⟩, ⟨f0, f1, f2, f3⟩⟩ := aK V3;have R3 := aA (And.intro (hr3 w3 (aG.refl _ _)) hn3);clear hb3 V3 hr3 hn3 d0 d1 d2 d3 d4
   go_wp2_with fail
   have hb4 := aA (lP B3.out (Nat.le_refl _) (.int .i64 v.k) (.int .i64 (twN v.k v.n)) (.string (twS v.k v.s)) (.slice a3 (twL v.k v.len) c3));have hk4 := aA (R3.out.1.keptS (uC w3 w.heap.size (.int .i64 v.k) (.int .i64 (twN v.k v.n)) (.string (twS v.k v.s)) (.slice a3 (twL v.k v.len) c3)) (fun q hq h => by have := R3.out.2 q hq; omega));exact bodyPost_ret (v := .tuple #[.agg #[.int .i64 v.k, .int .i64 (twN v.k v.n), .string (twS v.k v.s), .slice a3 (twL v.k v.len) c3], .bool true]) (by simp [results, Tryz.results220, go_sem, *]) rfl (GP.out _ _ _ hk4.out hb4.out)
 · have hh' : has (nmD (twsA A n)) x = false := by simpa using hh
   rw [hh'] at SF;have HH := aA hh;clear hh hh'
   go_enter Tryz.func220, Tryz.ntmps220
   go_wp2_with fail
   refine (SF.out _).mono ?_;rw [HW.out];rintro e w2 ⟨rfl, hb2⟩;have B2 := aA (HX.out.1.trans (hb2.mono HX.out.1.size));have V2 := (hb2.block w.heap.size (by omega)).trans HX.out.2;obtain ⟨⟨c0, c1, c2, c3⟩, ⟨f0, f1, f2, f3⟩⟩ := aK V2;clear hb2 V2
   go_wp2_with fail
   have hb4 := aA (lP B2.out (Nat.le_refl _) (.int .i64 0) (.int .i64 0) (.string ⟨#[]⟩) (.slice none 0 0));exact bodyPost_ret (v := .tuple #[.agg #[.int .i64 0, .int .i64 0, .string ⟨#[]⟩, .slice none 0 0], .bool false]) (by simp [results, Tryz.results220, go_sem, *]) rfl ⟨by rw [if_neg HH.out], hb4.out⟩
end
section
open Go.RowKit
def Gp (n : Nat) (A : Nat -> AD) : RD := ⟨⟨#[107]⟩, 0, 0, 0, ⟨#[47, 97]⟩, n, A⟩
def goodL (n : Nat) (A : Nat -> AD) : Bool := tB n A && decide (AC (Gp n A) = 0)
theorem Fp {n : Nat} {A : Nat -> AD} (h : tB n A = true) : n <= 40 /\ ∀ j, j < n -> Je (A j) := by
 unfold tB mU at h;simp only [Bool.and_eq_true, decide_eq_true_eq, List.all_eq_true] at h;obtain ⟨h3, h4⟩ := h;refine ⟨h3, fun j hj => ?_⟩;have := h4 (A j) (by unfold dF; exact List.mem_map.2 ⟨j, List.mem_range.2 (by omega), by rw [Nat.zero_add]⟩);unfold Fs at this;simp only [Bool.and_eq_true, decide_eq_true_eq] at this;unfold Je;omega
set_option maxRecDepth 100000 in
set_option maxHeartbeats 2000000 in
theorem good_any (a : Option Addr) (n c : Nat) (A : Nat -> AD) (hS : ∀ j, j < n -> Ja (A j)) (w : World) (h : ReadsA w a n A) :
 Calls Tryz.prog 26 #[.slice a n c] w fun e w' => e = .returned (.bool (goodL n A)) /\ Below w.heap.size w w' := by
 have FE := aA (vV a n c A hS w h);have R := aA h;clear h hS;unfold goodL
 by_cases hf : tB n A = false
 · rw [hf] at FE |-
   go_enter Tryz.func26, Tryz.ntmps26
   go_wp2_with fail
   refine FE.out.mono ?_;rintro e w2 ⟨rfl, hb⟩;have P := aA hb;clear hb
   go_wp2_with fail
   go_ret;exact ⟨rfl, P.out⟩
 · have hf' : tB n A = true := by simpa using hf
   obtain ⟨hn, hA⟩ := Fp hf';rw [hf'] at FE |-
   have HA := aA hA;have XC := aA (fun a c w h => zJ (Gp n A) a c (by show (1 : Nat) <= 1000; omega) (by show (2 : Nat) <= 1000; omega) (fun j hj => by obtain ⟨h1, h2, _⟩ := HA.out j hj; show (A j).m.size <= 1000 /\ (A j).s.size <= 1000; omega) w h);obtain ⟨E, hE⟩ : ∃ E, AC (Gp n A) = E := ⟨_, rfl⟩;rw [hE] at XC |-
   unfold Gp at XC;simp only at XC;clear hf hf' hA hE
   by_cases h0 : E = 0
   · subst h0
     go_enter Tryz.func26, Tryz.ntmps26
     go_wp2_with fail
     refine FE.out.mono ?_;rintro e w2 ⟨rfl, hb⟩;have B2 := aA hb;clear hb
     go_wp2_with fail
     refine (pO a n c A (by omega) w2 w2 (R.out.kept B2.out) (Below.refl _ _)).mono ?_;rintro e w3 ⟨⟨a3, c3, rfl, hr⟩, hb⟩;have R3 := aA (hr w3 (aG.refl _ _));have B3 := aA (B2.out.trans (hb.mono B2.out.size));clear hr hb
     go_wp2_with fail
     refine (XC.out _ _ _ R3.out).mono ?_;rintro e w4 ⟨rfl, hb⟩;have P := aA (B3.out.trans (hb.mono B3.out.size));clear hb
     go_wp2_with fail
     go_ret;exact ⟨rfl, P.out⟩
   · rw [decide_eq_false h0]
     have h0' : (E == 0) = false := by simpa using h0
     clear h0
     go_enter Tryz.func26, Tryz.ntmps26
     go_wp2_with fail
     refine FE.out.mono ?_;rintro e w2 ⟨rfl, hb⟩;have B2 := aA hb;clear hb
     go_wp2_with fail
     refine (pO a n c A (by omega) w2 w2 (R.out.kept B2.out) (Below.refl _ _)).mono ?_;rintro e w3 ⟨⟨a3, c3, rfl, hr⟩, hb⟩;have R3 := aA (hr w3 (aG.refl _ _));have B3 := aA (B2.out.trans (hb.mono B2.out.size));clear hr hb
     go_wp2_with fail
     refine (XC.out _ _ _ R3.out).mono ?_;rintro e w4 ⟨rfl, hb⟩;have P := aA (B3.out.trans (hb.mono B3.out.size));clear hb
     go_wp2_with fail
     go_ret;exact ⟨rfl, P.out⟩
end
section
open Go.RowKit
end
section
open Go.RowKit Go.ChangeShapes Go.WideShapes Go.Deep
end
end
end Go.Proofs.YtapcjnoaofmmiaaGreatDoor.Wr
namespace Go.Proofs.YtapcjnoaofmmiaaGreatDoor
section
open Go.RowKit
structure FZ (A : Nat -> Wr.AD) (n : Nat) (g : ByteArray -> Option Int) : Prop where
 yes : ∀ j, j < n -> g (A j).m = if (A j).k = 1 then some (A j).n else none
 no : ∀ x, (∀ j, j < n -> (A j).m ≠ x) -> g x = none
 fit : ∀ x v, g x = some v -> bE v
set_option maxHeartbeats 8000000 in
theorem zZ (o : ByteArray) (a b : Int) (ha : bE a) (hb : bE b) (h4 : jT o = true) (w : World) : Calls Tryz.prog 199 #[.string o, .int .i64 a, .int .i64 b] w fun e w' => e = .returned (.tuple #[.int .i64 ((nI o a b).getD 0), .bool (nI o a b).isSome]) /\ w = w' := by
 have A1 := aA (wQ a b w ha hb);have A2 := aA (wN a b w ha hb);have A3 := aA (D7 a b w ha hb);unfold jT at h4;unfold nI;cases h1 : (o.data.toList == [43]) with
 | true =>
   have g1 := bH h1;rw [if_pos rfl];simp only [Option.getD_some, Option.isSome_some];clear h1 h4
   go_enter Tryz.func199, Tryz.ntmps199
   go_wp2_with fail
   refine A1.out.mono ?_;rintro e w1 ⟨rfl, rfl⟩
   go_wp2_with fail
   go_ret2;exact ⟨rfl, rfl⟩
 | false =>
   have g1 := aE h1;rw [if_neg (by decide)];cases h2 : (o.data.toList == [45]) with
   | true =>
     have g2 := bH h2;rw [if_pos rfl];simp only [Option.getD_some, Option.isSome_some];clear h1 h4 h2
     go_enter Tryz.func199, Tryz.ntmps199
     go_wp2_with fail
     refine A2.out.mono ?_;rintro e w1 ⟨rfl, rfl⟩
     go_wp2_with fail
     go_ret2;exact ⟨rfl, rfl⟩
   | false =>
     have g2 := aE h2;rw [if_neg (by decide)];cases h3 : (o.data.toList == [42]) with
     | true =>
       have g3 := bH h3;rw [if_pos rfl];simp only [Option.getD_some, Option.isSome_some];clear h1 h4 h2 h3
       go_enter Tryz.func199, Tryz.ntmps199
       go_wp2_with fail
       refine A3.out.mono ?_;rintro e w1 ⟨rfl, rfl⟩
       go_wp2_with fail
       go_ret2;exact ⟨rfl, rfl⟩
     | false =>
       have g3 := aE h3;rw [if_neg (by decide)];cases h5 : (o.data.toList == [47]) with
       | true =>
         have g4 := bH h5;rw [if_pos rfl]
         by_cases hz : b = 0
         · subst hz
           have A4 := aA (wP a w);rw [if_pos rfl];simp only [Option.getD_none, Option.isSome_none];clear h1 h4 h2 h3 h5
           go_enter Tryz.func199, Tryz.ntmps199
           go_wp2_with fail
           refine A4.out.mono ?_;rintro e w1 ⟨rfl, rfl⟩
           go_wp2_with fail
           go_ret2;exact ⟨rfl, rfl⟩
         · have A4 := aA (Ea a b w ha hb hz)
           rw [if_neg hz];simp only [Option.getD_some, Option.isSome_some];clear h1 h4 h2 h3 h5 hz
           go_enter Tryz.func199, Tryz.ntmps199
           go_wp2_with fail
           refine A4.out.mono ?_;rintro e w1 ⟨rfl, rfl⟩
           go_wp2_with fail
           go_ret2;exact ⟨rfl, rfl⟩
       | false =>
         have g4 := aE h5;rw [if_neg (by decide)];have g5 := bH (o := o) (x := [37]) (by rw [h1, h2, h3, h5] at h4; simpa using h4)
         by_cases hz : b = 0
         · subst hz
           have A4 := aA (wO a w);rw [if_pos rfl];simp only [Option.getD_none, Option.isSome_none];clear h1 h4 h2 h3 h5
           go_enter Tryz.func199, Tryz.ntmps199
           go_wp2_with fail
           refine A4.out.mono ?_;rintro e w1 ⟨rfl, rfl⟩
           go_wp2_with fail
           go_ret2;exact ⟨rfl, rfl⟩
         · have A4 := aA (D9 a b w ha hb hz)
           rw [if_neg hz];simp only [Option.getD_some, Option.isSome_some];clear h1 h4 h2 h3 h5 hz
           go_enter Tryz.func199, Tryz.ntmps199
           go_wp2_with fail
           refine A4.out.mono ?_;rintro e w1 ⟨rfl, rfl⟩
           go_wp2_with fail
           go_ret2;exact ⟨rfl, rfl⟩
theorem Do {A : Nat -> Wr.AD} {n : Nat} {g : ByteArray -> Option Int} (hg : FZ A n g) (hR : Wr.RiseA A n) (x : ByteArray) :
 (has (Wr.nmD (Wr.twsA A n)) x = true -> pos lsS (Wr.nmD (Wr.twsA A n)) x < n -> g x = if (A (pos lsS (Wr.nmD (Wr.twsA A n)) x)).k = 1 then some (A (pos lsS (Wr.nmD (Wr.twsA A n)) x)).n else none) /\
 (¬ has (Wr.nmD (Wr.twsA A n)) x = true -> g x = none) := by
 have hr := Wr.rising_nm hR;refine ⟨fun h hp => ?_, fun h => hg.no x fun j hj e => h ?_⟩
 · have h1 := (gC gT hr).1 ((kW _ _).1 h)
   rw [Wr.nm_at A hp] at h1;have h2 := hg.yes _ hp;rw [Option.some.inj h1] at h2;exact h2
 · rw [kW]
   exact e ▸ List.mem_of_getElem? (Wr.nm_at A hj)
set_option maxHeartbeats 8000000 in
theorem Ac {A : Nat -> Wr.AD} {n : Nat} {g : ByteArray -> Option Int} (hg : FZ A n g) (hR : Wr.RiseA A n) (hn : n <= 1000) (hl : ∀ j, j < n -> (A j).len <= 1000000) (a : Option Addr) (c : Nat) (x : ByteArray) (w : World) (h : Wr.ReadsA w a n A) :
 Calls Tryz.prog 197 #[.slice a n c, .string x] w fun e w' => e = .returned (.tuple #[.int .i64 ((g x).getD 0), .bool (g x).isSome]) /\ Below w.heap.size w w' := by
 have C := aA (Wr.getL_any a n c A x hn hl hR w h);obtain ⟨F1, F2⟩ := Do hg hR x
 by_cases hh : has (Wr.nmD (Wr.twsA A n)) x = true
 · have C1 := aA (p := Calls Tryz.prog 220 #[.slice a n c, .string x] w fun e w' => (∃ (v : Wr.AD) (a : Option Addr) (c : Nat), g x = (if v.k = 1 then some v.n else none) /\ e = .returned (.tuple #[.agg #[.int .i64 v.k, .int .i64 (Wr.twN v.k v.n), .string (Wr.twS v.k v.s), .slice a (Wr.twL v.k v.len) c], .bool true])) /\ Below w.heap.size w w') (C.out.mono fun e w' ⟨he, hb⟩ => by
    rw [if_pos hh] at he;obtain ⟨v, a2, c2, hp, rfl, he, -⟩ := he;exact ⟨⟨_, a2, c2, F1 hh hp, he⟩, hb⟩)
   clear F1 F2 C h hh
   go_enter Tryz.func197, Tryz.ntmps197
   go_wp2_with fail
   refine C1.out.mono ?_;rintro e w1 ⟨⟨v, a2, c2, hv, rfl⟩, hb⟩;have B1 := aA hb;have HV := aA hv;have tw1 : v.k = 1 -> Wr.twN v.k v.n = v.n := fun h => by rw [h]; rfl
   obtain ⟨N, hN⟩ : ∃ N, Wr.twN v.k v.n = N := ⟨_, rfl⟩;obtain ⟨Z, hZ⟩ : ∃ Z, Wr.twS v.k v.s = Z := ⟨_, rfl⟩;obtain ⟨L, hL⟩ : ∃ L, Wr.twL v.k v.len = L := ⟨_, rfl⟩;rw [hN] at tw1;rw [hN, hZ, hL];obtain ⟨k, hk⟩ : ∃ k, v.k = k := ⟨_, rfl⟩;rw [hk] at HV tw1 |-
   clear hb hv hN hZ hL hk C1
   by_cases h1 : k = 1
   · have TW := aA (tw1 h1)
     subst h1;have HG := aA (show g x = some v.n by rw [HV.out, if_pos rfl]);clear HV tw1;have B2 := aA (B1.out.trans (((Below.refl w1.heap.size w1).alloc (Nat.le_refl _) (.cells #[.int .i64 1, .int .i64 N, .string Z, .slice a2 L c2] 53)).mono B1.out.size))
     go_wp2_with fail
     go_ret2;exact ⟨by rw [HG.out, TW.out]; rfl, B2.out⟩
   · have HG := aA (show g x = none by rw [HV.out, if_neg h1])
     have e1 : (k == 1) = false := by simpa using h1
     have e2 : (k != 1) = true := by simpa using h1
     clear HV tw1;have B2 := aA (B1.out.trans (((Below.refl w1.heap.size w1).alloc (Nat.le_refl _) (.cells #[.int .i64 k, .int .i64 N, .string Z, .slice a2 L c2] 53)).mono B1.out.size))
     go_wp2_with fail
     go_ret2;rw [HG.out];exact ⟨rfl, B2.out⟩
 · have HG := aA (F2 hh)
   have C1 := aA (p := Calls Tryz.prog 220 #[.slice a n c, .string x] w fun e w' => e = .returned (.tuple #[.agg #[.int .i64 0, .int .i64 0, .string ⟨#[]⟩, .slice none 0 0], .bool false]) /\ Below w.heap.size w w') (C.out.mono fun e w' ⟨he, hb⟩ => by
    rw [if_neg hh] at he;exact ⟨he, hb⟩)
   clear F1 F2 C h hh
   go_enter Tryz.func197, Tryz.ntmps197
   go_wp2_with fail
   refine C1.out.mono ?_;rintro e w1 ⟨rfl, hb⟩;have B2 := aA (hb.trans (((Below.refl w1.heap.size w1).alloc (Nat.le_refl _) (.cells #[.int .i64 0, .int .i64 0, .string ⟨#[]⟩, .slice none 0 0] 53)).mono hb.size));clear hb C1
   go_wp2_with fail
   go_ret2;rw [HG.out];exact ⟨rfl, B2.out⟩
structure fO (A : Nat -> Wr.AD) (n : Nat) (g : ByteArray -> Option Int) : Prop where
 ok : FZ A n g
 ri : Wr.RiseA A n
 few : n <= 1000
 sm : ∀ j, j < n -> (A j).len <= 1000000
def PEv (A : Nat -> Wr.AD) (n : Nat) (g : ByteArray -> Option Int) (t : TN) : Prop := ∀ (G : Nat -> Prop) (w : World) (a : Option Addr) (c : Nat) (y : Option Addr) (cy : Nat), aH G w a t.ks -> Wr.ReadsA w y n A ->
 Calls Tryz.prog 175 #[bU t.op t.nm t.n a t.ks.len c, .slice y n cy] w fun e w' => e = .returned (.tuple #[.int .i64 ((evT g t).getD 0), .bool (evT g t).isSome]) /\ Below w.heap.size w w'
variable {A : Nat -> Wr.AD} {n : Nat} {g : ByteArray -> Option Int}
set_option maxHeartbeats 4000000 in
theorem Gu (o m : ByteArray) (v : Int) (h1 : bK o = true) : PEv A n g ⟨o, m, v, .nil⟩ := by
 intro G w a c y cy hr hA;rw [Fw g h1];clear hr hA;dsimp only;have g1 := bH h1;unfold lE at g1;have NB := aA (heap_alloc_new w (ndG o m v a F.nil.len c));have B0 := aA ((Below.refl w.heap.size w).alloc (Nat.le_refl _) (ndG o m v a F.nil.len c));clear h1
 go_enter Tryz.func175, Tryz.ntmps175
 go_wp2_with fail
 go_ret2;exact ⟨rfl, B0.out⟩
set_option maxHeartbeats 4000000 in
theorem Eu (U : fO A n g) (o m : ByteArray) (v : Int) (h1 : bK o = false) (h2 : bC o = true) : PEv A n g ⟨o, m, v, .nil⟩ := by
 intro G w a c y cy hr hA;rw [Bp g h1 h2];dsimp only;have g1 := aE h1;have g2 := bH h2;unfold lE at g1;unfold iR at g2;have B0 := aA ((Below.refl w.heap.size w).alloc (Nat.le_refl _) (ndG o m v a F.nil.len c));have C := aA (Ac U.ok U.ri U.few U.sm y cy m (w.alloc (ndG o m v a F.nil.len c)) (hA.kept B0.out));obtain ⟨q, hq⟩ : ∃ q, g m = q := ⟨_, rfl⟩;rw [hq] at C |-
 clear h1 h2 hr hA hq
 go_enter Tryz.func175, Tryz.ntmps175
 go_wp2_with fail
 refine C.out.mono ?_;rintro e w1 ⟨rfl, hb⟩;have B1 := aA (B0.out.trans (hb.mono B0.out.size));clear hb
 go_wp2_with fail
 go_ret2;exact ⟨rfl, B1.out⟩
set_option maxHeartbeats 8000000 in
theorem Gv (o m : ByteArray) (v : Int) (t : TN) (h1 : bK o = false) (h2 : bC o = false) (h3 : eO o = true) (hi : ∀ x, evT g t = some x -> bE x) (ih : PEv A n g t) : PEv A n g ⟨o, m, v, t.f⟩ := by
 intro G w a c y cy hr hA;rw [Fx g t h1 h2 h3];dsimp only at hr |-
 rw [show t.f.len = 1 from rfl];have g1 := aE h1;have g2 := aE h2;have g3 := bH h3;unfold lE at g1;unfold iR at g2;unfold gF at g3;have NB := aA (heap_alloc_new w (ndG o m v a 1 c));have B0 := aA ((Below.refl w.heap.size w).alloc (Nat.le_refl _) (ndG o m v a 1 c));obtain ⟨b, off, a2, c2, ha, hG, hbl, ⟨p0, p1, p2, p3⟩, hr2⟩ := dC (hr.kept B0.out) (show t.f.at 0 = some t from rfl);have C := aA (ih G (w.alloc (ndG o m v a 1 c)) a2 c2 y cy hr2 (hA.kept B0.out));rw [Nat.zero_mul, Nat.add_zero] at p0 p1 p2 p3;subst ha;have SB := aA (fun (x : Int) (h : bE x) (V : World) => wN 0 x V (by unfold bE; omega) h)
 have HI : bE ((evT g t).getD 0) := by
  cases hE : evT g t with
  | none => show bE 0; unfold bE; omega
  | some x => exact hi x hE
 have RS : (Option.map (fun x => cW (0 - x)) (evT g t)).getD 0 = cW (0 - (evT g t).getD 0) /\ (Option.map (fun x => cW (0 - x)) (evT g t)).isSome = (evT g t).isSome := by
  cases evT g t with
  | none => exact ⟨by decide, rfl⟩
  | some x => exact ⟨rfl, rfl⟩
 rw [RS.1, RS.2];obtain ⟨q, hq⟩ : ∃ q, (evT g t).getD 0 = q := ⟨_, rfl⟩;obtain ⟨z, hz⟩ : ∃ z, (evT g t).isSome = z := ⟨_, rfl⟩;rw [hq] at C HI |-
 rw [hz] at C |-
 have S1 := aA (SB.out q HI);rw [Int.zero_sub];clear h1 h2 h3 hr hA ih hr2 hq hz RS HI hi SB
 go_enter Tryz.func175, Tryz.ntmps175
 go_wp2_with fail
 generalize w.alloc (ndG o m v (some ⟨b, off, none⟩) 1 c) = W at NB B0 C hbl p0 p1 p2 p3 |-
 obtain ⟨⟨m0, m1, m2, m3⟩, -⟩ := aK NB.out
 go_wp2_with fail
 refine C.out.mono ?_;rintro e w1 ⟨rfl, hb⟩;have B1 := aA (B0.out.trans (hb.mono B0.out.size));clear hb
 go_wp2_with fail
 refine (S1.out _).mono ?_;rintro e w2 ⟨rfl, rfl⟩
 go_wp2_with fail
 go_ret2;exact ⟨rfl, B1.out⟩
set_option maxHeartbeats 8000000 in
theorem Gt (o m : ByteArray) (v : Int) (t u : TN) (h1 : bK o = false) (h2 : bC o = false) (h3 : eO o = false) (h4 : jT o = true) (hi : ∀ x, evT g t = some x -> bE x) (hj : ∀ x, evT g u = some x -> bE x) (ih : PEv A n g t) (iu : PEv A n g u) : PEv A n g ⟨o, m, v, .cons t.op t.nm t.n t.ks u.f⟩ := by
 intro G w a c y cy hr hA;rw [Fv g t u h1 h2 h3];dsimp only at hr |-
 rw [show (F.cons t.op t.nm t.n t.ks u.f).len = 2 from rfl];have g1 := aE h1;have g2 := aE h2;have g3 := aE h3;unfold lE at g1;unfold iR at g2;unfold gF at g3;have NB := aA (heap_alloc_new w (ndG o m v a 2 c));have B0 := aA ((Below.refl w.heap.size w).alloc (Nat.le_refl _) (ndG o m v a 2 c));obtain ⟨b, off, a2, c2, ha, hG, hbl, ⟨p0, p1, p2, p3⟩, hr2⟩ := dC (hr.kept B0.out) (show (F.cons t.op t.nm t.n t.ks u.f).at 0 = some t from rfl);obtain ⟨b', off', a3, c3, ha', hG', hbl', ⟨q0, q1, q2, q3⟩, hr3⟩ := dC (hr.kept B0.out) (show (F.cons t.op t.nm t.n t.ks u.f).at 1 = some u from rfl);subst ha;cases ha';have C := aA (ih G (w.alloc (ndG o m v (some ⟨b, off, none⟩) 2 c)) a2 c2 y cy hr2 (hA.kept B0.out));have D := aA (fun V (hV : Below (w.alloc (ndG o m v (some ⟨b, off, none⟩) 2 c)).heap.size (w.alloc (ndG o m v (some ⟨b, off, none⟩) 2 c)) V) => iu G V a3 c3 y cy (hr3.kept hV) ((hA.kept B0.out).kept hV));have AP := aA (fun (p q : Int) (hp : bE p) (hq : bE q) (V : World) => zZ o p q hp hq h4 V);rw [Nat.zero_mul, Nat.add_zero] at p0 p1 p2 p3;rw [Nat.one_mul] at q0 q1 q2 q3;clear h1 h2 h3 h4 hr hA ih iu hr2 hr3;cases hT : evT g t with
 | none =>
   rw [hT] at C;simp only [Option.getD_none, Option.isSome_none] at C |-
   clear hT hi hj D AP
   go_enter Tryz.func175, Tryz.ntmps175
   go_wp2_with fail
   generalize w.alloc (ndG o m v (some ⟨b, off, none⟩) 2 c) = W at NB B0 C hbl p0 p1 p2 p3 |-
   obtain ⟨⟨m0, m1, m2, m3⟩, -⟩ := aK NB.out
   go_wp2_with fail
   refine C.out.mono ?_;rintro e w1 ⟨rfl, hb⟩;have B1 := aA (B0.out.trans (hb.mono B0.out.size));clear hb
   go_wp2_with fail
   go_ret2;exact ⟨rfl, B1.out⟩
 | some p =>
   rw [hT] at C;simp only [Option.getD_some, Option.isSome_some] at C;have HP := aA (hi p hT);cases hU : evT g u with
   | none =>
     rw [hU] at D;simp only [Option.getD_none, Option.isSome_none] at D |-
     clear hT hi hj hU AP
     go_enter Tryz.func175, Tryz.ntmps175
     go_wp2_with fail
     generalize w.alloc (ndG o m v (some ⟨b, off, none⟩) 2 c) = W at NB B0 C D hbl hbl' p0 p1 p2 p3 q0 q1 q2 q3 |-
     obtain ⟨⟨m0, m1, m2, m3⟩, -⟩ := aK NB.out
     go_wp2_with fail
     refine C.out.mono ?_;rintro e w1 ⟨rfl, hb⟩;have D1 := aA (D.out w1 hb);have B1 := aA (B0.out.trans (hb.mono B0.out.size));have s0 := (hb.cell hbl').trans q0;have s1 := (hb.cell hbl').trans q1;have s2 := (hb.cell hbl').trans q2;have s3 := (hb.cell hbl').trans q3;have s4 := (hb.cell (aC NB.out)).trans m3;have s5 := (hb.cell (aC NB.out)).trans m0;clear hb p0 p1 p2 p3 q0 q1 q2 q3 m0 m1 m2 m3 C D
     go_wp2_with fail
     refine D1.out.mono ?_;rintro e w2 ⟨rfl, hb⟩;have B2 := aA (B1.out.trans (hb.mono B1.out.size));clear hb
     go_wp2_with fail
     go_ret2;exact ⟨rfl, B2.out⟩
   | some q =>
     rw [hU] at D;simp only [Option.getD_some, Option.isSome_some] at D |-
     have A1 := aA (AP.out p q HP.out (hj q hU));clear hT hi hj hU AP HP
     go_enter Tryz.func175, Tryz.ntmps175
     go_wp2_with fail
     generalize w.alloc (ndG o m v (some ⟨b, off, none⟩) 2 c) = W at NB B0 C D hbl hbl' p0 p1 p2 p3 q0 q1 q2 q3 |-
     obtain ⟨⟨m0, m1, m2, m3⟩, -⟩ := aK NB.out
     go_wp2_with fail
     refine C.out.mono ?_;rintro e w1 ⟨rfl, hb⟩;have D1 := aA (D.out w1 hb);have B1 := aA (B0.out.trans (hb.mono B0.out.size));have s0 := (hb.cell hbl').trans q0;have s1 := (hb.cell hbl').trans q1;have s2 := (hb.cell hbl').trans q2;have s3 := (hb.cell hbl').trans q3;have N1 := aA ((hb.block _ (aC NB.out)).trans NB.out);have s4 := (hb.cell (aC NB.out)).trans m3;have s5 := (hb.cell (aC NB.out)).trans m0;clear hb p0 p1 p2 p3 q0 q1 q2 q3 m0 m1 m2 m3 C D
     go_wp2_with fail
     refine D1.out.mono ?_;rintro e w2 ⟨rfl, hb⟩;have B2 := aA (B1.out.trans (hb.mono B1.out.size));have s6 := (hb.cell (aC N1.out)).trans s5;clear hb s0 s1 s2 s3 s4 s5
     go_wp2_with fail
     refine (A1.out _).mono ?_;rintro e w3 ⟨rfl, rfl⟩
     go_wp2_with fail
     go_ret2;exact ⟨rfl, B2.out⟩
theorem vB (U : fO A n g) (t : TN) (h : OkT t) (hn : dR t.f) : PEv A n g t /\ ∀ x, evT g t = some x -> bE x :=
 kB (P := fun t => PEv A n g t /\ ∀ x, evT g t = some x -> bE x)
  (fun o m v a b d => ⟨Gu o m v a, fun x hx => by rw [Fw g a] at hx; cases hx; unfold bE; omega⟩)
  (fun o m v a b _ => ⟨Eu U o m v a b, fun x hx => by rw [Bp g a b] at hx; exact U.ok.fit _ _ hx⟩)
  (fun o m v t a b c ih => ⟨Gv o m v t a b c ih.2 ih.1, fun x hx => by
   rw [Fx g t a b c, Option.map_eq_some_iff] at hx;obtain ⟨z, _, rfl⟩ := hx;exact jU _⟩)
  (fun o m v t u a b c d ih iu => ⟨Gt o m v t u a b c d ih.2 iu.2 ih.1 iu.1, fun x hx => by
   rw [Fv g t u a b c] at hx
   split at hx
   · rename_i p q hp hq
     exact FQ (ih.2 _ hp) hx
   · cases hx⟩) t h hn
set_option maxHeartbeats 4000000 in
theorem l8 (U : fO A n g) (t : TN) (h : aI t = 0) (hn : dR t.f) (hS : SzF t.f) (G : Nat -> Prop) (w : World) (a : Option Addr) (c : Nat) (y : Option Addr) (cy : Nat) (hr : aH G w a t.ks) (hA : Wr.ReadsA w y n A) :
 Calls Tryz.prog 151 #[bU t.op t.nm t.n a t.ks.len c, .slice y n cy] w fun e w' => e = .returned (.tuple #[.int .i64 ((evT g t).getD 0), .bool (evT g t).isSome]) /\ Below w.heap.size w w' := by
 have B0 := (Below.refl w.heap.size w).alloc (Nat.le_refl _) (ndG t.op t.nm t.n a t.ks.len c);have N0 := heap_alloc_new w (ndG t.op t.nm t.n a t.ks.len c);have R0 := hr.kept B0;have A0 := hA.kept B0;generalize hW : w.alloc (ndG t.op t.nm t.n a t.ks.len c) = W at B0 N0 R0 A0;have HW := aA hW;have HB := aA B0;have CK := aA (fR t G W a c hS R0);rw [h] at CK;have EV := aA (fun V (hV : Below W.heap.size W V) => (vB U t ((bG t).1 h).1 hn).1 G V a c y cy (R0.kept hV) (A0.kept hV));obtain ⟨q, hq⟩ : ∃ q, (evT g t).getD 0 = q := ⟨_, rfl⟩;obtain ⟨z, hz⟩ : ∃ z, (evT g t).isSome = z := ⟨_, rfl⟩;rw [hq, hz] at EV |-
 have HN := aA N0;clear hr hA B0 N0 R0 A0 hW hq hz h;obtain ⟨⟨m0, m1, m2, m3⟩, -⟩ := aK HN.out
 go_enter Tryz.func151, Tryz.ntmps151
 go_upto_region 1 with fail
 rw [HW.out]
 go_wp2_with fail
 refine CK.out.mono ?_;rintro e w1 ⟨rfl, hb⟩;have E1 := aA (EV.out w1 hb);have B1 := aA (HB.out.trans (hb.mono HB.out.size));have N1 := (hb.block _ (aC HN.out)).trans HN.out;clear hb m0 m1 m2 m3 EV CK;obtain ⟨⟨m0, m1, m2, m3⟩, -⟩ := aK N1;clear N1
 go_wp2_with fail
 refine E1.out.mono ?_;rintro e w2 ⟨rfl, hb⟩;have B2 := aA (B1.out.trans (hb.mono B1.out.size));clear hb
 go_wp2_with fail
 go_ret2;exact ⟨rfl, B2.out⟩
def uJ (g : ByteArray -> Option Int) (c : CD) : Bool := match evT g c.a, evT g c.b with | some x, some y => (aO c.op x y).getD false | _, _ => false
theorem BH (g : ByteArray -> Option Int) (c : CD) (r : List CD) : cS g (c :: r) = (uJ g c && cS g r) := rfl
theorem FG (g : ByteArray -> Option Int) (c : CD) : uJ g c = ((evT g c.a).isSome && (evT g c.b).isSome && (aO c.op ((evT g c.a).getD 0) ((evT g c.b).getD 0)).getD false) := by
 unfold uJ;cases evT g c.a with
 | none => rfl
 | some x => cases evT g c.b <;> rfl
structure OkE (t : TN) : Prop where
 c : aI t = 0
 n : dR t.f
 s : SzF t.f
set_option maxHeartbeats 8000000 in
set_option maxRecDepth 100000 in
theorem Aq {A : Nat -> Wr.AD} {n : Nat} {g : ByteArray -> Option Int} (U : fO A n g) (d : CD) (hA : OkE d.a) (hB : OkE d.b) (G : Nat -> Prop) (a1 : Option Addr) (c1 : Nat) (a2 : Option Addr) (c2 : Nat) (y : Option Addr) (cy : Nat) (w : World)
 (r1 : aH G w a1 d.a.ks) (r2 : aH G w a2 d.b.ks) (hy : Wr.ReadsA w y n A) :
 Calls Tryz.prog 150 #[cdV d a1 c1 a2 c2, .slice y n cy] w fun e w' => e = .returned (.bool (uJ g d)) /\ Below w.heap.size w w' := by
 have B0 := (Below.refl w.heap.size w).alloc (Nat.le_refl _) (cdX d a1 c1 a2 c2);have N0 := heap_alloc_new w (cdX d a1 c1 a2 c2);generalize hW : w.alloc (cdX d a1 c1 a2 c2) = W at *;have HW := aA hW;have HB := aA B0;have HN := aA N0;have CA := aA (fun V (hV : Below w.heap.size w V) => l8 U d.a hA.c hA.n hA.s G V a1 c1 y cy (r1.kept hV) (hy.kept hV));have CB := aA (fun V (hV : Below w.heap.size w V) => l8 U d.b hB.c hB.n hB.s G V a2 c2 y cy (r2.kept hV) (hy.kept hV));obtain ⟨va, hva⟩ : ∃ v, evT g d.a = v := ⟨_, rfl⟩;obtain ⟨vb, hvb⟩ : ∃ v, evT g d.b = v := ⟨_, rfl⟩;rw [FG, hva, hvb];rw [hva] at CA;rw [hvb] at CB;obtain ⟨xa, hxa⟩ : ∃ n, va.getD 0 = n := ⟨_, rfl⟩;obtain ⟨xb, hxb⟩ : ∃ n, vb.getD 0 = n := ⟨_, rfl⟩;obtain ⟨za, hza⟩ : ∃ n, va.isSome = n := ⟨_, rfl⟩;obtain ⟨zb, hzb⟩ : ∃ n, vb.isSome = n := ⟨_, rfl⟩;rw [hxa, hza] at CA;rw [hxb, hzb] at CB;have HO := aA (fun V => rG d.op xa xb V);obtain ⟨zo, hzo⟩ : ∃ z, (aO d.op xa xb).getD false = z := ⟨_, rfl⟩;obtain ⟨zs, hzs⟩ : ∃ z, (aO d.op xa xb).isSome = z := ⟨_, rfl⟩;rw [hzo, hzs] at HO;rw [hxa, hza, hxb, hzb, hzo];obtain ⟨r, hr⟩ : ∃ r, (za && zb && zo) = r := ⟨_, rfl⟩;rw [hr];have HR := aA hr;obtain ⟨p0, p1, p2, p3, p4, p5, p6, p7, p8⟩ := jM N0;clear hW B0 N0 r1 r2 hy hva hvb hxa hxb hza hzb hzo hzs hr
 go_enter Tryz.func150, Tryz.ntmps150
 go_upto_region 1 with fail
 rw [show w.alloc (.cells #[.string d.op, .string d.a.op, .string d.a.nm, .int .i64 d.a.n, .slice a1 d.a.ks.len c1, .string d.b.op, .string d.b.nm, .int .i64 d.b.n, .slice a2 d.b.ks.len c2] 98) = W from HW.out]
 go_wp2_with fail
 refine (CA.out W HB.out).mono ?_;rintro e w1 ⟨rfl, hb⟩;have HB1 := aA (HB.out.trans (hb.mono HB.out.size));have N1 := aA ((hb.block _ (aC HN.out)).trans HN.out);clear hb CA p0 p1 p2 p3 p4 p5 p6 p7 p8;obtain ⟨p0, p1, p2, p3, p4, p5, p6, p7, p8⟩ := jM N1.out
 go_wp2_with fail
 refine (CB.out w1 HB1.out).mono ?_;rintro e w2 ⟨rfl, hb⟩;have HB2 := aA (HB1.out.trans (hb.mono HB1.out.size));have N2 := (hb.block _ (aC N1.out)).trans N1.out;clear hb CB p0 p1 p2 p3 p4 p5 p6 p7 p8;obtain ⟨p0, p1, p2, p3, p4, p5, p6, p7, p8⟩ := jM N2;clear N2
 go_wp2_with fail
 refine (HO.out w2).mono ?_;rintro e w3 ⟨rfl, rfl⟩;cases za with
 | false =>
   have TR := aA (show false = r from HR.out)
   go_wp2_with fail
   go_ret;exact ⟨congrArg (fun z => Ending.returned (.bool z)) TR.out, HB2.out⟩
 | true =>
   cases zb with
   | false =>
     have TR := aA (show false = r from HR.out)
     go_wp2_with fail
     go_ret;exact ⟨congrArg (fun z => Ending.returned (.bool z)) TR.out, HB2.out⟩
   | true =>
     have TR := aA (show zo = r from HR.out)
     go_wp2_with fail
     go_ret;exact ⟨congrArg (fun z => Ending.returned (.bool z)) TR.out, HB2.out⟩
end
end Go.Proofs.YtapcjnoaofmmiaaGreatDoor
