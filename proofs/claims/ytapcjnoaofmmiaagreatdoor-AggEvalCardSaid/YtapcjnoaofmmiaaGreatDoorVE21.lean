/-
 No statement: what AggEvalCard needs, of the texts QREval.
-/
import Derived.Test.YtapcjnoaofmmiaaGreatDoorVE20
namespace Go.Proofs.YtapcjnoaofmmiaaGreatDoor
section
open Go.RowKit
structure RW where
 n : Nat
 A : Nat -> Wr.AD
 g : ByteArray -> Option Int
def aS (w : World) (a : Option Addr) (rs : List RW) : Prop := rs = [] \/ ∃ b off, a = some ⟨b, off, none⟩ /\ b < w.heap.size /\ ∀ j r, rs[j]? = some r -> ∃ y cy, w.cell? ⟨b, off + j, none⟩ = some (.slice y r.n cy) /\ Wr.ReadsA w y r.n r.A
abbrev vlV (k n : Int) (a : Option Addr) (l c : Nat) : Value := .agg #[.int .i64 k, .int .i64 n, .string ⟨#[]⟩, .slice a l c]
abbrev vlO (k n : Int) (a : Option Addr) (l c : Nat) : Obj := .cells #[.int .i64 k, .int .i64 n, .string ⟨#[]⟩, .slice a l c] 56
def fP (r : EvR) (w0 : World) (e : Ending) (w' : World) : Prop := Below w0.heap.size w0 w' /\
 match r with
 | .no => e = .returned (.tuple #[vlV 0 0 none 0 0, .bool false])
 | .num n => e = .returned (.tuple #[vlV 1 n none 0 0, .bool true])
 | .list l => ∃ a c, e = .returned (.tuple #[vlV 3 0 a l.length c, .bool true]) /\ (l = [] \/ ∃ b off, a = some ⟨b, off, none⟩ /\ w0.heap.size <= b /\ b < w'.heap.size /\ ∀ j n, l[j]? = some n -> w'.cell? ⟨b, off + j, none⟩ = some (.int .i64 n))
structure EW (G : Nat -> Prop) (w : World) (x : AG) (p : PA) (V : World) : Prop where
 k : KA G w x p V
 o : V.heap[w.heap.size + 1]? = some (vlO 0 0 none 0 0)
theorem EW.step {G : Nat -> Prop} {w V V' : World} {x : AG} {p : PA} (h : EW G w x p V) (hb : Below V.heap.size V V') : EW G w x p V' :=
 ⟨h.k.step hb, (hb.block _ (aC h.o)).trans h.o⟩
theorem qJ {G : Nat -> Prop} {w : World} {x : AG} {p : PA} (hr : aI G w x p) : EW G w x p ((w.alloc (agO x p)).alloc (vlO 0 0 none 0 0)) := by
 have hz : (w.alloc (agO x p)).heap.size = w.heap.size + 1 := World.size_alloc _ _;have n2 := heap_alloc_new (w.alloc (agO x p)) (vlO 0 0 none 0 0);rw [hz] at n2;exact ⟨(GX hr).step ((Below.refl _ _).alloc (Nat.le_refl _) _), n2⟩
theorem EW.put {G : Nat -> Prop} {w V : World} {x : AG} {p : PA} (h : EW G w x p V) (k n : Int) (a : Option Addr) (l c : Nat) :
 Below w.heap.size w ((((V.setCell ⟨w.heap.size + 1, 0, none⟩ (.int .i64 k)).setCell ⟨w.heap.size + 1, 1, none⟩ (.int .i64 n)).setCell ⟨w.heap.size + 1, 2, none⟩ (.string ⟨#[]⟩)).setCell ⟨w.heap.size + 1, 3, none⟩ (.slice a l c)) :=
 h.k.b.trans ((((((aG.refl (· = w.heap.size + 1) V).setCell (p := ⟨w.heap.size + 1, 0, none⟩) (.inl rfl) _).setCell (p := ⟨w.heap.size + 1, 1, none⟩) (.inl rfl) _).setCell (p := ⟨w.heap.size + 1, 2, none⟩) (.inl rfl) _).setCell (p := ⟨w.heap.size + 1, 3, none⟩) (.inl rfl) _).below (fun b hb => by omega) h.k.z)
set_option maxHeartbeats 1000000 in
theorem fZ (n : Int) (w : World) : Calls Tryz.prog 72 #[.int .i64 n] w fun e w' => e = .returned (vlV 1 n none 0 0) /\ Below w.heap.size w w' := by
 go_enter Tryz.func72, Tryz.ntmps72
 go_wp2_with fail
 obtain ⟨⟨y0, y1, y2, y3⟩, -⟩ := aJ (heap_alloc_new w (vlO 1 n none 0 0));exact bodyPost_ret (v := vlV 1 n none 0 0) (by simp [results, Tryz.results72, go_sem, y0, y1, y2, y3]) rfl ⟨rfl, (Below.refl _ _).alloc (Nat.le_refl _) _⟩
theorem Gr (l : List Int) (v : Int) : (dI lsL l v).length <= l.length + 1 := by
 unfold dI
 split
 · omega
 · simp only [List.length_append, List.length_take, List.length_cons, List.length_drop]; omega
structure Fit (s : ES) (k : Nat) : Prop where
 n : 0 <= s.n /\ s.n <= k
 sum : aN s.sum
 best : aN s.best
 by' : aN s.by'
 rise : bQ lsL s.top
 len : s.top.length <= k
theorem Fa : Fit es0 0 := ⟨⟨Int.le_refl _, Int.le_refl _⟩, by unfold aN es0; decide, by unfold aN es0; decide, by unfold aN es0; decide, List.Pairwise.nil, Nat.le_refl _⟩
section
variable {s : ES} {k : Nat}
theorem Fit.more (h : Fit s k) : Fit s (k + 1) := ⟨⟨h.n.1, by have := h.n.2; omega⟩, h.sum, h.best, h.by', h.rise, by have := h.len; omega⟩
theorem Fit.count (h : Fit s k) : Fit { s with n := s.n + 1 } (k + 1) := ⟨⟨by have := h.n.1; show 0 <= s.n + 1; omega, by have := h.n.2; show s.n + 1 <= _; omega⟩, h.sum, h.best, h.by', h.rise, by have := h.len; show s.top.length <= _; omega⟩
theorem Fit.put' (h : Fit s k) {v : Int} (hv : aN v) : Fit { s with n := s.n + 1, best := v, some := true } (k + 1) := ⟨h.count.n, h.sum, hv, h.by', h.rise, h.count.len⟩
theorem Fit.keep (h : Fit s k) : Fit { s with n := s.n + 1, some := true } (k + 1) := ⟨h.count.n, h.sum, h.best, h.by', h.rise, h.count.len⟩
theorem Fit.first (h : Fit s k) {v u : Int} (hv : aN v) (hu : aN u) : Fit { s with n := s.n + 1, best := v, by' := u, some := true } (k + 1) := ⟨h.count.n, h.sum, hv, hu, h.rise, h.count.len⟩
theorem Fit.add (h : Fit s k) (v : Int) : Fit { s with n := s.n + 1, sum := cG (s.sum + v), some := true } (k + 1) := ⟨h.count.n, iH _, h.best, h.by', h.rise, h.count.len⟩
theorem Fit.put (h : Fit s k) (v : Int) : Fit { s with n := s.n + 1, top := dI lsL s.top v, some := true } (k + 1) := ⟨h.count.n, h.sum, h.best, h.by', eU eO h.rise v, by have := h.len; have := Gr s.top v; show (dI lsL s.top v).length <= _; omega⟩
end
section
variable {x : AG} {g : ByteArray -> Option Int} {s : ES} {v : Int}
theorem mW (h : bB g x.wh = false) : aU x s g = s := by unfold aU; rw [if_pos h]
theorem AZ (h : bB g x.wh = true) (hc : x.fn.data.toList = aO) : aU x s g = { s with n := s.n + 1 } := by unfold aU; rw [if_neg (by rw [h]; decide), if_pos hc]
theorem kI (h : bB g x.wh = true) (hc : ¬ x.fn.data.toList = aO) (he : evT g x.e = none) : aU x s g = { s with n := s.n + 1 } := by unfold aU; rw [if_neg (by rw [h]; decide), if_neg hc, he]
theorem kH (h : bB g x.wh = true) (hc : ¬ x.fn.data.toList = aO) (he : evT g x.e = some v) : aU x s g = lZ x.fn.data.toList g x.g { s with n := s.n + 1 } v := by unfold aU; rw [if_neg (by rw [h]; decide), if_neg hc, he]
theorem rZ (h : bB g x.wh = true) (hc : x.fn.data.toList = fV) (he : evT g x.e = some v) : aU x s g = { s with n := s.n + 1, best := if s.some = false \/ v < s.best then v else s.best, some := true } := by
 rw [kH h (by rw [hc]; decide) he, hc]; rfl
theorem r8 (h : bB g x.wh = true) (hc : x.fn.data.toList = gW) (he : evT g x.e = some v) : aU x s g = { s with n := s.n + 1, best := if s.some = false \/ s.best < v then v else s.best, some := true } := by
 rw [kH h (by rw [hc]; decide) he, hc]; rfl
theorem F7 (h : bB g x.wh = true) (hc : x.fn.data.toList = gF) (he : evT g x.e = some v) : aU x s g = { s with n := s.n + 1, sum := cG (s.sum + v), some := true } := by
 rw [kH h (by rw [hc]; decide) he, hc]; rfl
theorem F6 (h : bB g x.wh = true) (hc : x.fn.data.toList = dN) (he : evT g x.e = some v) : aU x s g = { s with n := s.n + 1, top := dI lsL s.top v, some := true } := by
 rw [kH h (by rw [hc]; decide) he, hc]; rfl
theorem lE (h : bB g x.wh = true) (hc : x.fn.data.toList = aY) (he : evT g x.e = some v) : aU x s g = match evT g x.g with
 | none => { s with n := s.n + 1 }
 | some b => if s.some = false \/ b < s.by' then { s with n := s.n + 1, best := v, by' := b, some := true } else { s with n := s.n + 1, some := true } := by
 rw [kH h (by rw [hc]; decide) he, hc, qW];cases evT g x.g <;> rfl
theorem Fc (hc : x.fn.data.toList = aO) : bU x s = .num s.n := by unfold bU; rw [if_pos hc]
theorem JA (hc : x.fn.data.toList = gF) : bU x s = .num s.sum := by unfold bU; rw [if_neg (by rw [hc]; decide), if_pos hc]
theorem Dd (hc : x.fn.data.toList = dN) : bU x s = .list (s.top.drop (s.top.length - x.k.toNat)) := by unfold bU; rw [if_neg (by rw [hc]; decide), if_neg (by rw [hc]; decide), if_pos hc]
end
theorem nP {rs : List RW} {gs : List (ByteArray -> Option Int)} {k : Nat} {r : RW} (h : rs.map RW.g = gs) (hr : rs[k]? = some r) : gs.drop k = r.g :: gs.drop (k + 1) := by
 subst h;obtain ⟨hlt, e⟩ := List.getElem?_eq_some_iff.1 hr;rw [List.drop_eq_getElem_cons (by simpa using hlt), List.getElem_map, e]
section
variable {G : Nat -> Prop} {w V : World} {x : AG} {p : PA} {T : List Int} {ta : Option Addr} {tc : Nat}
theorem Ab {u0 u1 u2 u3 : Value} {b o : Nat} {u : Value} (hb : ¬ b = w.heap.size + 1) (h : V.cell? ⟨b, o, none⟩ = some u) : ((((V.setCell ⟨w.heap.size + 1, 0, none⟩ u0).setCell ⟨w.heap.size + 1, 1, none⟩ u1).setCell ⟨w.heap.size + 1, 2, none⟩ u2).setCell ⟨w.heap.size + 1, 3, none⟩ u3).cell? ⟨b, o, none⟩ = some u :=
 (((((aG.refl (· = w.heap.size + 1) V).setCell (p := ⟨w.heap.size + 1, 0, none⟩) (.inl rfl) u0).setCell (p := ⟨w.heap.size + 1, 1, none⟩) (.inl rfl) u1).setCell (p := ⟨w.heap.size + 1, 2, none⟩) (.inl rfl) u2).setCell (p := ⟨w.heap.size + 1, 3, none⟩) (.inl rfl) u3).cell h hb
theorem FU (_ : EW G w x p V) (ho : V.ownsRow (w.heap.size + 2) 2 1 (.slice ta T.length tc) T.length (ivs T)) {b : Nat} (hb : ta = some ⟨b, 0, none⟩) : ¬ b = w.heap.size + 1 := fun e => by
 have := (ho.lt b (by rw [hb]; rfl)).1;omega
theorem Io (h : EW G w x p V) (ho : V.ownsRow (w.heap.size + 2) 2 1 (.slice ta T.length tc) T.length (ivs T)) {u0 u1 u2 u3 : Value} : T = [] \/ ∃ b off, ta = some ⟨b, off, none⟩ /\ w.heap.size <= b /\ b < ((((V.setCell ⟨w.heap.size + 1, 0, none⟩ u0).setCell ⟨w.heap.size + 1, 1, none⟩ u1).setCell ⟨w.heap.size + 1, 2, none⟩ u2).setCell ⟨w.heap.size + 1, 3, none⟩ u3).heap.size /\ ∀ j n, T[j]? = some n -> ((((V.setCell ⟨w.heap.size + 1, 0, none⟩ u0).setCell ⟨w.heap.size + 1, 1, none⟩ u1).setCell ⟨w.heap.size + 1, 2, none⟩ u2).setCell ⟨w.heap.size + 1, 3, none⟩ u3).cell? ⟨b, off + j, none⟩ = some (.int .i64 n) := by
 cases T with
 | nil => exact .inl rfl
 | cons t T =>
   right;obtain ⟨g, hg, c0⟩ := cV ho (show (ivs (t :: T))[0]? = some (.int .i64 t) from rfl);have hlt := (ho.lt g (by rw [hg]; rfl));refine ⟨g, 0, hg, by have := hlt.1; omega, by simp only [World.size_setCell]; exact hlt.2, fun j n hj => ?_⟩;obtain ⟨g', hg', c⟩ := cV ho (show (ivs (t :: T))[j]? = some (.int .i64 n) by rw [List.getElem?_map, hj]; rfl);rw [hg] at hg';cases hg';rw [Nat.zero_add];exact Ab (FU h ho hg) c
theorem J4 {gb : Nat} (h : EW G w x p V) (ho : V.ownsRow (w.heap.size + 2) 2 1 (.slice (some ⟨gb, 0, none⟩) T.length tc) T.length (ivs T)) (d : Nat) {u0 u1 u2 u3 : Value} : ∃ b off, some (⟨gb, d, none⟩ : Addr) = some ⟨b, off, none⟩ /\ w.heap.size <= b /\ b < ((((V.setCell ⟨w.heap.size + 1, 0, none⟩ u0).setCell ⟨w.heap.size + 1, 1, none⟩ u1).setCell ⟨w.heap.size + 1, 2, none⟩ u2).setCell ⟨w.heap.size + 1, 3, none⟩ u3).heap.size /\ ∀ j n, (T.drop d)[j]? = some n -> ((((V.setCell ⟨w.heap.size + 1, 0, none⟩ u0).setCell ⟨w.heap.size + 1, 1, none⟩ u1).setCell ⟨w.heap.size + 1, 2, none⟩ u2).setCell ⟨w.heap.size + 1, 3, none⟩ u3).cell? ⟨b, off + j, none⟩ = some (.int .i64 n) := by
 have hlt := (ho.lt gb rfl);refine ⟨gb, d, rfl, by have := hlt.1; omega, by simp only [World.size_setCell]; exact hlt.2, fun j n hj => ?_⟩;rw [List.getElem?_drop] at hj;obtain ⟨g', hg', c⟩ := cV ho (show (ivs T)[d + j]? = some (.int .i64 n) by rw [List.getElem?_map, hj]; rfl);cases hg';exact Ab (FU h ho rfl) c
end
set_option maxHeartbeats 16000000 in
set_option maxRecDepth 100000 in
theorem DQ {G : Nat -> Prop} (x : AG) (p : PA) (rs : List RW) (ya : Option Addr) (yc : Nat) (w : World) (h : fO x = 0) (hn : fD x) (hU : ∀ r ∈ rs, dU r.A r.n r.g) (hl : rs.length <= 1000) (hr : aI G w x p) (hy : aS w ya rs) (hc : x.fn.data.toList = aO) :
 Calls Tryz.prog 21 #[agV x p, .slice ya rs.length yc] w (fP (evG x (rs.map RW.g)) w) := by
 obtain ⟨h1, h2, h3, h4, h5, h6⟩ := cQ h;have gCount : (x.fn.toList == [99, 111, 117, 110, 116]) = true := bG (by rw [hc]; decide);have gMin : (x.fn.toList == [109, 105, 110]) = false := aE (by rw [hc]; decide);have gMax : (x.fn.toList == [109, 97, 120]) = false := aE (by rw [hc]; decide);have gSum : (x.fn.toList == [115, 117, 109]) = false := aE (by rw [hc]; decide);have gTop : (x.fn.toList == [116, 111, 112]) = false := aE (by rw [hc]; decide);have gFirst : (x.fn.toList == [102, 105, 114, 115, 116]) = false := aE (by rw [hc]; decide);have nMin : ¬ x.fn.data.toList = fV := by rw [hc]; decide
 have nMax : ¬ x.fn.data.toList = gW := by rw [hc]; decide
 have nSum : ¬ x.fn.data.toList = gF := by rw [hc]; decide
 have nTop : ¬ x.fn.data.toList = dN := by rw [hc]; decide
 have nFirst : ¬ x.fn.data.toList = aY := by rw [hc]; decide
 have HC := aA h6;have HNC := aA hn.c;have HU := aA hU;have HY := aA hy;have E0 := qJ hr;generalize hW1 : w.alloc (agO x p) = W1 at E0;generalize hW : W1.alloc (vlO 0 0 none 0 0) = W at E0;have HW1 := aA hW1;have HW := aA hW;have HK0 := aA E0;obtain ⟨gs, hgs⟩ : ∃ gs, rs.map RW.g = gs := ⟨_, rfl⟩;rw [hgs];obtain ⟨r, hR⟩ : ∃ r, evG x gs = r := ⟨_, rfl⟩;rw [hR];have HF0 := aA (show bU x ((gs.drop 0).foldl (aU x) es0) = r by rw [List.drop_zero]; exact hR);have HO0 := aA (show W.ownsRow (w.heap.size + 2) 2 1 (.slice none es0.top.length 0) es0.top.length (ivs es0.top) from ⟨rfl, .inl ⟨rfl, rfl⟩⟩);clear hW1 hW E0 hR h1 h2 h3 h4 h6 h hn hU hr hy
 go_enter Tryz.func21, Tryz.ntmps21
 go_upto_region 1 with fail
 rw [HW1.out, show W1.alloc (.cells #[.int .i64 0, .int .i64 0, .string ⟨#[]⟩, .slice none 0 0] 56) = W from HW.out];clear HW1 HW
 go_wp2_with fail
 go_loopw [6, 7, 8, 9, 10, 11, 12, 13, 14, 15, 16] (fun v6 v7 v8 v9 v10 v11 v12 v13 v14 v15 v16 wr => ∃ (k : Nat) (s : ES) (ta : Option Addr) (tc : Nat) (y13 y14 y15 y16 : Value), v6 = .int .i64 s.n /\ v7 = .bool s.some /\ v8 = .int .i64 s.best /\ v9 = .int .i64 s.by' /\ v10 = .int .i64 s.sum /\ v11 = .slice ta s.top.length tc /\ v12 = .int .i64 k /\ v13 = y13 /\ v14 = y14 /\ v15 = y15 /\ v16 = y16 /\ k <= rs.length /\ Hid (bU x ((gs.drop k).foldl (aU x) s) = r) /\ Hid (EW G w x p wr) /\ Hid (wr.ownsRow (w.heap.size + 2) 2 1 (.slice ta s.top.length tc) s.top.length (ivs s.top)) /\ Hid (Fit s k)) (fun _ _ _ _ _ _ i _ _ _ _ _ => rs.length - (intOf i).toNat)
 case atStart => exact ⟨0, es0, none, 0, _, _, _, _, rfl, rfl, rfl, rfl, rfl, rfl, rfl, rfl, rfl, rfl, rfl, Nat.zero_le _, HF0, HK0, HO0, aA Fa⟩
 case round =>
  obtain ⟨k, s, ta, tc, y13, y14, y15, y16, rfl, rfl, rfl, rfl, rfl, rfl, rfl, rfl, rfl, rfl, rfl, hk, HF, HK, HO, HI⟩ := hrel;clear HF0 HK0 HO0
  by_cases hlt : k < rs.length
  · obtain ⟨rw, hrw⟩ : ∃ r, rs[k]? = some r := ⟨_, List.getElem?_eq_getElem hlt⟩
    have hne : ¬ rs = [] := fun e => by rw [e] at hlt; simp at hlt
    obtain ⟨b, off, hya, hbl, hcc⟩ := HY.out.resolve_left hne;subst hya;obtain ⟨y, cy, pc, hry⟩ := hcc k rw hrw;have U := HU.out rw (List.mem_of_getElem? hrw);have hdr' : gs.drop k = rw.g :: gs.drop (k + 1) := nP hgs hrw;have hdr := aA hdr';have BK := aA (HK.out.k.b);have RC := aA (fun V (hV : Below wr.heap.size wr V) => ((BK.out.trans (hV.mono BK.out.size)).cell (p := ⟨b, off + k, none⟩) hbl).trans pc);have RY := aA (fun V (hV : Below wr.heap.size wr V) => hry.kept (BK.out.trans (hV.mono BK.out.size)));have TK := aA (fun V (hV : Below wr.heap.size wr V) => gI U x.wh HC.out HNC.out p.wa p.wc y cy V (HK.out.k.r.c.kept hV) (RY.out V hV) (by omega));have OW := aA (fun V (hV : Below wr.heap.size wr V) => aT HO.out hV);obtain ⟨z, hz⟩ : ∃ z, bB rw.g x.wh = z := ⟨_, rfl⟩;rw [hz] at TK;have b1 : (k : Int) < (rs.length : Int) := by omega
    have b2 : (0 : Int) <= (k : Int) := by omega
    have b3 : ((k : Int)).toNat = k := by omega
    have HTZ := aA hz;have hnn := HI.out.n;have hkk : k <= 1000 := by omega
    clear hne hcc hrw pc hry U hdr' hz HO
    have CELLS := aA (p := ∀ V, Below wr.heap.size wr V -> (V.cell? ⟨w.heap.size, 10, none⟩ = some (.slice p.wa x.wh.length p.wc) /\ V.cell? ⟨b, off + k, none⟩ = some (.slice y rw.n cy))) (fun V hV => by
     obtain ⟨m0, m1, m2, m3, m4, m5, m6, m7, m8, m9, m10⟩ := aD (HK.out.step hV).k.n;have rc := RC.out V (id hV);exact ⟨m10, rc⟩)
    obtain ⟨m0, m1, m2, m3, m4, m5, m6, m7, m8, m9, m10⟩ := aD HK.out.k.n;have rc := RC.out wr (Below.refl _ _)
    go_upto_region 10 with fail
    go_region_held3 (fun V => V.cell? ⟨w.heap.size, 10, none⟩ = some (.slice p.wa x.wh.length p.wc) /\ V.cell? ⟨b, off + k, none⟩ = some (.slice y rw.n cy)) (first | assumption | exact ⟨m10, rc⟩ | exact CELLS.out _ B5.out) (first
     | (go_at_call 68
        with_reducible refine (TK.out _ (aM wr)).mono ?_
        rintro e w5 ⟨rfl, hb⟩;have B5 := aA ((aM wr).trans hb);have c5' := CELLS.out _ B5.out;clear hb)
     | fail)
    have K1 := aA (HK.out.step B5.out);have B1 := aA (B5.out);clear B5 CELLS c5' rc m0 m1 m2 m3 m4 m5 m6 m7 m8 m9 m10;clear TK;cases z with
    | false =>
      have HF1 := aA (show bU x ((gs.drop (k + 1)).foldl (aU x) s) = r by rw [<- HF.out, hdr.out, List.foldl_cons, mW HTZ.out]);have HOX := aA (OW.out _ B1.out);have HIX := aA HI.out.more;obtain ⟨m0, m1, m2, m3, m4, m5, m6, m7, m8, m9, m10⟩ := aD K1.out.k.n
      go_wp2_with fail
      go_roundw
      case rel => exact ⟨k + 1, s, ta, tc, _, _, _, _, rfl, rfl, rfl, rfl, rfl, rfl, by go_num, rfl, rfl, rfl, rfl, by omega, HF1, K1, HOX, HIX⟩
      case measure => simp [intOf]; omega
    | true =>
      have HF1 := aA (show bU x ((gs.drop (k + 1)).foldl (aU x) { s with n := s.n + 1 }) = r by rw [<- HF.out, hdr.out, List.foldl_cons, AZ HTZ.out hc]);have HOX := aA (OW.out _ B1.out);have HIX := aA HI.out.count;obtain ⟨m0, m1, m2, m3, m4, m5, m6, m7, m8, m9, m10⟩ := aD K1.out.k.n
      go_wp2_with fail
      go_roundw
      case rel => exact ⟨k + 1, { s with n := s.n + 1 }, ta, tc, _, _, _, _, rfl, rfl, rfl, rfl, rfl, rfl, by go_num, rfl, rfl, rfl, rfl, by omega, HF1, K1, HOX, HIX⟩
      case measure => simp [intOf]; omega
  · have b1 : ¬ (k : Int) < (rs.length : Int) := by omega
    have HR := aA (show bU x s = r by rw [<- HF.out, List.drop_of_length_le (by rw [<- hgs, List.length_map]; omega)]; rfl);obtain ⟨m0, m1, m2, m3, m4, m5, m6, m7, m8, m9, m10⟩ := aD HK.out.k.n;obtain ⟨⟨o0, o1, o2, o3⟩, z0, z1, z2, z3⟩ := aJ HK.out.o;have HR2 := aA (show EvR.num s.n = r by rw [<- HR.out, Fc hc]);have NU := aA (fun V => fZ s.n V)
    go_wp2_with fail
    refine (NU.out _).mono ?_;rintro e w5 ⟨rfl, hb⟩;have HK := aA (HK.out.step hb);clear hb NU o0 o1 o2 o3 z0 z1 z2 z3;obtain ⟨⟨o0, o1, o2, o3⟩, z0, z1, z2, z3⟩ := aJ HK.out.o
    go_wp2_with fail
    obtain ⟨⟨y0, y1, y2, y3⟩, -⟩ := aJ (aP HK.out.o (.int .i64 1) (.int .i64 s.n) (.string ⟨#[]⟩) (.slice none 0 0));exact bodyPost_ret (v := .tuple #[vlV 1 s.n none 0 0, .bool true]) (by simp [results, Tryz.results21, go_sem, y0, y1, y2, y3]) rfl (by rw [<- HR2.out]; exact ⟨HK.out.put 1 s.n none 0 0, rfl⟩)
set_option maxHeartbeats 16000000 in
set_option maxRecDepth 100000 in
theorem IQ {G : Nat -> Prop} (x : AG) (p : PA) (rs : List RW) (ya : Option Addr) (yc : Nat) (w : World) (h : fO x = 0) (hn : fD x) (hU : ∀ r ∈ rs, dU r.A r.n r.g) (hl : rs.length <= 1000) (hr : aI G w x p) (hy : aS w ya rs) (hc : x.fn.data.toList = gF) :
 Calls Tryz.prog 21 #[agV x p, .slice ya rs.length yc] w (fP (evG x (rs.map RW.g)) w) := by
 obtain ⟨h1, h2, h3, h4, h5, h6⟩ := cQ h;have gCount : (x.fn.toList == [99, 111, 117, 110, 116]) = false := aE (by rw [hc]; decide);have gMin : (x.fn.toList == [109, 105, 110]) = false := aE (by rw [hc]; decide);have gMax : (x.fn.toList == [109, 97, 120]) = false := aE (by rw [hc]; decide);have gSum : (x.fn.toList == [115, 117, 109]) = true := bG (by rw [hc]; decide);have gTop : (x.fn.toList == [116, 111, 112]) = false := aE (by rw [hc]; decide);have gFirst : (x.fn.toList == [102, 105, 114, 115, 116]) = false := aE (by rw [hc]; decide);have nCount : ¬ x.fn.data.toList = aO := by rw [hc]; decide
 have nMin : ¬ x.fn.data.toList = fV := by rw [hc]; decide
 have nMax : ¬ x.fn.data.toList = gW := by rw [hc]; decide
 have nTop : ¬ x.fn.data.toList = dN := by rw [hc]; decide
 have nFirst : ¬ x.fn.data.toList = aY := by rw [hc]; decide
 have OKE := aA (And.intro ((aX x.e).1 (h3 nCount)).1 hn.e);have HC := aA h6;have HNC := aA hn.c;have HU := aA hU;have HY := aA hy;have E0 := qJ hr;generalize hW1 : w.alloc (agO x p) = W1 at E0;generalize hW : W1.alloc (vlO 0 0 none 0 0) = W at E0;have HW1 := aA hW1;have HW := aA hW;have HK0 := aA E0;obtain ⟨gs, hgs⟩ : ∃ gs, rs.map RW.g = gs := ⟨_, rfl⟩;rw [hgs];obtain ⟨r, hR⟩ : ∃ r, evG x gs = r := ⟨_, rfl⟩;rw [hR];have HF0 := aA (show bU x ((gs.drop 0).foldl (aU x) es0) = r by rw [List.drop_zero]; exact hR);have HO0 := aA (show W.ownsRow (w.heap.size + 2) 2 1 (.slice none es0.top.length 0) es0.top.length (ivs es0.top) from ⟨rfl, .inl ⟨rfl, rfl⟩⟩);clear hW1 hW E0 hR h1 h2 h3 h4 h6 h hn hU hr hy
 go_enter Tryz.func21, Tryz.ntmps21
 go_upto_region 1 with fail
 rw [HW1.out, show W1.alloc (.cells #[.int .i64 0, .int .i64 0, .string ⟨#[]⟩, .slice none 0 0] 56) = W from HW.out];clear HW1 HW
 go_wp2_with fail
 go_loopw [6, 7, 8, 9, 10, 11, 12, 13, 14, 15, 16] (fun v6 v7 v8 v9 v10 v11 v12 v13 v14 v15 v16 wr => ∃ (k : Nat) (s : ES) (ta : Option Addr) (tc : Nat) (y13 y14 y15 y16 : Value), v6 = .int .i64 s.n /\ v7 = .bool s.some /\ v8 = .int .i64 s.best /\ v9 = .int .i64 s.by' /\ v10 = .int .i64 s.sum /\ v11 = .slice ta s.top.length tc /\ v12 = .int .i64 k /\ v13 = y13 /\ v14 = y14 /\ v15 = y15 /\ v16 = y16 /\ k <= rs.length /\ Hid (bU x ((gs.drop k).foldl (aU x) s) = r) /\ Hid (EW G w x p wr) /\ Hid (wr.ownsRow (w.heap.size + 2) 2 1 (.slice ta s.top.length tc) s.top.length (ivs s.top)) /\ Hid (Fit s k)) (fun _ _ _ _ _ _ i _ _ _ _ _ => rs.length - (intOf i).toNat)
 case atStart => exact ⟨0, es0, none, 0, _, _, _, _, rfl, rfl, rfl, rfl, rfl, rfl, rfl, rfl, rfl, rfl, rfl, Nat.zero_le _, HF0, HK0, HO0, aA Fa⟩
 case round =>
  obtain ⟨k, s, ta, tc, y13, y14, y15, y16, rfl, rfl, rfl, rfl, rfl, rfl, rfl, rfl, rfl, rfl, rfl, hk, HF, HK, HO, HI⟩ := hrel;clear HF0 HK0 HO0
  by_cases hlt : k < rs.length
  · obtain ⟨rw, hrw⟩ : ∃ r, rs[k]? = some r := ⟨_, List.getElem?_eq_getElem hlt⟩
    have hne : ¬ rs = [] := fun e => by rw [e] at hlt; simp at hlt
    obtain ⟨b, off, hya, hbl, hcc⟩ := HY.out.resolve_left hne;subst hya;obtain ⟨y, cy, pc, hry⟩ := hcc k rw hrw;have U := HU.out rw (List.mem_of_getElem? hrw);have hdr' : gs.drop k = rw.g :: gs.drop (k + 1) := nP hgs hrw;have hdr := aA hdr';have BK := aA (HK.out.k.b);have RC := aA (fun V (hV : Below wr.heap.size wr V) => ((BK.out.trans (hV.mono BK.out.size)).cell (p := ⟨b, off + k, none⟩) hbl).trans pc);have RY := aA (fun V (hV : Below wr.heap.size wr V) => hry.kept (BK.out.trans (hV.mono BK.out.size)));have TK := aA (fun V (hV : Below wr.heap.size wr V) => gI U x.wh HC.out HNC.out p.wa p.wc y cy V (HK.out.k.r.c.kept hV) (RY.out V hV) (by omega));have CE := aA (fun V (hV : Below wr.heap.size wr V) => (eQ U x.e OKE.out.1 OKE.out.2).1 G V p.ea p.ec y cy (HK.out.k.r.e.kept hV) (RY.out V hV));have EI := aA (eQ U x.e OKE.out.1 OKE.out.2).2;have OW := aA (fun V (hV : Below wr.heap.size wr V) => aT HO.out hV);obtain ⟨z, hz⟩ : ∃ z, bB rw.g x.wh = z := ⟨_, rfl⟩;rw [hz] at TK;have b1 : (k : Int) < (rs.length : Int) := by omega
    have b2 : (0 : Int) <= (k : Int) := by omega
    have b3 : ((k : Int)).toNat = k := by omega
    have HTZ := aA hz;have hnn := HI.out.n;have hkk : k <= 1000 := by omega
    clear hne hcc hrw pc hry U hdr' hz HO
    have CELLS := aA (p := ∀ V, Below wr.heap.size wr V -> (V.cell? ⟨w.heap.size, 10, none⟩ = some (.slice p.wa x.wh.length p.wc) /\ V.cell? ⟨b, off + k, none⟩ = some (.slice y rw.n cy))) (fun V hV => by
     obtain ⟨m0, m1, m2, m3, m4, m5, m6, m7, m8, m9, m10⟩ := aD (HK.out.step hV).k.n;have rc := RC.out V (id hV);exact ⟨m10, rc⟩)
    obtain ⟨m0, m1, m2, m3, m4, m5, m6, m7, m8, m9, m10⟩ := aD HK.out.k.n;have rc := RC.out wr (Below.refl _ _)
    go_upto_region 10 with fail
    go_region_held3 (fun V => V.cell? ⟨w.heap.size, 10, none⟩ = some (.slice p.wa x.wh.length p.wc) /\ V.cell? ⟨b, off + k, none⟩ = some (.slice y rw.n cy)) (first | assumption | exact ⟨m10, rc⟩ | exact CELLS.out _ B5.out) (first
     | (go_at_call 68
        with_reducible refine (TK.out _ (aM wr)).mono ?_
        rintro e w5 ⟨rfl, hb⟩;have B5 := aA ((aM wr).trans hb);have c5' := CELLS.out _ B5.out;clear hb)
     | fail)
    have K1 := aA (HK.out.step B5.out);have B1 := aA (B5.out);clear B5 CELLS c5' rc m0 m1 m2 m3 m4 m5 m6 m7 m8 m9 m10;clear TK;cases z with
    | false =>
      have HF1 := aA (show bU x ((gs.drop (k + 1)).foldl (aU x) s) = r by rw [<- HF.out, hdr.out, List.foldl_cons, mW HTZ.out]);have HOX := aA (OW.out _ B1.out);have HIX := aA HI.out.more;obtain ⟨m0, m1, m2, m3, m4, m5, m6, m7, m8, m9, m10⟩ := aD K1.out.k.n
      go_wp2_with fail
      go_roundw
      case rel => exact ⟨k + 1, s, ta, tc, _, _, _, _, rfl, rfl, rfl, rfl, rfl, rfl, by go_num, rfl, rfl, rfl, rfl, by omega, HF1, K1, HOX, HIX⟩
      case measure => simp [intOf]; omega
    | true =>
      obtain ⟨ve, hve⟩ : ∃ v, evT rw.g x.e = v := ⟨_, rfl⟩;rw [hve] at CE;have HVE := aA hve;clear hve
      have CELLS := aA (p := ∀ V, Below w5.heap.size w5 V -> (V.cell? ⟨w.heap.size, 2, none⟩ = some (.string x.e.op) /\ V.cell? ⟨w.heap.size, 2 + 1, none⟩ = some (.string x.e.nm) /\ V.cell? ⟨w.heap.size, 2 + 2, none⟩ = some (.int .i64 x.e.n) /\ V.cell? ⟨w.heap.size, 2 + 3, none⟩ = some (.slice p.ea x.e.ks.len p.ec) /\ V.cell? ⟨b, off + k, none⟩ = some (.slice y rw.n cy))) (fun V hV => by
       obtain ⟨m0, m1, m2, m3, m4, m5, m6, m7, m8, m9, m10⟩ := aD (K1.out.step hV).k.n;have rc := RC.out V ((fun h => B1.out.trans (h.mono B1.out.size)) hV);exact ⟨m2, m3, m4, m5, rc⟩)
      obtain ⟨m0, m1, m2, m3, m4, m5, m6, m7, m8, m9, m10⟩ := aD K1.out.k.n;have rc := RC.out w5 B1.out
      go_upto_region 13 with fail
      go_region_held3 (fun V => V.cell? ⟨w.heap.size, 2, none⟩ = some (.string x.e.op) /\ V.cell? ⟨w.heap.size, 2 + 1, none⟩ = some (.string x.e.nm) /\ V.cell? ⟨w.heap.size, 2 + 2, none⟩ = some (.int .i64 x.e.n) /\ V.cell? ⟨w.heap.size, 2 + 3, none⟩ = some (.slice p.ea x.e.ks.len p.ec) /\ V.cell? ⟨b, off + k, none⟩ = some (.slice y rw.n cy)) (first | assumption | exact ⟨m2, m3, m4, m5, rc⟩ | exact CELLS.out _ B5.out) (first
       | (go_at_call 69
          with_reducible refine (CE.out _ (B1.out.trans ((aM w5).mono B1.out.size))).mono ?_
          rintro e w6 ⟨rfl, hb⟩;have B5 := aA ((aM w5).trans hb);have c5' := CELLS.out _ B5.out;clear hb)
       | fail)
      have K2 := aA (K1.out.step B5.out);have B2 := aA (B1.out.trans (B5.out.mono B1.out.size));clear B5 CELLS c5' rc m0 m1 m2 m3 m4 m5 m6 m7 m8 m9 m10;clear CE;cases ve with
      | none =>
        have HF1 := aA (show bU x ((gs.drop (k + 1)).foldl (aU x) { s with n := s.n + 1 }) = r by rw [<- HF.out, hdr.out, List.foldl_cons, kI HTZ.out nCount HVE.out]);have HOX := aA (OW.out _ B2.out);have HIX := aA HI.out.count;obtain ⟨m0, m1, m2, m3, m4, m5, m6, m7, m8, m9, m10⟩ := aD K2.out.k.n
        go_wp2_with fail
        go_roundw
        case rel => exact ⟨k + 1, { s with n := s.n + 1 }, ta, tc, _, _, _, _, rfl, rfl, rfl, rfl, rfl, rfl, by go_num, rfl, rfl, rfl, rfl, by omega, HF1, K2, HOX, HIX⟩
        case measure => simp [intOf]; omega
      | some v =>
        have hv64 := EI.out _ HVE.out;have AD := aA (fun V => Aa s.sum v V HI.out.sum hv64);have HF1 := aA (show bU x ((gs.drop (k + 1)).foldl (aU x) { s with n := s.n + 1, sum := cG (s.sum + v), some := true }) = r by rw [<- HF.out, hdr.out, List.foldl_cons, F7 HTZ.out hc HVE.out]);have HOX := aA (OW.out _ B2.out);have HIX := aA (HI.out.add v);obtain ⟨m0, m1, m2, m3, m4, m5, m6, m7, m8, m9, m10⟩ := aD K2.out.k.n
        go_wp2_with fail
        refine (AD.out _).mono ?_;rintro e w7 ⟨rfl, rfl⟩
        go_wp2_with fail
        go_roundw
        case rel => exact ⟨k + 1, { s with n := s.n + 1, sum := cG (s.sum + v), some := true }, ta, tc, _, _, _, _, rfl, rfl, rfl, rfl, rfl, rfl, by go_num, rfl, rfl, rfl, rfl, by omega, HF1, K2, HOX, HIX⟩
        case measure => simp [intOf]; omega
  · have b1 : ¬ (k : Int) < (rs.length : Int) := by omega
    have HR := aA (show bU x s = r by rw [<- HF.out, List.drop_of_length_le (by rw [<- hgs, List.length_map]; omega)]; rfl);obtain ⟨m0, m1, m2, m3, m4, m5, m6, m7, m8, m9, m10⟩ := aD HK.out.k.n;obtain ⟨⟨o0, o1, o2, o3⟩, z0, z1, z2, z3⟩ := aJ HK.out.o;have HR2 := aA (show EvR.num s.sum = r by rw [<- HR.out, JA hc]);have NU := aA (fun V => fZ s.sum V)
    go_wp2_with fail
    refine (NU.out _).mono ?_;rintro e w5 ⟨rfl, hb⟩;have HK := aA (HK.out.step hb);clear hb NU o0 o1 o2 o3 z0 z1 z2 z3;obtain ⟨⟨o0, o1, o2, o3⟩, z0, z1, z2, z3⟩ := aJ HK.out.o
    go_wp2_with fail
    obtain ⟨⟨y0, y1, y2, y3⟩, -⟩ := aJ (aP HK.out.o (.int .i64 1) (.int .i64 s.sum) (.string ⟨#[]⟩) (.slice none 0 0));exact bodyPost_ret (v := .tuple #[vlV 1 s.sum none 0 0, .bool true]) (by simp [results, Tryz.results21, go_sem, y0, y1, y2, y3]) rfl (by rw [<- HR2.out]; exact ⟨HK.out.put 1 s.sum none 0 0, rfl⟩)
set_option maxHeartbeats 16000000 in
set_option maxRecDepth 100000 in
theorem IP {G : Nat -> Prop} (x : AG) (p : PA) (rs : List RW) (ya : Option Addr) (yc : Nat) (w : World) (h : fO x = 0) (hn : fD x) (hU : ∀ r ∈ rs, dU r.A r.n r.g) (hl : rs.length <= 1000) (hr : aI G w x p) (hy : aS w ya rs) (hc : x.fn.data.toList = dN) :
 Calls Tryz.prog 21 #[agV x p, .slice ya rs.length yc] w (fP (evG x (rs.map RW.g)) w) := by
 obtain ⟨h1, h2, h3, h4, h5, h6⟩ := cQ h;have gCount : (x.fn.toList == [99, 111, 117, 110, 116]) = false := aE (by rw [hc]; decide);have gMin : (x.fn.toList == [109, 105, 110]) = false := aE (by rw [hc]; decide);have gMax : (x.fn.toList == [109, 97, 120]) = false := aE (by rw [hc]; decide);have gSum : (x.fn.toList == [115, 117, 109]) = false := aE (by rw [hc]; decide);have gTop : (x.fn.toList == [116, 111, 112]) = true := bG (by rw [hc]; decide);have gFirst : (x.fn.toList == [102, 105, 114, 115, 116]) = false := aE (by rw [hc]; decide);have nCount : ¬ x.fn.data.toList = aO := by rw [hc]; decide
 have nMin : ¬ x.fn.data.toList = fV := by rw [hc]; decide
 have nMax : ¬ x.fn.data.toList = gW := by rw [hc]; decide
 have nSum : ¬ x.fn.data.toList = gF := by rw [hc]; decide
 have nFirst : ¬ x.fn.data.toList = aY := by rw [hc]; decide
 have OKE := aA (And.intro ((aX x.e).1 (h3 nCount)).1 hn.e);have HKK := aA (h2 hc);have HC := aA h6;have HNC := aA hn.c;have HU := aA hU;have HY := aA hy;have E0 := qJ hr;generalize hW1 : w.alloc (agO x p) = W1 at E0;generalize hW : W1.alloc (vlO 0 0 none 0 0) = W at E0;have HW1 := aA hW1;have HW := aA hW;have HK0 := aA E0;obtain ⟨gs, hgs⟩ : ∃ gs, rs.map RW.g = gs := ⟨_, rfl⟩;rw [hgs];obtain ⟨r, hR⟩ : ∃ r, evG x gs = r := ⟨_, rfl⟩;rw [hR];have HF0 := aA (show bU x ((gs.drop 0).foldl (aU x) es0) = r by rw [List.drop_zero]; exact hR);have HO0 := aA (show W.ownsRow (w.heap.size + 2) 2 1 (.slice none es0.top.length 0) es0.top.length (ivs es0.top) from ⟨rfl, .inl ⟨rfl, rfl⟩⟩);clear hW1 hW E0 hR h1 h2 h3 h4 h6 h hn hU hr hy
 go_enter Tryz.func21, Tryz.ntmps21
 go_upto_region 1 with fail
 rw [HW1.out, show W1.alloc (.cells #[.int .i64 0, .int .i64 0, .string ⟨#[]⟩, .slice none 0 0] 56) = W from HW.out];clear HW1 HW
 go_wp2_with fail
 go_loopw [6, 7, 8, 9, 10, 11, 12, 13, 14, 15, 16] (fun v6 v7 v8 v9 v10 v11 v12 v13 v14 v15 v16 wr => ∃ (k : Nat) (s : ES) (ta : Option Addr) (tc : Nat) (y13 y14 y15 y16 : Value), v6 = .int .i64 s.n /\ v7 = .bool s.some /\ v8 = .int .i64 s.best /\ v9 = .int .i64 s.by' /\ v10 = .int .i64 s.sum /\ v11 = .slice ta s.top.length tc /\ v12 = .int .i64 k /\ v13 = y13 /\ v14 = y14 /\ v15 = y15 /\ v16 = y16 /\ k <= rs.length /\ Hid (bU x ((gs.drop k).foldl (aU x) s) = r) /\ Hid (EW G w x p wr) /\ Hid (wr.ownsRow (w.heap.size + 2) 2 1 (.slice ta s.top.length tc) s.top.length (ivs s.top)) /\ Hid (Fit s k)) (fun _ _ _ _ _ _ i _ _ _ _ _ => rs.length - (intOf i).toNat)
 case atStart => exact ⟨0, es0, none, 0, _, _, _, _, rfl, rfl, rfl, rfl, rfl, rfl, rfl, rfl, rfl, rfl, rfl, Nat.zero_le _, HF0, HK0, HO0, aA Fa⟩
 case round =>
  obtain ⟨k, s, ta, tc, y13, y14, y15, y16, rfl, rfl, rfl, rfl, rfl, rfl, rfl, rfl, rfl, rfl, rfl, hk, HF, HK, HO, HI⟩ := hrel;clear HF0 HK0 HO0
  by_cases hlt : k < rs.length
  · obtain ⟨rw, hrw⟩ : ∃ r, rs[k]? = some r := ⟨_, List.getElem?_eq_getElem hlt⟩
    have hne : ¬ rs = [] := fun e => by rw [e] at hlt; simp at hlt
    obtain ⟨b, off, hya, hbl, hcc⟩ := HY.out.resolve_left hne;subst hya;obtain ⟨y, cy, pc, hry⟩ := hcc k rw hrw;have U := HU.out rw (List.mem_of_getElem? hrw);have hdr' : gs.drop k = rw.g :: gs.drop (k + 1) := nP hgs hrw;have hdr := aA hdr';have BK := aA (HK.out.k.b);have RC := aA (fun V (hV : Below wr.heap.size wr V) => ((BK.out.trans (hV.mono BK.out.size)).cell (p := ⟨b, off + k, none⟩) hbl).trans pc);have RY := aA (fun V (hV : Below wr.heap.size wr V) => hry.kept (BK.out.trans (hV.mono BK.out.size)));have TK := aA (fun V (hV : Below wr.heap.size wr V) => gI U x.wh HC.out HNC.out p.wa p.wc y cy V (HK.out.k.r.c.kept hV) (RY.out V hV) (by omega));have CE := aA (fun V (hV : Below wr.heap.size wr V) => (eQ U x.e OKE.out.1 OKE.out.2).1 G V p.ea p.ec y cy (HK.out.k.r.e.kept hV) (RY.out V hV));have EI := aA (eQ U x.e OKE.out.1 OKE.out.2).2;have OW := aA (fun V (hV : Below wr.heap.size wr V) => aT HO.out hV);obtain ⟨z, hz⟩ : ∃ z, bB rw.g x.wh = z := ⟨_, rfl⟩;rw [hz] at TK;have b1 : (k : Int) < (rs.length : Int) := by omega
    have b2 : (0 : Int) <= (k : Int) := by omega
    have b3 : ((k : Int)).toNat = k := by omega
    have HTZ := aA hz;have hnn := HI.out.n;have hkk : k <= 1000 := by omega
    clear hne hcc hrw pc hry U hdr' hz HO
    have CELLS := aA (p := ∀ V, Below wr.heap.size wr V -> (V.cell? ⟨w.heap.size, 10, none⟩ = some (.slice p.wa x.wh.length p.wc) /\ V.cell? ⟨b, off + k, none⟩ = some (.slice y rw.n cy))) (fun V hV => by
     obtain ⟨m0, m1, m2, m3, m4, m5, m6, m7, m8, m9, m10⟩ := aD (HK.out.step hV).k.n;have rc := RC.out V (id hV);exact ⟨m10, rc⟩)
    obtain ⟨m0, m1, m2, m3, m4, m5, m6, m7, m8, m9, m10⟩ := aD HK.out.k.n;have rc := RC.out wr (Below.refl _ _)
    go_upto_region 10 with fail
    go_region_held3 (fun V => V.cell? ⟨w.heap.size, 10, none⟩ = some (.slice p.wa x.wh.length p.wc) /\ V.cell? ⟨b, off + k, none⟩ = some (.slice y rw.n cy)) (first | assumption | exact ⟨m10, rc⟩ | exact CELLS.out _ B5.out) (first
     | (go_at_call 68
        with_reducible refine (TK.out _ (aM wr)).mono ?_
        rintro e w5 ⟨rfl, hb⟩;have B5 := aA ((aM wr).trans hb);have c5' := CELLS.out _ B5.out;clear hb)
     | fail)
    have K1 := aA (HK.out.step B5.out);have B1 := aA (B5.out);clear B5 CELLS c5' rc m0 m1 m2 m3 m4 m5 m6 m7 m8 m9 m10;clear TK;cases z with
    | false =>
      have HF1 := aA (show bU x ((gs.drop (k + 1)).foldl (aU x) s) = r by rw [<- HF.out, hdr.out, List.foldl_cons, mW HTZ.out]);have HOX := aA (OW.out _ B1.out);have HIX := aA HI.out.more;obtain ⟨m0, m1, m2, m3, m4, m5, m6, m7, m8, m9, m10⟩ := aD K1.out.k.n
      go_wp2_with fail
      go_roundw
      case rel => exact ⟨k + 1, s, ta, tc, _, _, _, _, rfl, rfl, rfl, rfl, rfl, rfl, by go_num, rfl, rfl, rfl, rfl, by omega, HF1, K1, HOX, HIX⟩
      case measure => simp [intOf]; omega
    | true =>
      obtain ⟨ve, hve⟩ : ∃ v, evT rw.g x.e = v := ⟨_, rfl⟩;rw [hve] at CE;have HVE := aA hve;clear hve
      have CELLS := aA (p := ∀ V, Below w5.heap.size w5 V -> (V.cell? ⟨w.heap.size, 2, none⟩ = some (.string x.e.op) /\ V.cell? ⟨w.heap.size, 2 + 1, none⟩ = some (.string x.e.nm) /\ V.cell? ⟨w.heap.size, 2 + 2, none⟩ = some (.int .i64 x.e.n) /\ V.cell? ⟨w.heap.size, 2 + 3, none⟩ = some (.slice p.ea x.e.ks.len p.ec) /\ V.cell? ⟨b, off + k, none⟩ = some (.slice y rw.n cy))) (fun V hV => by
       obtain ⟨m0, m1, m2, m3, m4, m5, m6, m7, m8, m9, m10⟩ := aD (K1.out.step hV).k.n;have rc := RC.out V ((fun h => B1.out.trans (h.mono B1.out.size)) hV);exact ⟨m2, m3, m4, m5, rc⟩)
      obtain ⟨m0, m1, m2, m3, m4, m5, m6, m7, m8, m9, m10⟩ := aD K1.out.k.n;have rc := RC.out w5 B1.out
      go_upto_region 13 with fail
      go_region_held3 (fun V => V.cell? ⟨w.heap.size, 2, none⟩ = some (.string x.e.op) /\ V.cell? ⟨w.heap.size, 2 + 1, none⟩ = some (.string x.e.nm) /\ V.cell? ⟨w.heap.size, 2 + 2, none⟩ = some (.int .i64 x.e.n) /\ V.cell? ⟨w.heap.size, 2 + 3, none⟩ = some (.slice p.ea x.e.ks.len p.ec) /\ V.cell? ⟨b, off + k, none⟩ = some (.slice y rw.n cy)) (first | assumption | exact ⟨m2, m3, m4, m5, rc⟩ | exact CELLS.out _ B5.out) (first
       | (go_at_call 69
          with_reducible refine (CE.out _ (B1.out.trans ((aM w5).mono B1.out.size))).mono ?_
          rintro e w6 ⟨rfl, hb⟩;have B5 := aA ((aM w5).trans hb);have c5' := CELLS.out _ B5.out;clear hb)
       | fail)
      have K2 := aA (K1.out.step B5.out);have B2 := aA (B1.out.trans (B5.out.mono B1.out.size));clear B5 CELLS c5' rc m0 m1 m2 m3 m4 m5 m6 m7 m8 m9 m10;clear CE;cases ve with
      | none =>
        have HF1 := aA (show bU x ((gs.drop (k + 1)).foldl (aU x) { s with n := s.n + 1 }) = r by rw [<- HF.out, hdr.out, List.foldl_cons, kI HTZ.out nCount HVE.out]);have HOX := aA (OW.out _ B2.out);have HIX := aA HI.out.count;obtain ⟨m0, m1, m2, m3, m4, m5, m6, m7, m8, m9, m10⟩ := aD K2.out.k.n
        go_wp2_with fail
        go_roundw
        case rel => exact ⟨k + 1, { s with n := s.n + 1 }, ta, tc, _, _, _, _, rfl, rfl, rfl, rfl, rfl, rfl, by go_num, rfl, rfl, rfl, rfl, by omega, HF1, K2, HOX, HIX⟩
        case measure => simp [intOf]; omega
      | some v =>
        have hv64 := EI.out _ HVE.out;have IN := aA (zY (w.heap.size + 2) s.top v ta tc w6 (OW.out _ B2.out) HI.out.rise (by have := aC K2.out.o; omega) (by have := HI.out.len; omega));have HF1 := aA (show bU x ((gs.drop (k + 1)).foldl (aU x) { s with n := s.n + 1, top := dI lsL s.top v, some := true }) = r by rw [<- HF.out, hdr.out, List.foldl_cons, F6 HTZ.out hc HVE.out]);have HIX := aA (HI.out.put v);obtain ⟨T2, hT2⟩ : ∃ T, dI lsL s.top v = T := ⟨_, rfl⟩;rw [hT2] at IN HF1 HIX;clear hT2;obtain ⟨m0, m1, m2, m3, m4, m5, m6, m7, m8, m9, m10⟩ := aD K2.out.k.n
        go_wp2_with fail
        refine IN.out.mono ?_;rintro e w7 ⟨hb, ta2, tc2, rfl, ho⟩;have K3 := aA (K2.out.step hb);have HOY := aA ho;clear hb ho IN m0 m1 m2 m3 m4 m5 m6 m7 m8 m9 m10
        go_wp2_with fail
        go_roundw
        case rel => exact ⟨k + 1, { s with n := s.n + 1, top := T2, some := true }, ta2, tc2, _, _, _, _, rfl, rfl, rfl, rfl, rfl, rfl, by go_num, rfl, rfl, rfl, rfl, by omega, HF1, K3, HOY, HIX⟩
        case measure => simp [intOf]; omega
  · have b1 : ¬ (k : Int) < (rs.length : Int) := by omega
    have HR := aA (show bU x s = r by rw [<- HF.out, List.drop_of_length_le (by rw [<- hgs, List.length_map]; omega)]; rfl);obtain ⟨m0, m1, m2, m3, m4, m5, m6, m7, m8, m9, m10⟩ := aD HK.out.k.n;obtain ⟨⟨o0, o1, o2, o3⟩, z0, z1, z2, z3⟩ := aJ HK.out.o;have hk2 := HKK.out;have htl := HI.out.len
    by_cases hlen : x.k < (s.top.length : Int)
    · have HR2 := aA (show EvR.list (s.top.drop (s.top.length - x.k.toNat)) = r by rw [<- HR.out, Dd hc])
      obtain ⟨d, hd⟩ : ∃ d, s.top.length - x.k.toNat = d := ⟨_, rfl⟩;have e1 : (s.top.length : Int) - x.k = (d : Int) := by omega
      have e2 : (0 : Int) <= (d : Int) := by omega
      have e3 : d < s.top.length := by omega
      have e4 : (d : Int) <= (s.top.length : Int) := by omega
      have e6 : ((d : Int)).toNat = d := by omega
      have hne : ¬ s.top = [] := fun e => by rw [e] at e3; simp at e3
      obtain ⟨u0, hu0⟩ : ∃ u, s.top[d]? = some u := ⟨_, List.getElem?_eq_getElem e3⟩;obtain ⟨gb, hgb, -⟩ := cV HO.out (show (ivs s.top)[d]? = some (.int .i64 u0) by rw [List.getElem?_map, hu0]; rfl);subst hgb;have hcy := (pF HO.out).1;have e5 : (d : Int) <= (tc : Int) := by omega
      have e7 : (d : Int) < (tc : Int) := by omega
      have e8 : ¬ tc - d = 0 := by omega
      rw [hd] at HR2;have HD := aA hd;clear hd hne hu0
      go_wp2_with fail
      obtain ⟨⟨y0, y1, y2, y3⟩, -⟩ := aJ (aP HK.out.o (.int .i64 3) (.int .i64 0) (.string ⟨#[]⟩) (.slice (some ⟨gb, d, none⟩) (s.top.length - d) (tc - d)));exact bodyPost_ret (v := .tuple #[vlV 3 0 (some ⟨gb, d, none⟩) (s.top.length - d) (tc - d), .bool true]) (by simp [results, Tryz.results21, go_sem, y0, y1, y2, y3]) rfl (by rw [<- HR2.out]; exact ⟨HK.out.put 3 0 _ _ _, _, _, by rw [List.length_drop], .inr (J4 HK.out HO.out d)⟩)
    · have HR2 := aA (show EvR.list s.top = r by rw [<- HR.out, Dd hc, show s.top.length - x.k.toNat = 0 by omega, List.drop_zero])
      go_wp2_with fail
      obtain ⟨⟨y0, y1, y2, y3⟩, -⟩ := aJ (aP HK.out.o (.int .i64 3) (.int .i64 0) (.string ⟨#[]⟩) (.slice ta s.top.length tc));exact bodyPost_ret (v := .tuple #[vlV 3 0 ta s.top.length tc, .bool true]) (by simp [results, Tryz.results21, go_sem, y0, y1, y2, y3]) rfl (by rw [<- HR2.out]; exact ⟨HK.out.put 3 0 _ _ _, _, _, rfl, Io HK.out HO.out⟩)
set_option maxHeartbeats 16000000 in
set_option maxRecDepth 100000 in
theorem IR {G : Nat -> Prop} (x : AG) (p : PA) (rs : List RW) (ya : Option Addr) (yc : Nat) (w : World) (h : fO x = 0) (hn : fD x) (hU : ∀ r ∈ rs, dU r.A r.n r.g) (hl : rs.length <= 1000) (hr : aI G w x p) (hy : aS w ya rs) (hc : x.fn.data.toList = fV) :
 Calls Tryz.prog 21 #[agV x p, .slice ya rs.length yc] w (fP (evG x (rs.map RW.g)) w) := by
 obtain ⟨h1, h2, h3, h4, h5, h6⟩ := cQ h;have gCount : (x.fn.toList == [99, 111, 117, 110, 116]) = false := aE (by rw [hc]; decide);have gMin : (x.fn.toList == [109, 105, 110]) = true := bG (by rw [hc]; decide);have gMax : (x.fn.toList == [109, 97, 120]) = false := aE (by rw [hc]; decide);have gSum : (x.fn.toList == [115, 117, 109]) = false := aE (by rw [hc]; decide);have gTop : (x.fn.toList == [116, 111, 112]) = false := aE (by rw [hc]; decide);have gFirst : (x.fn.toList == [102, 105, 114, 115, 116]) = false := aE (by rw [hc]; decide);have nCount : ¬ x.fn.data.toList = aO := by rw [hc]; decide
 have nMax : ¬ x.fn.data.toList = gW := by rw [hc]; decide
 have nSum : ¬ x.fn.data.toList = gF := by rw [hc]; decide
 have nTop : ¬ x.fn.data.toList = dN := by rw [hc]; decide
 have nFirst : ¬ x.fn.data.toList = aY := by rw [hc]; decide
 have OKE := aA (And.intro ((aX x.e).1 (h3 nCount)).1 hn.e);have HC := aA h6;have HNC := aA hn.c;have HU := aA hU;have HY := aA hy;have E0 := qJ hr;generalize hW1 : w.alloc (agO x p) = W1 at E0;generalize hW : W1.alloc (vlO 0 0 none 0 0) = W at E0;have HW1 := aA hW1;have HW := aA hW;have HK0 := aA E0;obtain ⟨gs, hgs⟩ : ∃ gs, rs.map RW.g = gs := ⟨_, rfl⟩;rw [hgs];obtain ⟨r, hR⟩ : ∃ r, evG x gs = r := ⟨_, rfl⟩;rw [hR];have HF0 := aA (show bU x ((gs.drop 0).foldl (aU x) es0) = r by rw [List.drop_zero]; exact hR);have HO0 := aA (show W.ownsRow (w.heap.size + 2) 2 1 (.slice none es0.top.length 0) es0.top.length (ivs es0.top) from ⟨rfl, .inl ⟨rfl, rfl⟩⟩);clear hW1 hW E0 hR h1 h2 h3 h4 h6 h hn hU hr hy
 go_enter Tryz.func21, Tryz.ntmps21
 go_upto_region 1 with fail
 rw [HW1.out, show W1.alloc (.cells #[.int .i64 0, .int .i64 0, .string ⟨#[]⟩, .slice none 0 0] 56) = W from HW.out];clear HW1 HW
 go_wp2_with fail
 go_loopw [6, 7, 8, 9, 10, 11, 12, 13, 14, 15, 16] (fun v6 v7 v8 v9 v10 v11 v12 v13 v14 v15 v16 wr => ∃ (k : Nat) (s : ES) (ta : Option Addr) (tc : Nat) (y13 y14 y15 y16 : Value), v6 = .int .i64 s.n /\ v7 = .bool s.some /\ v8 = .int .i64 s.best /\ v9 = .int .i64 s.by' /\ v10 = .int .i64 s.sum /\ v11 = .slice ta s.top.length tc /\ v12 = .int .i64 k /\ v13 = y13 /\ v14 = y14 /\ v15 = y15 /\ v16 = y16 /\ k <= rs.length /\ Hid (bU x ((gs.drop k).foldl (aU x) s) = r) /\ Hid (EW G w x p wr) /\ Hid (wr.ownsRow (w.heap.size + 2) 2 1 (.slice ta s.top.length tc) s.top.length (ivs s.top)) /\ Hid (Fit s k)) (fun _ _ _ _ _ _ i _ _ _ _ _ => rs.length - (intOf i).toNat)
 case atStart => exact ⟨0, es0, none, 0, _, _, _, _, rfl, rfl, rfl, rfl, rfl, rfl, rfl, rfl, rfl, rfl, rfl, Nat.zero_le _, HF0, HK0, HO0, aA Fa⟩
 case round =>
  obtain ⟨k, s, ta, tc, y13, y14, y15, y16, rfl, rfl, rfl, rfl, rfl, rfl, rfl, rfl, rfl, rfl, rfl, hk, HF, HK, HO, HI⟩ := hrel;clear HF0 HK0 HO0
  by_cases hlt : k < rs.length
  · obtain ⟨rw, hrw⟩ : ∃ r, rs[k]? = some r := ⟨_, List.getElem?_eq_getElem hlt⟩
    have hne : ¬ rs = [] := fun e => by rw [e] at hlt; simp at hlt
    obtain ⟨b, off, hya, hbl, hcc⟩ := HY.out.resolve_left hne;subst hya;obtain ⟨y, cy, pc, hry⟩ := hcc k rw hrw;have U := HU.out rw (List.mem_of_getElem? hrw);have hdr' : gs.drop k = rw.g :: gs.drop (k + 1) := nP hgs hrw;have hdr := aA hdr';have BK := aA (HK.out.k.b);have RC := aA (fun V (hV : Below wr.heap.size wr V) => ((BK.out.trans (hV.mono BK.out.size)).cell (p := ⟨b, off + k, none⟩) hbl).trans pc);have RY := aA (fun V (hV : Below wr.heap.size wr V) => hry.kept (BK.out.trans (hV.mono BK.out.size)));have TK := aA (fun V (hV : Below wr.heap.size wr V) => gI U x.wh HC.out HNC.out p.wa p.wc y cy V (HK.out.k.r.c.kept hV) (RY.out V hV) (by omega));have CE := aA (fun V (hV : Below wr.heap.size wr V) => (eQ U x.e OKE.out.1 OKE.out.2).1 G V p.ea p.ec y cy (HK.out.k.r.e.kept hV) (RY.out V hV));have EI := aA (eQ U x.e OKE.out.1 OKE.out.2).2;have OW := aA (fun V (hV : Below wr.heap.size wr V) => aT HO.out hV);obtain ⟨z, hz⟩ : ∃ z, bB rw.g x.wh = z := ⟨_, rfl⟩;rw [hz] at TK;have b1 : (k : Int) < (rs.length : Int) := by omega
    have b2 : (0 : Int) <= (k : Int) := by omega
    have b3 : ((k : Int)).toNat = k := by omega
    have HTZ := aA hz;have hnn := HI.out.n;have hkk : k <= 1000 := by omega
    clear hne hcc hrw pc hry U hdr' hz HO
    have CELLS := aA (p := ∀ V, Below wr.heap.size wr V -> (V.cell? ⟨w.heap.size, 10, none⟩ = some (.slice p.wa x.wh.length p.wc) /\ V.cell? ⟨b, off + k, none⟩ = some (.slice y rw.n cy))) (fun V hV => by
     obtain ⟨m0, m1, m2, m3, m4, m5, m6, m7, m8, m9, m10⟩ := aD (HK.out.step hV).k.n;have rc := RC.out V (id hV);exact ⟨m10, rc⟩)
    obtain ⟨m0, m1, m2, m3, m4, m5, m6, m7, m8, m9, m10⟩ := aD HK.out.k.n;have rc := RC.out wr (Below.refl _ _)
    go_upto_region 10 with fail
    go_region_held3 (fun V => V.cell? ⟨w.heap.size, 10, none⟩ = some (.slice p.wa x.wh.length p.wc) /\ V.cell? ⟨b, off + k, none⟩ = some (.slice y rw.n cy)) (first | assumption | exact ⟨m10, rc⟩ | exact CELLS.out _ B5.out) (first
     | (go_at_call 68
        with_reducible refine (TK.out _ (aM wr)).mono ?_
        rintro e w5 ⟨rfl, hb⟩;have B5 := aA ((aM wr).trans hb);have c5' := CELLS.out _ B5.out;clear hb)
     | fail)
    have K1 := aA (HK.out.step B5.out);have B1 := aA (B5.out);clear B5 CELLS c5' rc m0 m1 m2 m3 m4 m5 m6 m7 m8 m9 m10;clear TK;cases z with
    | false =>
      have HF1 := aA (show bU x ((gs.drop (k + 1)).foldl (aU x) s) = r by rw [<- HF.out, hdr.out, List.foldl_cons, mW HTZ.out]);have HOX := aA (OW.out _ B1.out);have HIX := aA HI.out.more;obtain ⟨m0, m1, m2, m3, m4, m5, m6, m7, m8, m9, m10⟩ := aD K1.out.k.n
      go_wp2_with fail
      go_roundw
      case rel => exact ⟨k + 1, s, ta, tc, _, _, _, _, rfl, rfl, rfl, rfl, rfl, rfl, by go_num, rfl, rfl, rfl, rfl, by omega, HF1, K1, HOX, HIX⟩
      case measure => simp [intOf]; omega
    | true =>
      obtain ⟨ve, hve⟩ : ∃ v, evT rw.g x.e = v := ⟨_, rfl⟩;rw [hve] at CE;have HVE := aA hve;clear hve
      have CELLS := aA (p := ∀ V, Below w5.heap.size w5 V -> (V.cell? ⟨w.heap.size, 2, none⟩ = some (.string x.e.op) /\ V.cell? ⟨w.heap.size, 2 + 1, none⟩ = some (.string x.e.nm) /\ V.cell? ⟨w.heap.size, 2 + 2, none⟩ = some (.int .i64 x.e.n) /\ V.cell? ⟨w.heap.size, 2 + 3, none⟩ = some (.slice p.ea x.e.ks.len p.ec) /\ V.cell? ⟨b, off + k, none⟩ = some (.slice y rw.n cy))) (fun V hV => by
       obtain ⟨m0, m1, m2, m3, m4, m5, m6, m7, m8, m9, m10⟩ := aD (K1.out.step hV).k.n;have rc := RC.out V ((fun h => B1.out.trans (h.mono B1.out.size)) hV);exact ⟨m2, m3, m4, m5, rc⟩)
      obtain ⟨m0, m1, m2, m3, m4, m5, m6, m7, m8, m9, m10⟩ := aD K1.out.k.n;have rc := RC.out w5 B1.out
      go_upto_region 13 with fail
      go_region_held3 (fun V => V.cell? ⟨w.heap.size, 2, none⟩ = some (.string x.e.op) /\ V.cell? ⟨w.heap.size, 2 + 1, none⟩ = some (.string x.e.nm) /\ V.cell? ⟨w.heap.size, 2 + 2, none⟩ = some (.int .i64 x.e.n) /\ V.cell? ⟨w.heap.size, 2 + 3, none⟩ = some (.slice p.ea x.e.ks.len p.ec) /\ V.cell? ⟨b, off + k, none⟩ = some (.slice y rw.n cy)) (first | assumption | exact ⟨m2, m3, m4, m5, rc⟩ | exact CELLS.out _ B5.out) (first
       | (go_at_call 69
          with_reducible refine (CE.out _ (B1.out.trans ((aM w5).mono B1.out.size))).mono ?_
          rintro e w6 ⟨rfl, hb⟩;have B5 := aA ((aM w5).trans hb);have c5' := CELLS.out _ B5.out;clear hb)
       | fail)
      have K2 := aA (K1.out.step B5.out);have B2 := aA (B1.out.trans (B5.out.mono B1.out.size));clear B5 CELLS c5' rc m0 m1 m2 m3 m4 m5 m6 m7 m8 m9 m10;clear CE;cases ve with
      | none =>
        have HF1 := aA (show bU x ((gs.drop (k + 1)).foldl (aU x) { s with n := s.n + 1 }) = r by rw [<- HF.out, hdr.out, List.foldl_cons, kI HTZ.out nCount HVE.out]);have HOX := aA (OW.out _ B2.out);have HIX := aA HI.out.count;obtain ⟨m0, m1, m2, m3, m4, m5, m6, m7, m8, m9, m10⟩ := aD K2.out.k.n
        go_wp2_with fail
        go_roundw
        case rel => exact ⟨k + 1, { s with n := s.n + 1 }, ta, tc, _, _, _, _, rfl, rfl, rfl, rfl, rfl, rfl, by go_num, rfl, rfl, rfl, rfl, by omega, HF1, K2, HOX, HIX⟩
        case measure => simp [intOf]; omega
      | some v =>
        have hv64 := EI.out _ HVE.out;obtain ⟨sn, ss, sb, sy, su, st⟩ := s;dsimp only at *;cases ss with
        | false =>
          have HF1 := aA (show bU x ((gs.drop (k + 1)).foldl (aU x) ⟨sn + 1, true, v, sy, su, st⟩) = r by rw [<- HF.out, hdr.out, List.foldl_cons, rZ HTZ.out hc HVE.out]; congr 3 <;> rw [if_pos (Or.inl rfl)]);have HOX := aA (OW.out _ B2.out);have HIX := aA (HI.out.put' hv64);obtain ⟨m0, m1, m2, m3, m4, m5, m6, m7, m8, m9, m10⟩ := aD K2.out.k.n
          go_wp2_with fail
          go_roundw
          case rel => exact ⟨k + 1, ⟨sn + 1, true, v, sy, su, st⟩, ta, tc, _, _, _, _, rfl, rfl, rfl, rfl, rfl, rfl, by go_num, rfl, rfl, rfl, rfl, by omega, HF1, K2, HOX, HIX⟩
          case measure => simp [intOf]; omega
        | true =>
          by_cases hl : v < sb
          · have HF1 := aA (show bU x ((gs.drop (k + 1)).foldl (aU x) ⟨sn + 1, true, v, sy, su, st⟩) = r by rw [<- HF.out, hdr.out, List.foldl_cons, rZ HTZ.out hc HVE.out]; congr 3 <;> rw [if_pos (Or.inr hl)])
            have HOX := aA (OW.out _ B2.out);have HIX := aA (HI.out.put' hv64);obtain ⟨m0, m1, m2, m3, m4, m5, m6, m7, m8, m9, m10⟩ := aD K2.out.k.n
            go_wp2_with fail
            go_roundw
            case rel => exact ⟨k + 1, ⟨sn + 1, true, v, sy, su, st⟩, ta, tc, _, _, _, _, rfl, rfl, rfl, rfl, rfl, rfl, by go_num, rfl, rfl, rfl, rfl, by omega, HF1, K2, HOX, HIX⟩
            case measure => simp [intOf]; omega
          · have HF1 := aA (show bU x ((gs.drop (k + 1)).foldl (aU x) ⟨sn + 1, true, sb, sy, su, st⟩) = r by rw [<- HF.out, hdr.out, List.foldl_cons, rZ HTZ.out hc HVE.out]; congr 3 <;> rw [if_neg (fun h => h.elim (fun e => by cases e) hl)])
            have HOX := aA (OW.out _ B2.out);have HIX := aA (HI.out.keep);obtain ⟨m0, m1, m2, m3, m4, m5, m6, m7, m8, m9, m10⟩ := aD K2.out.k.n
            go_wp2_with fail
            go_roundw
            case rel => exact ⟨k + 1, ⟨sn + 1, true, sb, sy, su, st⟩, ta, tc, _, _, _, _, rfl, rfl, rfl, rfl, rfl, rfl, by go_num, rfl, rfl, rfl, rfl, by omega, HF1, K2, HOX, HIX⟩
            case measure => simp [intOf]; omega
  · have b1 : ¬ (k : Int) < (rs.length : Int) := by omega
    have HR := aA (show bU x s = r by rw [<- HF.out, List.drop_of_length_le (by rw [<- hgs, List.length_map]; omega)]; rfl);obtain ⟨m0, m1, m2, m3, m4, m5, m6, m7, m8, m9, m10⟩ := aD HK.out.k.n;obtain ⟨⟨o0, o1, o2, o3⟩, z0, z1, z2, z3⟩ := aJ HK.out.o;obtain ⟨sn, ss, sb, sy, su, st⟩ := s;dsimp only at *;cases ss with
    | false =>
      have HR2 := aA (show EvR.no = r by rw [<- HR.out, iY nCount nSum nTop]; rfl)
      go_wp2_with fail
      obtain ⟨⟨y0, y1, y2, y3⟩, -⟩ := aJ (aP HK.out.o (.int .i64 0) (.int .i64 0) (.string ⟨#[]⟩) (.slice none 0 0));exact bodyPost_ret (v := .tuple #[vlV 0 0 none 0 0, .bool false]) (by simp [results, Tryz.results21, go_sem, y0, y1, y2, y3]) rfl (by rw [<- HR2.out]; exact ⟨HK.out.put 0 0 none 0 0, rfl⟩)
    | true =>
      have HR2 := aA (show EvR.num sb = r by rw [<- HR.out, iY nCount nSum nTop]; rfl);have NU := aA (fun V => fZ sb V)
      go_wp2_with fail
      refine (NU.out _).mono ?_;rintro e w5 ⟨rfl, hb⟩;have HK := aA (HK.out.step hb);clear hb NU o0 o1 o2 o3 z0 z1 z2 z3;obtain ⟨⟨o0, o1, o2, o3⟩, z0, z1, z2, z3⟩ := aJ HK.out.o
      go_wp2_with fail
      obtain ⟨⟨y0, y1, y2, y3⟩, -⟩ := aJ (aP HK.out.o (.int .i64 1) (.int .i64 sb) (.string ⟨#[]⟩) (.slice none 0 0));exact bodyPost_ret (v := .tuple #[vlV 1 sb none 0 0, .bool true]) (by simp [results, Tryz.results21, go_sem, y0, y1, y2, y3]) rfl (by rw [<- HR2.out]; exact ⟨HK.out.put 1 sb none 0 0, rfl⟩)
set_option maxHeartbeats 16000000 in
set_option maxRecDepth 100000 in
theorem IS {G : Nat -> Prop} (x : AG) (p : PA) (rs : List RW) (ya : Option Addr) (yc : Nat) (w : World) (h : fO x = 0) (hn : fD x) (hU : ∀ r ∈ rs, dU r.A r.n r.g) (hl : rs.length <= 1000) (hr : aI G w x p) (hy : aS w ya rs) (hc : x.fn.data.toList = gW) :
 Calls Tryz.prog 21 #[agV x p, .slice ya rs.length yc] w (fP (evG x (rs.map RW.g)) w) := by
 obtain ⟨h1, h2, h3, h4, h5, h6⟩ := cQ h;have gCount : (x.fn.toList == [99, 111, 117, 110, 116]) = false := aE (by rw [hc]; decide);have gMin : (x.fn.toList == [109, 105, 110]) = false := aE (by rw [hc]; decide);have gMax : (x.fn.toList == [109, 97, 120]) = true := bG (by rw [hc]; decide);have gSum : (x.fn.toList == [115, 117, 109]) = false := aE (by rw [hc]; decide);have gTop : (x.fn.toList == [116, 111, 112]) = false := aE (by rw [hc]; decide);have gFirst : (x.fn.toList == [102, 105, 114, 115, 116]) = false := aE (by rw [hc]; decide);have nCount : ¬ x.fn.data.toList = aO := by rw [hc]; decide
 have nMin : ¬ x.fn.data.toList = fV := by rw [hc]; decide
 have nSum : ¬ x.fn.data.toList = gF := by rw [hc]; decide
 have nTop : ¬ x.fn.data.toList = dN := by rw [hc]; decide
 have nFirst : ¬ x.fn.data.toList = aY := by rw [hc]; decide
 have OKE := aA (And.intro ((aX x.e).1 (h3 nCount)).1 hn.e);have HC := aA h6;have HNC := aA hn.c;have HU := aA hU;have HY := aA hy;have E0 := qJ hr;generalize hW1 : w.alloc (agO x p) = W1 at E0;generalize hW : W1.alloc (vlO 0 0 none 0 0) = W at E0;have HW1 := aA hW1;have HW := aA hW;have HK0 := aA E0;obtain ⟨gs, hgs⟩ : ∃ gs, rs.map RW.g = gs := ⟨_, rfl⟩;rw [hgs];obtain ⟨r, hR⟩ : ∃ r, evG x gs = r := ⟨_, rfl⟩;rw [hR];have HF0 := aA (show bU x ((gs.drop 0).foldl (aU x) es0) = r by rw [List.drop_zero]; exact hR);have HO0 := aA (show W.ownsRow (w.heap.size + 2) 2 1 (.slice none es0.top.length 0) es0.top.length (ivs es0.top) from ⟨rfl, .inl ⟨rfl, rfl⟩⟩);clear hW1 hW E0 hR h1 h2 h3 h4 h6 h hn hU hr hy
 go_enter Tryz.func21, Tryz.ntmps21
 go_upto_region 1 with fail
 rw [HW1.out, show W1.alloc (.cells #[.int .i64 0, .int .i64 0, .string ⟨#[]⟩, .slice none 0 0] 56) = W from HW.out];clear HW1 HW
 go_wp2_with fail
 go_loopw [6, 7, 8, 9, 10, 11, 12, 13, 14, 15, 16] (fun v6 v7 v8 v9 v10 v11 v12 v13 v14 v15 v16 wr => ∃ (k : Nat) (s : ES) (ta : Option Addr) (tc : Nat) (y13 y14 y15 y16 : Value), v6 = .int .i64 s.n /\ v7 = .bool s.some /\ v8 = .int .i64 s.best /\ v9 = .int .i64 s.by' /\ v10 = .int .i64 s.sum /\ v11 = .slice ta s.top.length tc /\ v12 = .int .i64 k /\ v13 = y13 /\ v14 = y14 /\ v15 = y15 /\ v16 = y16 /\ k <= rs.length /\ Hid (bU x ((gs.drop k).foldl (aU x) s) = r) /\ Hid (EW G w x p wr) /\ Hid (wr.ownsRow (w.heap.size + 2) 2 1 (.slice ta s.top.length tc) s.top.length (ivs s.top)) /\ Hid (Fit s k)) (fun _ _ _ _ _ _ i _ _ _ _ _ => rs.length - (intOf i).toNat)
 case atStart => exact ⟨0, es0, none, 0, _, _, _, _, rfl, rfl, rfl, rfl, rfl, rfl, rfl, rfl, rfl, rfl, rfl, Nat.zero_le _, HF0, HK0, HO0, aA Fa⟩
 case round =>
  obtain ⟨k, s, ta, tc, y13, y14, y15, y16, rfl, rfl, rfl, rfl, rfl, rfl, rfl, rfl, rfl, rfl, rfl, hk, HF, HK, HO, HI⟩ := hrel;clear HF0 HK0 HO0
  by_cases hlt : k < rs.length
  · obtain ⟨rw, hrw⟩ : ∃ r, rs[k]? = some r := ⟨_, List.getElem?_eq_getElem hlt⟩
    have hne : ¬ rs = [] := fun e => by rw [e] at hlt; simp at hlt
    obtain ⟨b, off, hya, hbl, hcc⟩ := HY.out.resolve_left hne;subst hya;obtain ⟨y, cy, pc, hry⟩ := hcc k rw hrw;have U := HU.out rw (List.mem_of_getElem? hrw);have hdr' : gs.drop k = rw.g :: gs.drop (k + 1) := nP hgs hrw;have hdr := aA hdr';have BK := aA (HK.out.k.b);have RC := aA (fun V (hV : Below wr.heap.size wr V) => ((BK.out.trans (hV.mono BK.out.size)).cell (p := ⟨b, off + k, none⟩) hbl).trans pc);have RY := aA (fun V (hV : Below wr.heap.size wr V) => hry.kept (BK.out.trans (hV.mono BK.out.size)));have TK := aA (fun V (hV : Below wr.heap.size wr V) => gI U x.wh HC.out HNC.out p.wa p.wc y cy V (HK.out.k.r.c.kept hV) (RY.out V hV) (by omega));have CE := aA (fun V (hV : Below wr.heap.size wr V) => (eQ U x.e OKE.out.1 OKE.out.2).1 G V p.ea p.ec y cy (HK.out.k.r.e.kept hV) (RY.out V hV));have EI := aA (eQ U x.e OKE.out.1 OKE.out.2).2;have OW := aA (fun V (hV : Below wr.heap.size wr V) => aT HO.out hV);obtain ⟨z, hz⟩ : ∃ z, bB rw.g x.wh = z := ⟨_, rfl⟩;rw [hz] at TK;have b1 : (k : Int) < (rs.length : Int) := by omega
    have b2 : (0 : Int) <= (k : Int) := by omega
    have b3 : ((k : Int)).toNat = k := by omega
    have HTZ := aA hz;have hnn := HI.out.n;have hkk : k <= 1000 := by omega
    clear hne hcc hrw pc hry U hdr' hz HO
    have CELLS := aA (p := ∀ V, Below wr.heap.size wr V -> (V.cell? ⟨w.heap.size, 10, none⟩ = some (.slice p.wa x.wh.length p.wc) /\ V.cell? ⟨b, off + k, none⟩ = some (.slice y rw.n cy))) (fun V hV => by
     obtain ⟨m0, m1, m2, m3, m4, m5, m6, m7, m8, m9, m10⟩ := aD (HK.out.step hV).k.n;have rc := RC.out V (id hV);exact ⟨m10, rc⟩)
    obtain ⟨m0, m1, m2, m3, m4, m5, m6, m7, m8, m9, m10⟩ := aD HK.out.k.n;have rc := RC.out wr (Below.refl _ _)
    go_upto_region 10 with fail
    go_region_held3 (fun V => V.cell? ⟨w.heap.size, 10, none⟩ = some (.slice p.wa x.wh.length p.wc) /\ V.cell? ⟨b, off + k, none⟩ = some (.slice y rw.n cy)) (first | assumption | exact ⟨m10, rc⟩ | exact CELLS.out _ B5.out) (first
     | (go_at_call 68
        with_reducible refine (TK.out _ (aM wr)).mono ?_
        rintro e w5 ⟨rfl, hb⟩;have B5 := aA ((aM wr).trans hb);have c5' := CELLS.out _ B5.out;clear hb)
     | fail)
    have K1 := aA (HK.out.step B5.out);have B1 := aA (B5.out);clear B5 CELLS c5' rc m0 m1 m2 m3 m4 m5 m6 m7 m8 m9 m10;clear TK;cases z with
    | false =>
      have HF1 := aA (show bU x ((gs.drop (k + 1)).foldl (aU x) s) = r by rw [<- HF.out, hdr.out, List.foldl_cons, mW HTZ.out]);have HOX := aA (OW.out _ B1.out);have HIX := aA HI.out.more;obtain ⟨m0, m1, m2, m3, m4, m5, m6, m7, m8, m9, m10⟩ := aD K1.out.k.n
      go_wp2_with fail
      go_roundw
      case rel => exact ⟨k + 1, s, ta, tc, _, _, _, _, rfl, rfl, rfl, rfl, rfl, rfl, by go_num, rfl, rfl, rfl, rfl, by omega, HF1, K1, HOX, HIX⟩
      case measure => simp [intOf]; omega
    | true =>
      obtain ⟨ve, hve⟩ : ∃ v, evT rw.g x.e = v := ⟨_, rfl⟩;rw [hve] at CE;have HVE := aA hve;clear hve
      have CELLS := aA (p := ∀ V, Below w5.heap.size w5 V -> (V.cell? ⟨w.heap.size, 2, none⟩ = some (.string x.e.op) /\ V.cell? ⟨w.heap.size, 2 + 1, none⟩ = some (.string x.e.nm) /\ V.cell? ⟨w.heap.size, 2 + 2, none⟩ = some (.int .i64 x.e.n) /\ V.cell? ⟨w.heap.size, 2 + 3, none⟩ = some (.slice p.ea x.e.ks.len p.ec) /\ V.cell? ⟨b, off + k, none⟩ = some (.slice y rw.n cy))) (fun V hV => by
       obtain ⟨m0, m1, m2, m3, m4, m5, m6, m7, m8, m9, m10⟩ := aD (K1.out.step hV).k.n;have rc := RC.out V ((fun h => B1.out.trans (h.mono B1.out.size)) hV);exact ⟨m2, m3, m4, m5, rc⟩)
      obtain ⟨m0, m1, m2, m3, m4, m5, m6, m7, m8, m9, m10⟩ := aD K1.out.k.n;have rc := RC.out w5 B1.out
      go_upto_region 13 with fail
      go_region_held3 (fun V => V.cell? ⟨w.heap.size, 2, none⟩ = some (.string x.e.op) /\ V.cell? ⟨w.heap.size, 2 + 1, none⟩ = some (.string x.e.nm) /\ V.cell? ⟨w.heap.size, 2 + 2, none⟩ = some (.int .i64 x.e.n) /\ V.cell? ⟨w.heap.size, 2 + 3, none⟩ = some (.slice p.ea x.e.ks.len p.ec) /\ V.cell? ⟨b, off + k, none⟩ = some (.slice y rw.n cy)) (first | assumption | exact ⟨m2, m3, m4, m5, rc⟩ | exact CELLS.out _ B5.out) (first
       | (go_at_call 69
          with_reducible refine (CE.out _ (B1.out.trans ((aM w5).mono B1.out.size))).mono ?_
          rintro e w6 ⟨rfl, hb⟩;have B5 := aA ((aM w5).trans hb);have c5' := CELLS.out _ B5.out;clear hb)
       | fail)
      have K2 := aA (K1.out.step B5.out);have B2 := aA (B1.out.trans (B5.out.mono B1.out.size));clear B5 CELLS c5' rc m0 m1 m2 m3 m4 m5 m6 m7 m8 m9 m10;clear CE;cases ve with
      | none =>
        have HF1 := aA (show bU x ((gs.drop (k + 1)).foldl (aU x) { s with n := s.n + 1 }) = r by rw [<- HF.out, hdr.out, List.foldl_cons, kI HTZ.out nCount HVE.out]);have HOX := aA (OW.out _ B2.out);have HIX := aA HI.out.count;obtain ⟨m0, m1, m2, m3, m4, m5, m6, m7, m8, m9, m10⟩ := aD K2.out.k.n
        go_wp2_with fail
        go_roundw
        case rel => exact ⟨k + 1, { s with n := s.n + 1 }, ta, tc, _, _, _, _, rfl, rfl, rfl, rfl, rfl, rfl, by go_num, rfl, rfl, rfl, rfl, by omega, HF1, K2, HOX, HIX⟩
        case measure => simp [intOf]; omega
      | some v =>
        have hv64 := EI.out _ HVE.out;obtain ⟨sn, ss, sb, sy, su, st⟩ := s;dsimp only at *;cases ss with
        | false =>
          have HF1 := aA (show bU x ((gs.drop (k + 1)).foldl (aU x) ⟨sn + 1, true, v, sy, su, st⟩) = r by rw [<- HF.out, hdr.out, List.foldl_cons, r8 HTZ.out hc HVE.out]; congr 3 <;> rw [if_pos (Or.inl rfl)]);have HOX := aA (OW.out _ B2.out);have HIX := aA (HI.out.put' hv64);obtain ⟨m0, m1, m2, m3, m4, m5, m6, m7, m8, m9, m10⟩ := aD K2.out.k.n
          go_wp2_with fail
          go_roundw
          case rel => exact ⟨k + 1, ⟨sn + 1, true, v, sy, su, st⟩, ta, tc, _, _, _, _, rfl, rfl, rfl, rfl, rfl, rfl, by go_num, rfl, rfl, rfl, rfl, by omega, HF1, K2, HOX, HIX⟩
          case measure => simp [intOf]; omega
        | true =>
          by_cases hl : sb < v
          · have HF1 := aA (show bU x ((gs.drop (k + 1)).foldl (aU x) ⟨sn + 1, true, v, sy, su, st⟩) = r by rw [<- HF.out, hdr.out, List.foldl_cons, r8 HTZ.out hc HVE.out]; congr 3 <;> rw [if_pos (Or.inr hl)])
            have HOX := aA (OW.out _ B2.out);have HIX := aA (HI.out.put' hv64);obtain ⟨m0, m1, m2, m3, m4, m5, m6, m7, m8, m9, m10⟩ := aD K2.out.k.n
            go_wp2_with fail
            go_roundw
            case rel => exact ⟨k + 1, ⟨sn + 1, true, v, sy, su, st⟩, ta, tc, _, _, _, _, rfl, rfl, rfl, rfl, rfl, rfl, by go_num, rfl, rfl, rfl, rfl, by omega, HF1, K2, HOX, HIX⟩
            case measure => simp [intOf]; omega
          · have HF1 := aA (show bU x ((gs.drop (k + 1)).foldl (aU x) ⟨sn + 1, true, sb, sy, su, st⟩) = r by rw [<- HF.out, hdr.out, List.foldl_cons, r8 HTZ.out hc HVE.out]; congr 3 <;> rw [if_neg (fun h => h.elim (fun e => by cases e) hl)])
            have HOX := aA (OW.out _ B2.out);have HIX := aA (HI.out.keep);obtain ⟨m0, m1, m2, m3, m4, m5, m6, m7, m8, m9, m10⟩ := aD K2.out.k.n
            go_wp2_with fail
            go_roundw
            case rel => exact ⟨k + 1, ⟨sn + 1, true, sb, sy, su, st⟩, ta, tc, _, _, _, _, rfl, rfl, rfl, rfl, rfl, rfl, by go_num, rfl, rfl, rfl, rfl, by omega, HF1, K2, HOX, HIX⟩
            case measure => simp [intOf]; omega
  · have b1 : ¬ (k : Int) < (rs.length : Int) := by omega
    have HR := aA (show bU x s = r by rw [<- HF.out, List.drop_of_length_le (by rw [<- hgs, List.length_map]; omega)]; rfl);obtain ⟨m0, m1, m2, m3, m4, m5, m6, m7, m8, m9, m10⟩ := aD HK.out.k.n;obtain ⟨⟨o0, o1, o2, o3⟩, z0, z1, z2, z3⟩ := aJ HK.out.o;obtain ⟨sn, ss, sb, sy, su, st⟩ := s;dsimp only at *;cases ss with
    | false =>
      have HR2 := aA (show EvR.no = r by rw [<- HR.out, iY nCount nSum nTop]; rfl)
      go_wp2_with fail
      obtain ⟨⟨y0, y1, y2, y3⟩, -⟩ := aJ (aP HK.out.o (.int .i64 0) (.int .i64 0) (.string ⟨#[]⟩) (.slice none 0 0));exact bodyPost_ret (v := .tuple #[vlV 0 0 none 0 0, .bool false]) (by simp [results, Tryz.results21, go_sem, y0, y1, y2, y3]) rfl (by rw [<- HR2.out]; exact ⟨HK.out.put 0 0 none 0 0, rfl⟩)
    | true =>
      have HR2 := aA (show EvR.num sb = r by rw [<- HR.out, iY nCount nSum nTop]; rfl);have NU := aA (fun V => fZ sb V)
      go_wp2_with fail
      refine (NU.out _).mono ?_;rintro e w5 ⟨rfl, hb⟩;have HK := aA (HK.out.step hb);clear hb NU o0 o1 o2 o3 z0 z1 z2 z3;obtain ⟨⟨o0, o1, o2, o3⟩, z0, z1, z2, z3⟩ := aJ HK.out.o
      go_wp2_with fail
      obtain ⟨⟨y0, y1, y2, y3⟩, -⟩ := aJ (aP HK.out.o (.int .i64 1) (.int .i64 sb) (.string ⟨#[]⟩) (.slice none 0 0));exact bodyPost_ret (v := .tuple #[vlV 1 sb none 0 0, .bool true]) (by simp [results, Tryz.results21, go_sem, y0, y1, y2, y3]) rfl (by rw [<- HR2.out]; exact ⟨HK.out.put 1 sb none 0 0, rfl⟩)
set_option maxHeartbeats 16000000 in
set_option maxRecDepth 100000 in
theorem DP {G : Nat -> Prop} (x : AG) (p : PA) (rs : List RW) (ya : Option Addr) (yc : Nat) (w : World) (h : fO x = 0) (hn : fD x) (hU : ∀ r ∈ rs, dU r.A r.n r.g) (hl : rs.length <= 1000) (hr : aI G w x p) (hy : aS w ya rs) (hc : x.fn.data.toList = aY) :
 Calls Tryz.prog 21 #[agV x p, .slice ya rs.length yc] w (fP (evG x (rs.map RW.g)) w) := by
 obtain ⟨h1, h2, h3, h4, h5, h6⟩ := cQ h;have gCount : (x.fn.toList == [99, 111, 117, 110, 116]) = false := aE (by rw [hc]; decide);have gMin : (x.fn.toList == [109, 105, 110]) = false := aE (by rw [hc]; decide);have gMax : (x.fn.toList == [109, 97, 120]) = false := aE (by rw [hc]; decide);have gSum : (x.fn.toList == [115, 117, 109]) = false := aE (by rw [hc]; decide);have gTop : (x.fn.toList == [116, 111, 112]) = false := aE (by rw [hc]; decide);have gFirst : (x.fn.toList == [102, 105, 114, 115, 116]) = true := bG (by rw [hc]; decide);have nCount : ¬ x.fn.data.toList = aO := by rw [hc]; decide
 have nMin : ¬ x.fn.data.toList = fV := by rw [hc]; decide
 have nMax : ¬ x.fn.data.toList = gW := by rw [hc]; decide
 have nSum : ¬ x.fn.data.toList = gF := by rw [hc]; decide
 have nTop : ¬ x.fn.data.toList = dN := by rw [hc]; decide
 have OKE := aA (And.intro ((aX x.e).1 (h3 nCount)).1 hn.e);have OKG := aA (And.intro ((aX x.g).1 (h4 hc)).1 hn.g);have HC := aA h6;have HNC := aA hn.c;have HU := aA hU;have HY := aA hy;have E0 := qJ hr;generalize hW1 : w.alloc (agO x p) = W1 at E0;generalize hW : W1.alloc (vlO 0 0 none 0 0) = W at E0;have HW1 := aA hW1;have HW := aA hW;have HK0 := aA E0;obtain ⟨gs, hgs⟩ : ∃ gs, rs.map RW.g = gs := ⟨_, rfl⟩;rw [hgs];obtain ⟨r, hR⟩ : ∃ r, evG x gs = r := ⟨_, rfl⟩;rw [hR];have HF0 := aA (show bU x ((gs.drop 0).foldl (aU x) es0) = r by rw [List.drop_zero]; exact hR);have HO0 := aA (show W.ownsRow (w.heap.size + 2) 2 1 (.slice none es0.top.length 0) es0.top.length (ivs es0.top) from ⟨rfl, .inl ⟨rfl, rfl⟩⟩);clear hW1 hW E0 hR h1 h2 h3 h4 h6 h hn hU hr hy
 go_enter Tryz.func21, Tryz.ntmps21
 go_upto_region 1 with fail
 rw [HW1.out, show W1.alloc (.cells #[.int .i64 0, .int .i64 0, .string ⟨#[]⟩, .slice none 0 0] 56) = W from HW.out];clear HW1 HW
 go_wp2_with fail
 go_loopw [6, 7, 8, 9, 10, 11, 12, 13, 14, 15, 16] (fun v6 v7 v8 v9 v10 v11 v12 v13 v14 v15 v16 wr => ∃ (k : Nat) (s : ES) (ta : Option Addr) (tc : Nat) (y13 y14 y15 y16 : Value), v6 = .int .i64 s.n /\ v7 = .bool s.some /\ v8 = .int .i64 s.best /\ v9 = .int .i64 s.by' /\ v10 = .int .i64 s.sum /\ v11 = .slice ta s.top.length tc /\ v12 = .int .i64 k /\ v13 = y13 /\ v14 = y14 /\ v15 = y15 /\ v16 = y16 /\ k <= rs.length /\ Hid (bU x ((gs.drop k).foldl (aU x) s) = r) /\ Hid (EW G w x p wr) /\ Hid (wr.ownsRow (w.heap.size + 2) 2 1 (.slice ta s.top.length tc) s.top.length (ivs s.top)) /\ Hid (Fit s k)) (fun _ _ _ _ _ _ i _ _ _ _ _ => rs.length - (intOf i).toNat)
 case atStart => exact ⟨0, es0, none, 0, _, _, _, _, rfl, rfl, rfl, rfl, rfl, rfl, rfl, rfl, rfl, rfl, rfl, Nat.zero_le _, HF0, HK0, HO0, aA Fa⟩
 case round =>
  obtain ⟨k, s, ta, tc, y13, y14, y15, y16, rfl, rfl, rfl, rfl, rfl, rfl, rfl, rfl, rfl, rfl, rfl, hk, HF, HK, HO, HI⟩ := hrel;clear HF0 HK0 HO0
  by_cases hlt : k < rs.length
  · obtain ⟨rw, hrw⟩ : ∃ r, rs[k]? = some r := ⟨_, List.getElem?_eq_getElem hlt⟩
    have hne : ¬ rs = [] := fun e => by rw [e] at hlt; simp at hlt
    obtain ⟨b, off, hya, hbl, hcc⟩ := HY.out.resolve_left hne;subst hya;obtain ⟨y, cy, pc, hry⟩ := hcc k rw hrw;have U := HU.out rw (List.mem_of_getElem? hrw);have hdr' : gs.drop k = rw.g :: gs.drop (k + 1) := nP hgs hrw;have hdr := aA hdr';have BK := aA (HK.out.k.b);have RC := aA (fun V (hV : Below wr.heap.size wr V) => ((BK.out.trans (hV.mono BK.out.size)).cell (p := ⟨b, off + k, none⟩) hbl).trans pc);have RY := aA (fun V (hV : Below wr.heap.size wr V) => hry.kept (BK.out.trans (hV.mono BK.out.size)));have TK := aA (fun V (hV : Below wr.heap.size wr V) => gI U x.wh HC.out HNC.out p.wa p.wc y cy V (HK.out.k.r.c.kept hV) (RY.out V hV) (by omega));have CE := aA (fun V (hV : Below wr.heap.size wr V) => (eQ U x.e OKE.out.1 OKE.out.2).1 G V p.ea p.ec y cy (HK.out.k.r.e.kept hV) (RY.out V hV));have EI := aA (eQ U x.e OKE.out.1 OKE.out.2).2;have CG := aA (fun V (hV : Below wr.heap.size wr V) => (eQ U x.g OKG.out.1 OKG.out.2).1 G V p.ga p.gc y cy (HK.out.k.r.g.kept hV) (RY.out V hV));have GI := aA (eQ U x.g OKG.out.1 OKG.out.2).2;have OW := aA (fun V (hV : Below wr.heap.size wr V) => aT HO.out hV);obtain ⟨z, hz⟩ : ∃ z, bB rw.g x.wh = z := ⟨_, rfl⟩;rw [hz] at TK;have b1 : (k : Int) < (rs.length : Int) := by omega
    have b2 : (0 : Int) <= (k : Int) := by omega
    have b3 : ((k : Int)).toNat = k := by omega
    have HTZ := aA hz;have hnn := HI.out.n;have hkk : k <= 1000 := by omega
    clear hne hcc hrw pc hry U hdr' hz HO
    have CELLS := aA (p := ∀ V, Below wr.heap.size wr V -> (V.cell? ⟨w.heap.size, 10, none⟩ = some (.slice p.wa x.wh.length p.wc) /\ V.cell? ⟨b, off + k, none⟩ = some (.slice y rw.n cy))) (fun V hV => by
     obtain ⟨m0, m1, m2, m3, m4, m5, m6, m7, m8, m9, m10⟩ := aD (HK.out.step hV).k.n;have rc := RC.out V (id hV);exact ⟨m10, rc⟩)
    obtain ⟨m0, m1, m2, m3, m4, m5, m6, m7, m8, m9, m10⟩ := aD HK.out.k.n;have rc := RC.out wr (Below.refl _ _)
    go_upto_region 10 with fail
    go_region_held3 (fun V => V.cell? ⟨w.heap.size, 10, none⟩ = some (.slice p.wa x.wh.length p.wc) /\ V.cell? ⟨b, off + k, none⟩ = some (.slice y rw.n cy)) (first | assumption | exact ⟨m10, rc⟩ | exact CELLS.out _ B5.out) (first
     | (go_at_call 68
        with_reducible refine (TK.out _ (aM wr)).mono ?_
        rintro e w5 ⟨rfl, hb⟩;have B5 := aA ((aM wr).trans hb);have c5' := CELLS.out _ B5.out;clear hb)
     | fail)
    have K1 := aA (HK.out.step B5.out);have B1 := aA (B5.out);clear B5 CELLS c5' rc m0 m1 m2 m3 m4 m5 m6 m7 m8 m9 m10;clear TK;cases z with
    | false =>
      have HF1 := aA (show bU x ((gs.drop (k + 1)).foldl (aU x) s) = r by rw [<- HF.out, hdr.out, List.foldl_cons, mW HTZ.out]);have HOX := aA (OW.out _ B1.out);have HIX := aA HI.out.more;obtain ⟨m0, m1, m2, m3, m4, m5, m6, m7, m8, m9, m10⟩ := aD K1.out.k.n
      go_wp2_with fail
      go_roundw
      case rel => exact ⟨k + 1, s, ta, tc, _, _, _, _, rfl, rfl, rfl, rfl, rfl, rfl, by go_num, rfl, rfl, rfl, rfl, by omega, HF1, K1, HOX, HIX⟩
      case measure => simp [intOf]; omega
    | true =>
      obtain ⟨ve, hve⟩ : ∃ v, evT rw.g x.e = v := ⟨_, rfl⟩;rw [hve] at CE;have HVE := aA hve;clear hve
      have CELLS := aA (p := ∀ V, Below w5.heap.size w5 V -> (V.cell? ⟨w.heap.size, 2, none⟩ = some (.string x.e.op) /\ V.cell? ⟨w.heap.size, 2 + 1, none⟩ = some (.string x.e.nm) /\ V.cell? ⟨w.heap.size, 2 + 2, none⟩ = some (.int .i64 x.e.n) /\ V.cell? ⟨w.heap.size, 2 + 3, none⟩ = some (.slice p.ea x.e.ks.len p.ec) /\ V.cell? ⟨b, off + k, none⟩ = some (.slice y rw.n cy))) (fun V hV => by
       obtain ⟨m0, m1, m2, m3, m4, m5, m6, m7, m8, m9, m10⟩ := aD (K1.out.step hV).k.n;have rc := RC.out V ((fun h => B1.out.trans (h.mono B1.out.size)) hV);exact ⟨m2, m3, m4, m5, rc⟩)
      obtain ⟨m0, m1, m2, m3, m4, m5, m6, m7, m8, m9, m10⟩ := aD K1.out.k.n;have rc := RC.out w5 B1.out
      go_upto_region 13 with fail
      go_region_held3 (fun V => V.cell? ⟨w.heap.size, 2, none⟩ = some (.string x.e.op) /\ V.cell? ⟨w.heap.size, 2 + 1, none⟩ = some (.string x.e.nm) /\ V.cell? ⟨w.heap.size, 2 + 2, none⟩ = some (.int .i64 x.e.n) /\ V.cell? ⟨w.heap.size, 2 + 3, none⟩ = some (.slice p.ea x.e.ks.len p.ec) /\ V.cell? ⟨b, off + k, none⟩ = some (.slice y rw.n cy)) (first | assumption | exact ⟨m2, m3, m4, m5, rc⟩ | exact CELLS.out _ B5.out) (first
       | (go_at_call 69
          with_reducible refine (CE.out _ (B1.out.trans ((aM w5).mono B1.out.size))).mono ?_
          rintro e w6 ⟨rfl, hb⟩;have B5 := aA ((aM w5).trans hb);have c5' := CELLS.out _ B5.out;clear hb)
       | fail)
      have K2 := aA (K1.out.step B5.out);have B2 := aA (B1.out.trans (B5.out.mono B1.out.size));clear B5 CELLS c5' rc m0 m1 m2 m3 m4 m5 m6 m7 m8 m9 m10;clear CE;cases ve with
      | none =>
        have HF1 := aA (show bU x ((gs.drop (k + 1)).foldl (aU x) { s with n := s.n + 1 }) = r by rw [<- HF.out, hdr.out, List.foldl_cons, kI HTZ.out nCount HVE.out]);have HOX := aA (OW.out _ B2.out);have HIX := aA HI.out.count;obtain ⟨m0, m1, m2, m3, m4, m5, m6, m7, m8, m9, m10⟩ := aD K2.out.k.n
        go_wp2_with fail
        go_roundw
        case rel => exact ⟨k + 1, { s with n := s.n + 1 }, ta, tc, _, _, _, _, rfl, rfl, rfl, rfl, rfl, rfl, by go_num, rfl, rfl, rfl, rfl, by omega, HF1, K2, HOX, HIX⟩
        case measure => simp [intOf]; omega
      | some v =>
        have hv64 := EI.out _ HVE.out;obtain ⟨vg, hvg⟩ : ∃ v, evT rw.g x.g = v := ⟨_, rfl⟩;rw [hvg] at CG;have HVG := aA hvg;clear hvg
        have CELLS := aA (p := ∀ V, Below w6.heap.size w6 V -> (V.cell? ⟨w.heap.size, 6, none⟩ = some (.string x.g.op) /\ V.cell? ⟨w.heap.size, 6 + 1, none⟩ = some (.string x.g.nm) /\ V.cell? ⟨w.heap.size, 6 + 2, none⟩ = some (.int .i64 x.g.n) /\ V.cell? ⟨w.heap.size, 6 + 3, none⟩ = some (.slice p.ga x.g.ks.len p.gc) /\ V.cell? ⟨b, off + k, none⟩ = some (.slice y rw.n cy))) (fun V hV => by
         obtain ⟨m0, m1, m2, m3, m4, m5, m6, m7, m8, m9, m10⟩ := aD (K2.out.step hV).k.n;have rc := RC.out V ((fun h => B2.out.trans (h.mono B2.out.size)) hV);exact ⟨m6, m7, m8, m9, rc⟩)
        obtain ⟨m0, m1, m2, m3, m4, m5, m6, m7, m8, m9, m10⟩ := aD K2.out.k.n;have rc := RC.out w6 B2.out
        go_upto_region 27 with fail
        go_region_held3 (fun V => V.cell? ⟨w.heap.size, 6, none⟩ = some (.string x.g.op) /\ V.cell? ⟨w.heap.size, 6 + 1, none⟩ = some (.string x.g.nm) /\ V.cell? ⟨w.heap.size, 6 + 2, none⟩ = some (.int .i64 x.g.n) /\ V.cell? ⟨w.heap.size, 6 + 3, none⟩ = some (.slice p.ga x.g.ks.len p.gc) /\ V.cell? ⟨b, off + k, none⟩ = some (.slice y rw.n cy)) (first | assumption | exact ⟨m6, m7, m8, m9, rc⟩ | exact CELLS.out _ B5.out) (first
         | (go_at_call 69
            with_reducible refine (CG.out _ (B2.out.trans ((aM w6).mono B2.out.size))).mono ?_
            rintro e w7 ⟨rfl, hb⟩;have B5 := aA ((aM w6).trans hb);have c5' := CELLS.out _ B5.out;clear hb)
         | fail)
        have K3 := aA (K2.out.step B5.out);have B3 := aA (B2.out.trans (B5.out.mono B2.out.size));clear B5 CELLS c5' rc m0 m1 m2 m3 m4 m5 m6 m7 m8 m9 m10;clear CG;cases vg with
        | none =>
          have HF1 := aA (show bU x ((gs.drop (k + 1)).foldl (aU x) { s with n := s.n + 1 }) = r by rw [<- HF.out, hdr.out, List.foldl_cons, lE HTZ.out hc HVE.out, HVG.out]);have HOX := aA (OW.out _ B3.out);have HIX := aA HI.out.count;obtain ⟨m0, m1, m2, m3, m4, m5, m6, m7, m8, m9, m10⟩ := aD K3.out.k.n
          go_wp2_with fail
          go_roundw
          case rel => exact ⟨k + 1, { s with n := s.n + 1 }, ta, tc, _, _, _, _, rfl, rfl, rfl, rfl, rfl, rfl, by go_num, rfl, rfl, rfl, rfl, by omega, HF1, K3, HOX, HIX⟩
          case measure => simp [intOf]; omega
        | some v2 =>
          have hv65 := GI.out _ HVG.out;obtain ⟨sn, ss, sb, sy, su, st⟩ := s;dsimp only at *;cases ss with
          | false =>
            have HF1 := aA (show bU x ((gs.drop (k + 1)).foldl (aU x) ⟨sn + 1, true, v, v2, su, st⟩) = r by rw [<- HF.out, hdr.out, List.foldl_cons, lE HTZ.out hc HVE.out, HVG.out]; first | rfl | (simp only; first | rw [if_pos (Or.inl rfl)] | rw [if_pos hl] | rw [if_neg hl]));have HOX := aA (OW.out _ B3.out);have HIX := aA (HI.out.first hv64 hv65);obtain ⟨m0, m1, m2, m3, m4, m5, m6, m7, m8, m9, m10⟩ := aD K3.out.k.n
            go_wp2_with fail
            go_roundw
            case rel => exact ⟨k + 1, ⟨sn + 1, true, v, v2, su, st⟩, ta, tc, _, _, _, _, rfl, rfl, rfl, rfl, rfl, rfl, by go_num, rfl, rfl, rfl, rfl, by omega, HF1, K3, HOX, HIX⟩
            case measure => simp [intOf]; omega
          | true =>
            by_cases hl : v2 < sy
            · have HF1 := aA (show bU x ((gs.drop (k + 1)).foldl (aU x) ⟨sn + 1, true, v, v2, su, st⟩) = r by rw [<- HF.out, hdr.out, List.foldl_cons, lE HTZ.out hc HVE.out, HVG.out]; first | rfl | (simp only; first | rw [if_pos (Or.inr hl)] | rw [if_pos hl] | rw [if_neg hl]))
              have HOX := aA (OW.out _ B3.out);have HIX := aA (HI.out.first hv64 hv65);obtain ⟨m0, m1, m2, m3, m4, m5, m6, m7, m8, m9, m10⟩ := aD K3.out.k.n
              go_wp2_with fail
              go_roundw
              case rel => exact ⟨k + 1, ⟨sn + 1, true, v, v2, su, st⟩, ta, tc, _, _, _, _, rfl, rfl, rfl, rfl, rfl, rfl, by go_num, rfl, rfl, rfl, rfl, by omega, HF1, K3, HOX, HIX⟩
              case measure => simp [intOf]; omega
            · have HF1 := aA (show bU x ((gs.drop (k + 1)).foldl (aU x) ⟨sn + 1, true, sb, sy, su, st⟩) = r by rw [<- HF.out, hdr.out, List.foldl_cons, lE HTZ.out hc HVE.out, HVG.out]; first | rfl | (simp only; first | rw [if_neg (fun h => h.elim (fun e => by cases e) hl)] | rw [if_pos hl] | rw [if_neg hl]))
              have HOX := aA (OW.out _ B3.out);have HIX := aA (HI.out.keep);obtain ⟨m0, m1, m2, m3, m4, m5, m6, m7, m8, m9, m10⟩ := aD K3.out.k.n
              go_wp2_with fail
              go_roundw
              case rel => exact ⟨k + 1, ⟨sn + 1, true, sb, sy, su, st⟩, ta, tc, _, _, _, _, rfl, rfl, rfl, rfl, rfl, rfl, by go_num, rfl, rfl, rfl, rfl, by omega, HF1, K3, HOX, HIX⟩
              case measure => simp [intOf]; omega
  · have b1 : ¬ (k : Int) < (rs.length : Int) := by omega
    have HR := aA (show bU x s = r by rw [<- HF.out, List.drop_of_length_le (by rw [<- hgs, List.length_map]; omega)]; rfl);obtain ⟨m0, m1, m2, m3, m4, m5, m6, m7, m8, m9, m10⟩ := aD HK.out.k.n;obtain ⟨⟨o0, o1, o2, o3⟩, z0, z1, z2, z3⟩ := aJ HK.out.o;obtain ⟨sn, ss, sb, sy, su, st⟩ := s;dsimp only at *;cases ss with
    | false =>
      have HR2 := aA (show EvR.no = r by rw [<- HR.out, iY nCount nSum nTop]; rfl)
      go_wp2_with fail
      obtain ⟨⟨y0, y1, y2, y3⟩, -⟩ := aJ (aP HK.out.o (.int .i64 0) (.int .i64 0) (.string ⟨#[]⟩) (.slice none 0 0));exact bodyPost_ret (v := .tuple #[vlV 0 0 none 0 0, .bool false]) (by simp [results, Tryz.results21, go_sem, y0, y1, y2, y3]) rfl (by rw [<- HR2.out]; exact ⟨HK.out.put 0 0 none 0 0, rfl⟩)
    | true =>
      have HR2 := aA (show EvR.num sb = r by rw [<- HR.out, iY nCount nSum nTop]; rfl);have NU := aA (fun V => fZ sb V)
      go_wp2_with fail
      refine (NU.out _).mono ?_;rintro e w5 ⟨rfl, hb⟩;have HK := aA (HK.out.step hb);clear hb NU o0 o1 o2 o3 z0 z1 z2 z3;obtain ⟨⟨o0, o1, o2, o3⟩, z0, z1, z2, z3⟩ := aJ HK.out.o
      go_wp2_with fail
      obtain ⟨⟨y0, y1, y2, y3⟩, -⟩ := aJ (aP HK.out.o (.int .i64 1) (.int .i64 sb) (.string ⟨#[]⟩) (.slice none 0 0));exact bodyPost_ret (v := .tuple #[vlV 1 sb none 0 0, .bool true]) (by simp [results, Tryz.results21, go_sem, y0, y1, y2, y3]) rfl (by rw [<- HR2.out]; exact ⟨HK.out.put 1 sb none 0 0, rfl⟩)
theorem DO {G : Nat -> Prop} (x : AG) (p : PA) (rs : List RW) (ya : Option Addr) (yc : Nat) (w : World) (h : fO x = 0) (hn : fD x) (hU : ∀ r ∈ rs, dU r.A r.n r.g) (hl : rs.length <= 1000) (hr : aI G w x p) (hy : aS w ya rs) :
 Calls Tryz.prog 21 #[agV x p, .slice ya rs.length yc] w (fP (evG x (rs.map RW.g)) w) := by
 have h1 := (cQ h).1;unfold dH at h1;simp only [Bool.or_eq_true, beq_iff_eq] at h1
 rcases h1 with ((((h1 | h1) | h1) | h1) | h1) | h1
 · exact DQ x p rs ya yc w h hn hU hl hr hy h1
 · exact IR x p rs ya yc w h hn hU hl hr hy h1
 · exact IS x p rs ya yc w h hn hU hl hr hy h1
 · exact IQ x p rs ya yc w h hn hU hl hr hy h1
 · exact DP x p rs ya yc w h hn hU hl hr hy h1
 · exact IP x p rs ya yc w h hn hU hl hr hy h1
end
end Go.Proofs.YtapcjnoaofmmiaaGreatDoor
