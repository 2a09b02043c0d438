/-
  No statement: what these walks need, of earlier texts: GLawOf, ELeft, EWithin, ELeftP, ExprLeftWalk, ExprTextsWalk.
-/
import Derived.Test.YtcmcnmmhkpolcaaGreatDoorHZ9
import Derived.WalkKit
import Derived.WalkSpells
import Derived.Lib.Hide
import Derived.Deep.Draws
import Derived.Sort.Walk0
import Derived.Lib.ParseIntB
import Derived.Lib.AtoiErrMem
import Derived.Lib.AppendIntMem
import Derived.Test.YtcmcnmmhkpolcaaGreatDoorShelf
import Derived.Test.YtcmcnmmhkpolcaaGreatDoorProg
import Derived.IntWalk
import Derived.LoopTactic
import Derived.StillTailTactics
import Derived.Deep.QuietTactic
import Derived.BigQuiet
import Derived.Lib.ParseIntBTie
import Derived.RangeFuncRecord
import Derived.ArgAppend
import Derived.OwnWalk
import Derived.BigRegion
import Derived.Deep.Cut
import Derived.Deep.RegionLaw
import Derived.Deep.RegionHeld3
import Derived.Shelf.Spec.SearchS
import Derived.Laws.IdiomStrings
import Derived.Lib.AppendZerosOnto
import Derived.Lib.SliceRun
import Derived.Lib.OwnBridge
import Derived.Lib.SlicesCompact
import Derived.Sort.OwnSorted
namespace Go.Proofs.YtcmcnmmhkpolcaaGreatDoor
section
open Go.RowKit

/-- The trees of a row. -/
def kL : F → List TN
  | .nil => []
  | .cons o m n k r => ⟨o, m, n, k⟩ :: kL r

theorem kL_len : ∀ f : F, (kL f).length = f.len
  | .nil => rfl
  | .cons o m n k r => by rw [kL, List.length_cons, kL_len r, F.len]

theorem kL_at : ∀ {f : F} {j : Nat} {t : TN}, f.at j = some t → (kL f)[j]? = some t
  | .nil, _, _, h => by cases h
  | .cons o m n k r, 0, t, h => by
    have : (⟨o, m, n, k⟩ : TN) = t := Option.some.inj h
    rw [kL, ← this]; rfl
  | .cons o m n k r, j + 1, t, h => kL_at (f := r) h

theorem kL_take {f : F} {k : Nat} {t : TN} (h : f.at k = some t) : (kL f).take (k + 1) = (kL f).take k ++ [t] := by
  have h1 := kL_at h
  obtain ⟨hlt, e⟩ := List.getElem?_eq_some_iff.1 h1
  rw [List.take_succ_eq_append_getElem hlt, e]

theorem dnK_snoc {G : Nat → Prop} {w : World} {t : TN} {p : Option Addr × Nat} : ∀ {l : List TN} {q : List (Option Addr × Nat)}, DnK G w l q → ReadsN G w p.1 t.ks → DnK G w (l ++ [t]) (q ++ [p])
  | [], [], _, h => ⟨h, trivial⟩
  | _ :: _, _ :: _, h, h2 => ⟨h.1, dnK_snoc h.2 h2⟩
  | [], _ :: _, h, _ => h.elim
  | _ :: _, [], h, _ => h.elim

theorem readsF_list {G : Nat → Prop} {w : World} {g : Nat} (hG : G g) (hlt : g < w.heap.size) : ∀ {f : F} {q : List (Option Addr × Nat)} {off : Nat}, (∀ j u, (lstL (kL f) q)[j]? = some u → w.cell? ⟨g, off + j, none⟩ = some u) → DnK G w (kL f) q → ReadsF G w f g off
  | .nil, _, _, _, _ => trivial
  | .cons o m n k r, [], _, _, hd => hd.elim
  | .cons o m n k r, p :: q, off, hc, hd => by
    refine reads_one (t := ⟨o, m, n, k⟩) (q := p) hG hlt (fun j u hj => ?_) hd.1 (readsF_list hG hlt (q := q) (off := off + 4) (fun j u hj => ?_) hd.2)
    · have hj4 : j < 4 := (List.getElem?_eq_some_iff.1 hj).1
      refine hc j u ?_
      rw [kL, lstL, List.getElem?_append_left (by exact hj4)]
      exact hj
    · have h := hc (4 + j) u (by
        rw [kL, lstL, List.getElem?_append_right (by show 4 ≤ _; omega), show 4 + j - (ndL ⟨o, m, n, k⟩ p).length = j by show 4 + j - 4 = j; omega]
        exact hj)
      rw [← Nat.add_assoc] at h
      exact h

/-- What the law's Of does at a tree. -/
def LofOK (t : TN) : Prop := ∀ (G : Nat → Prop) (w : World) (a : Option Addr) (c : Nat), sizeT t ≤ 1000 → ReadsN G w a t.ks → Calls Tryz.prog 8 #[nodeV t.op t.nm t.n a t.ks.len c] w fun e w' => ∃ a2 c2, e = .returned (nodeV t.op t.nm t.n a2 t.ks.len c2) ∧ ReadsK w.heap.size w' a2 t.ks ∧ Below w.heap.size w w'

theorem rndInfo : (Tryz.prog.info? 30).map (fun i => (i.zero, i.size, i.bytes)) = some (some (.agg #[.string ⟨#[]⟩, .string ⟨#[]⟩, .int .i64 0, .slice none 0 0]), 4, 64) := by kernel_rfl

theorem rndNew (w : World) (t : TN) (a : Option Addr) (c : Nat) : ∀ j u, (ndL t (a, c))[j]? = some u → (w.alloc (ndO t.op t.nm t.n a t.ks.len c)).cell? ((⟨w.heap.size, 0, none⟩ : Addr).add j) = some u := fun j u hj => by
  have e : ndL t (a, c) = (#[.string t.op, .string t.nm, .int .i64 t.n, .slice a t.ks.len c] : Array Value).toList := rfl
  rw [e] at hj
  rw [Addr.add_lit, Nat.zero_add, cell_of_row _ _ _ _ _ (0, 0) (heap_alloc_new w _)]
  simpa using hj

theorem four_set3' {W : World} {B : Nat} {x0 x1 x2 x3 : Value} {t : TypeId} (h : W.heap[B]? = some (.cells #[x0, x1, x2, x3] t (0, 0))) (u : Value) : (W.setCell ⟨B, 3, none⟩ u).heap[B]? = some (.cells #[x0, x1, x2, u] t (0, 0)) := by
  have := heap_setCell_same W B 3 _ t u h
  simpa using this

/-- What the loop keeps. -/
structure LO (w : World) (t : TN) (a : Option Addr) (c : Nat) (k : Nat) (va : Option Addr) (vc : Nat) (q : List (Option Addr × Nat)) (V : World) : Prop where
  b : Below w.heap.size w V
  bx : V.heap[w.heap.size]? = some (ndG t.op t.nm t.n a t.ks.len c)
  rs : V.heap[w.heap.size + 1]? = some (ndO ⟨#[]⟩ ⟨#[]⟩ 0 none 0 0)
  x : V.heap[w.heap.size + 2]? = some (ndO t.op t.nm t.n va k vc)
  o : V.ownsRow (w.heap.size + 3) 30 4 (.slice va k vc) k (lstL ((kL t.ks).take k) q)
  ql : q.length = k
  d : DnK (fun b => w.heap.size + 3 ≤ b ∧ (Value.slice va k vc).ownBlock ≠ some b) V ((kL t.ks).take k) q
  z : w.heap.size + 3 ≤ V.heap.size

set_option maxHeartbeats 8000000 in
set_option maxRecDepth 100000 in
theorem lof_step (t : TN) (ih : EachF LofOK t.ks) : LofOK t := by
  intro G w a c hs hr
  obtain ⟨i0, hi, hz0, hz1, hz2⟩ := info_parts rndInfo
  have und : Tryz.prog.underlying 28 = some (.slice 30) := Tryz.underlying28
  have hlen := len_size t.ks
  have hsz : sizeT t = 1 + sizeF t.ks := rfl
  have IH := Lib.hid ih
  have R := Lib.hid hr
  have B1 := (Below.refl w.heap.size w).alloc (Nat.le_refl _) (ndG t.op t.nm t.n a t.ks.len c)
  have N1 := heap_alloc_new w (ndG t.op t.nm t.n a t.ks.len c)
  have s1 : (w.alloc (ndG t.op t.nm t.n a t.ks.len c)).heap.size = w.heap.size + 1 := World.size_alloc _ _
  generalize hV1 : w.alloc (ndG t.op t.nm t.n a t.ks.len c) = V1 at B1 N1 s1
  have B2 := (Below.refl V1.heap.size V1).alloc (Nat.le_refl _) (ndO ⟨#[]⟩ ⟨#[]⟩ 0 none 0 0)
  have N2 := heap_alloc_new V1 (ndO ⟨#[]⟩ ⟨#[]⟩ 0 none 0 0)
  have s2 : (V1.alloc (ndO ⟨#[]⟩ ⟨#[]⟩ 0 none 0 0)).heap.size = w.heap.size + 2 := by rw [World.size_alloc]; omega
  generalize hV2 : V1.alloc (ndO ⟨#[]⟩ ⟨#[]⟩ 0 none 0 0) = V2 at B2 N2 s2
  have B3 := (Below.refl V2.heap.size V2).alloc (Nat.le_refl _) (ndO t.op t.nm t.n none 0 0)
  have N3 := heap_alloc_new V2 (ndO t.op t.nm t.n none 0 0)
  have s3 : (V2.alloc (ndO t.op t.nm t.n none 0 0)).heap.size = w.heap.size + 3 := by rw [World.size_alloc]; omega
  generalize hV3 : V2.alloc (ndO t.op t.nm t.n none 0 0) = V3 at B3 N3 s3
  rw [s1] at N2
  rw [s2] at N3
  have L0 := Lib.hid (show LO w t a c 0 none 0 [] V3 from ⟨(B1.trans (B2.mono (by omega))).trans (B3.mono (by omega)), (B3.block _ (by omega)).trans ((B2.block _ (by omega)).trans N1), (B3.block _ (by omega)).trans N2, N3, World.ownsRow_nil _ _ _ _, rfl, trivial, by omega⟩)
  have HV1 := Lib.hid hV1
  have HV2 := Lib.hid hV2
  have HV3 := Lib.hid hV3
  have HZ2 := Lib.hid s2
  obtain ⟨⟨m0, m1, m2, m3⟩, -⟩ := four ((B2.block _ (by omega)).trans N1)
  clear hV1 hV2 hV3 B1 B2 B3 N1 N2 N3 hr ih s1 s2 s3
  go_enter Tryz.func8, Tryz.ntmps8
  go_upto_region 1 with fail
  rw [HV1.out, HV2.out]
  go_upto_region 2 with fail
  rw [HV3.out, HZ2.out]
  clear m0 m1 m2 m3
  go_wp2_with fail
  go_loopw [4] (fun i wr => ∃ (k : Nat) (va : Option Addr) (vc : Nat) (q : List (Option Addr × Nat)), i = .int .i64 k ∧ k ≤ t.ks.len ∧ Hid (LO w t a c k va vc q wr)) (fun i _ => t.ks.len - (intOf i).toNat)
  case atStart => exact ⟨0, none, 0, [], rfl, Nat.zero_le _, L0⟩
  case round =>
    obtain ⟨k, va, vc, q, rfl, hk, hL⟩ := hrel
    obtain ⟨⟨m0, m1, m2, m3⟩, -⟩ := four hL.out.bx
    obtain ⟨⟨x0, x1, x2, x3⟩, y0, y1, y2, y3⟩ := four hL.out.x
    by_cases hlt : k < t.ks.len
    · obtain ⟨t2, hat, -⟩ := at_some hlt
      have hsd := size_drop hat
      have hdl := size_drop_le t.ks k
      obtain ⟨b, off, a2, c2, ha, hGb, hbl, ⟨p0, p1, p2, p3⟩, hr2⟩ := readsN_at (R.out.kept hL.out.b) hat
      subst ha
      have CI := Lib.hid ((EachF.at IH.out hat) G wr.drew a2 c2 (by omega) (hr2.kept ⟨rfl, rfl, rfl, Nat.le_refl _, fun _ _ => rfl⟩))
      have HT := Lib.hid (kL_take hat)
      have HTL : ((kL t.ks).take k).length = k := by rw [List.length_take, kL_len]; omega
      have a1 : (k : Int) < (t.ks.len : Int) := by omega
      have a2' : (0 : Int) ≤ (k : Int) := by omega
      have a3 : ((k : Int)).toNat = k := by omega
      have hk9 : k + 1 ≤ 1000 := by omega
      clear hat hr2 hGb
      go_wp2_with fail
      go_region_law (first
        | (go_simp
           go_at_call 8
           refine CI.out.mono ?_
           rintro e w2 ⟨a4, c4, rfl, hr4, hb4⟩
           have hb5 : Below wr.heap.size wr w2 := ⟨hb4.os, hb4.tape, hb4.output, hb4.size, hb4.block⟩
           have hz4 : w.heap.size + 3 ≤ w2.heap.size := Nat.le_trans hL.out.z hb4.size
           have X2 := (hb5.block _ (Array.getElem?_eq_some_iff.1 hL.out.x).1).trans hL.out.x
           have HB5 := Lib.hid hb5
           have HR4 := Lib.hid hr4
           have O2 := Lib.hid ((owns_below hL.out.o hb5).alloc (ndO t2.op t2.nm t2.n a4 t2.ks.len c4))
           clear x0 x1 x2 x3 y0 y1 y2 y3 hb4 hr4 hb5
           obtain ⟨⟨x0, x1, x2, x3⟩, y0, y1, y2, y3⟩ := four X2
           have X2a := (((Below.refl w2.heap.size w2).alloc (Nat.le_refl _) (.cells #[.string t2.op, .string t2.nm, .int .i64 t2.n, .slice a4 t2.ks.len c4] 30)).block _ (Array.getElem?_eq_some_iff.1 X2).1).trans X2
           obtain ⟨⟨u0, u1, u2, u3⟩, -⟩ := four X2a
           clear X2 X2a)
        | (refine step_append_new rfl (.tmp 20) (.tmp 27) 28 rfl (base := w.heap.size + 3) und hi hz0 hz1 hz2 rfl (by decide) (.slice va k vc) k 1 (lstL ((kL t.ks).take k) q) (ndL t2 (a4, c4)) ⟨w2.heap.size, 0, none⟩ 1 (by first | (simp [Act.eval]; done) | (simp [Act.eval, Act.put]; done) | fail) (by first | (simp [Act.eval]; done) | (simp [Act.eval, Act.put]; done) | fail) O2.out rfl (rndNew w2 t2 a4 c4) (ndL_one _ _) (by unfold maxLen; omega) (by omega) (by rw [World.size_alloc]; omega) ?_
           intro v3 w3 ho3 hg3 hq3
           obtain ⟨va3, vc3, rfl⟩ := own_rowG ho3
           have kg : Kept (fun b => (Value.slice va k vc).ownBlock = some b) w2 w3 := ((Kept.refl _ w2).alloc _).grown hg3 (fun q hq => .inl hq)
           have hov : ∀ b, (Value.slice va k vc).ownBlock = some b → w.heap.size + 3 ≤ b ∧ b < w2.heap.size := fun b hb => by have h1 := (hL.out.o.lt b hb); have := HB5.out.size; omega
           have X3 := kg.heap ((HB5.out.block _ (Array.getElem?_eq_some_iff.1 hL.out.x).1).trans hL.out.x) (fun e => by have := hov _ e; omega)
           have ks := (Kept.refl (· = w.heap.size + 2) w3).setCell (p := ⟨w.heap.size + 2, 3, none⟩) (.inl rfl) (.slice va3 (k + 1) vc3)
           have hnb : ∀ b, b < w2.heap.size → (Value.slice va k vc).ownBlock ≠ some b → (Value.slice va3 (k + 1) vc3).ownBlock ≠ some b := fun b hb hne e => by
             rcases hq3 b e with h1 | h1
             · exact hne h1
             · rw [World.size_alloc] at h1; omega
           have D2 : DnK (fun b => (w.heap.size + 3 ≤ b ∧ (Value.slice va k vc).ownBlock ≠ some b) ∧ (Value.slice va3 (k + 1) vc3).ownBlock ≠ some b) w2 ((kL t.ks).take k ++ [t2]) (q ++ [(a4, c4)]) := dnK_snoc ((hL.out.d.keptS (kept_below HB5.out (fun _ => False)) (fun _ h => h.elim)).imp (fun b hb hg => ⟨hg, hnb b hb hg.2⟩)) (HR4.out.imp (fun b hb hg => by
             have hg' : wr.heap.size ≤ b := hg
             have hz := hL.out.z
             have hne : (Value.slice va k vc).ownBlock ≠ some b := fun e => by have := (hL.out.o.lt b e).2; omega
             exact ⟨⟨by omega, hne⟩, hnb b hb hne⟩))
           have D3 := ((D2.keptS kg (fun b hb hg => hg.1.2 hb)).keptS ks (fun b hb hg => by have := hg.1.1; omega)).imp (H := fun b => w.heap.size + 3 ≤ b ∧ (Value.slice va3 (k + 1) vc3).ownBlock ≠ some b) (fun b _ hg => ⟨hg.1.1, hg.2⟩)
           have L3 := Lib.hid (show LO w t (some ⟨b, off, none⟩) c (k + 1) va3 vc3 (q ++ [(a4, c4)]) (w3.setCell ⟨w.heap.size + 2, 3, none⟩ (.slice va3 (k + 1) vc3)) from ⟨
             (hL.out.b.trans (HB5.out.mono (by have := hL.out.z; omega))).trans ((kg.mono (T := fun b => w.heap.size ≤ b) (fun i hi _ => by have := hov i hi; omega)).below (fun _ h => h) (by omega) |>.trans (ks.below (B := w.heap.size) (fun i hi => by omega) (by have := kg.size; omega))),
             ks.heap (kg.heap ((HB5.out.block _ (Array.getElem?_eq_some_iff.1 hL.out.bx).1).trans hL.out.bx) (fun e => by have := hov _ e; omega)) (by omega),
             ks.heap (kg.heap ((HB5.out.block _ (Array.getElem?_eq_some_iff.1 hL.out.rs).1).trans hL.out.rs) (fun e => by have := hov _ e; omega)) (by omega),
             four_set3' X3 _,
             by
               rw [HT.out, lstL_app _ _ _ _ (by rw [hL.out.ql, HTL])]
               have e : lstL [t2] [(a4, c4)] = ndL t2 (a4, c4) := by simp [lstL]
               rw [e]
               exact owns_set ho3 (by omega) _ _,
             by rw [List.length_append, hL.out.ql]; rfl,
             by rw [HT.out]; exact D3,
             by rw [World.size_setCell]; have := kg.size; omega⟩)
           obtain ⟨-, y0', y1', y2', y3'⟩ := four X3
           obtain ⟨⟨x0', x1', x2', x3'⟩, -⟩ := four X3
           clear ho3 hg3 hq3 kg hov X3 ks hnb D2 D3 x0 x1 x2 x3 y0 y1 y2 y3)
        | fail)
      all_goals
        go_wp2_with fail
        go_roundw
        case rel => exact ⟨k + 1, va3, vc3, q ++ [(a4, c4)], by go_num, by omega, L3⟩
        case measure => simp [intOf]; omega
    · obtain rfl : k = t.ks.len := by omega
      have htk : (kL t.ks).take t.ks.len = kL t.ks := List.take_of_length_le (by rw [kL_len]; exact Nat.le_refl _)
      have P := Lib.hid (show ReadsN (fun b => w.heap.size + 3 ≤ b) wr va t.ks by
        have ho := hL.out.o
        have hd := hL.out.d
        rw [htk] at ho hd
        by_cases h0 : t.ks = .nil
        · exact .inl h0
        · have hne : t.ks.len ≠ 0 := fun e => h0 (len_zero e)
          obtain ⟨g, cc, hv, -, -, hc⟩ := own_full ho hne
          simp only [Value.slice.injEq, true_and] at hv
          obtain ⟨rfl, rfl⟩ := hv
          have hg := ho.lt g rfl
          exact .inr ⟨g, 0, rfl, readsF_list (G := fun b => w.heap.size + 3 ≤ b) hg.1 hg.2 (fun j u hj => by rw [Nat.zero_add]; exact hc j u hj) (hd.imp (fun b _ hg => hg.1))⟩)
      obtain ⟨⟨r0, r1, r2, r3⟩, z0, z1, z2, z3⟩ := four hL.out.rs
      have a1 : ¬ (t.ks.len : Int) < (t.ks.len : Int) := by omega
      clear htk
      go_wp2_with fail
      have KP := kept_put4 wr (w.heap.size + 1) t.op t.nm t.n va t.ks.len vc
      obtain ⟨⟨d0, d1, d2, d3⟩, -⟩ := four (four_set hL.out.rs (.string t.op) (.string t.nm) (.int .i64 t.n) (.slice va t.ks.len vc))
      exact bodyPost_ret (v := nodeV t.op t.nm t.n va t.ks.len vc) (by simp [results, Tryz.results8, go_sem, d0, d1, d2, d3]) rfl
        ⟨va, ⟨vc, rfl⟩, (P.out.keptS KP (fun b hb hg => by omega)).imp (fun b _ hg => by omega), hL.out.b.trans (KP.below (B := w.heap.size) (fun b hb => by omega) (by have := hL.out.z; omega))⟩

theorem lof_any (t : TN) : LofOK t := tree_of lof_step t

end

section
open Go.RowKit

/-- Is a node's name or sign too long? -/
def wideB (o m : ByteArray) : Bool := decide (100 < (m.size : Int)) || decide (20 < (o.size : Int))

def leftF : F → Int → Int
  | .nil, l => l
  | .cons o m _ ks r, l => if l < 0 then l else leftF r (if wideB o m = true then -1 else leftF ks (l - 1))

/-- What is left of l nodes behind a tree. -/
def leftT (t : TN) (l : Int) : Int := if wideB t.op t.nm = true then -1 else leftF t.ks (l - 1)

theorem left_cons {f : F} {t : TN} {r : F} {l : Int} (h : f = .cons t.op t.nm t.n t.ks r) : leftF f l = if l < 0 then l else leftF r (leftT t l) := by
  rw [h, leftF]; rfl

theorem left_le : ∀ (f : F) (l : Int), leftF f l ≤ l ∨ leftF f l = -1
  | .nil, _ => .inl (Int.le_refl _)
  | .cons o m _ ks r, l => by
    rw [leftF]
    split
    · exact .inl (Int.le_refl _)
    · rename_i h0
      have h1 := left_le r (if wideB o m = true then -1 else leftF ks (l - 1))
      have h2 := left_le ks (l - 1)
      split at h1
      · rename_i h
        rw [if_pos h]
        omega
      · rename_i h
        rw [if_neg h]
        omega

theorem left_ge : ∀ (f : F) (l : Int), -1 ≤ l → -1 ≤ leftF f l
  | .nil, _, h => h
  | .cons o m _ ks r, l, h => by
    rw [leftF]
    split
    · exact h
    · refine left_ge r _ ?_
      split
      · exact Int.le_refl _
      · exact left_ge ks _ (by omega)

/-- What is left says how many there are, and that names are short. -/
theorem left_size : ∀ (f : F) (l : Int), 0 ≤ l → l ≤ 1000 → 0 ≤ leftF f l → (sizeF f : Int) ≤ l - leftF f l ∧ SzF f
  | .nil, l, _, _, _ => ⟨by rw [leftF, sizeF]; omega, trivial⟩
  | .cons o m _ ks r, l, h0, h9, h => by
    rw [leftF, if_neg (by omega)] at h ⊢
    cases hw : wideB o m with
    | true =>
      rw [hw, if_pos rfl] at h
      exfalso
      cases r with
      | nil => rw [leftF] at h; omega
      | cons _ _ _ _ _ => rw [leftF, if_pos (by decide)] at h; omega
    | false =>
      rw [hw, if_neg (by decide)] at h
      rw [if_neg (by decide)]
      have hk : 0 ≤ leftF ks (l - 1) := by
        rcases Int.lt_or_le (leftF ks (l - 1)) 0 with hn | hn
        · exfalso
          have h2 := left_le r (leftF ks (l - 1))
          omega
        · exact hn
      have hl1 : 0 ≤ l - 1 := by
        have := left_le ks (l - 1)
        omega
      obtain ⟨k1, k2⟩ := left_size ks (l - 1) hl1 (by omega) hk
      have hk9 : leftF ks (l - 1) ≤ 1000 := by have := left_le ks (l - 1); omega
      obtain ⟨r1, r2⟩ := left_size r _ hk hk9 h
      refine ⟨by rw [sizeF]; omega, ?_, ?_, k2, r2⟩
      · unfold wideB at hw
        simp only [Bool.or_eq_false_iff, decide_eq_false_iff_not] at hw
        omega
      · have : ∀ f : F, f.len ≤ sizeF f := by
          intro f
          induction f with
          | nil => exact Nat.le_refl _
          | cons _ _ _ _ r _ ih => rw [F.len, sizeF]; omega
        have := this ks
        omega

abbrev ndP (o m : ByteArray) (n : Int) (a : Option Addr) (l c : Nat) : Obj := .cells #[.string o, .string m, .int .i64 n, .slice a l c] 24

/-- The contract of left at a tree. -/
def LeftOK (t : TN) : Prop := ∀ (G : Nat → Prop) (w : World) (a : Option Addr) (c : Nat) (l : Int), 0 ≤ l → l ≤ 1000 → LenF t.f → ReadsN G w a t.ks → Calls Tryz.prog 20 #[nodeV t.op t.nm t.n a t.ks.len c, .int .i64 l] w fun e w' => e = .returned (.int .i64 (leftT t l)) ∧ Below w.heap.size w w'

set_option maxHeartbeats 4000000 in
theorem left_step (t : TN) (ih : EachF LeftOK t.ks) : LeftOK t := by
  intro G w a c l hl0 hl1 hL hr
  have R := Lib.hid hr
  have IH := Lib.hid ih
  obtain ⟨hm, hL2, -⟩ := hL
  have LK := Lib.hid hL2
  obtain ⟨r, hR⟩ : ∃ r, leftT t l = r := ⟨_, rfl⟩
  rw [hR]
  unfold leftT wideB at hR
  have NB := Lib.hid (heap_alloc_new w (ndP t.op t.nm t.n a t.ks.len c))
  have B0 := Lib.hid ((Below.refl w.heap.size w).alloc (Nat.le_refl _) (ndP t.op t.nm t.n a t.ks.len c))
  clear hr ih hL2
  by_cases h1 : (100 : Int) < t.nm.size
  · have RR := Lib.hid (show (-1 : Int) = r by rw [← hR, decide_eq_true h1]; rfl)
    clear hR
    go_enter Tryz.func20, Tryz.ntmps20
    go_wp2_with fail
    go_ret
    rw [RR.out]
    exact ⟨rfl, B0.out⟩
  · by_cases h2 : (20 : Int) < t.op.size
    · have RR := Lib.hid (show (-1 : Int) = r by rw [← hR, decide_eq_true h2, Bool.or_true]; rfl)
      clear hR
      go_enter Tryz.func20, Tryz.ntmps20
      go_wp2_with fail
      go_ret
      rw [RR.out]
      exact ⟨rfl, B0.out⟩
    · have H0 := Lib.hid (show leftF (t.ks.drop 0) (l - 1) = r by rw [F.drop_zero, ← hR, decide_eq_false h1, decide_eq_false h2]; rfl)
      clear hR
      go_enter Tryz.func20, Tryz.ntmps20
      go_wp2_with fail
      generalize w.alloc (ndP t.op t.nm t.n a t.ks.len c) = W at NB B0 ⊢
      go_loopw [1, 5] (fun v i wr => ∃ (k : Nat) (x : Int), i = .int .i64 k ∧ v = .int .i64 x ∧ k ≤ t.ks.len ∧ -1 ≤ x ∧ x ≤ 1000 ∧ Hid (leftF (t.ks.drop k) x = r) ∧ Hid (Below w.heap.size w wr) ∧ Hid (wr.heap[w.heap.size]? = some (ndP t.op t.nm t.n a t.ks.len c))) (fun _ i _ => t.ks.len - (intOf i).toNat)
      case atStart => exact ⟨0, l - 1, rfl, rfl, Nat.zero_le _, by omega, by omega, H0, B0, NB⟩
      case round =>
        obtain ⟨k, x, rfl, rfl, hk, hx0, hx1, hE, hB, hN⟩ := hrel
        obtain ⟨⟨m0, m1, m2, m3⟩, -⟩ := four hN.out
        by_cases hlt : k < t.ks.len
        · obtain ⟨t2, hat, hdr⟩ := at_some hlt
          by_cases hx : x < 0
          · have RR := Lib.hid (show x = r by rw [← hE.out, left_cons hdr, if_pos hx])
            have g0 : ¬ (0 : Int) ≤ x := by omega
            clear hat hdr hx
            go_wp2_with fail
            go_ret
            rw [RR.out]
            exact ⟨rfl, hB.out⟩
          · have g0 : (0 : Int) ≤ x := by omega
            obtain ⟨b, off, a2, c2, ha, hG, hbl, ⟨p0, p1, p2, p3⟩, hr2⟩ := readsN_at (R.out.kept hB.out) hat
            have EN := Lib.hid (show leftF (t.ks.drop (k + 1)) (leftT t2 x) = r by rw [← hE.out, left_cons hdr, if_neg hx])
            have C := Lib.hid ((EachF.at IH.out hat) G wr a2 c2 x g0 hx1 (LK.out.at hat) hr2)
            have h3 : -1 ≤ leftT t2 x := by
              unfold leftT
              split
              · exact Int.le_refl _
              · exact left_ge _ _ (by omega)
            have h4 : leftT t2 x ≤ 1000 := by
              unfold leftT
              split
              · omega
              · have := left_le t2.ks (x - 1); omega
            subst ha
            obtain ⟨y, hy⟩ : ∃ y, leftT t2 x = y := ⟨_, rfl⟩
            rw [hy] at C EN h3 h4
            clear hat hdr hx hr2 hy
            go_wp2_with fail
            refine C.out.mono ?_
            rintro e w1 ⟨rfl, hb⟩
            have hz := hB.out.size
            have B1 := Lib.hid (hB.out.trans (hb.mono hz))
            have N1 := Lib.hid ((hb.block _ (lt_block hN.out)).trans hN.out)
            clear hb C m0 m1 m2 m3
            go_wp2_with fail
            go_roundw
            case rel => exact ⟨k + 1, y, by go_num, rfl, by omega, h3, h4, EN, B1, N1⟩
            case measure => simp [intOf]; omega
        · have RR := Lib.hid (show x = r by rw [← hE.out, F.drop_len _ _ (by omega)]; rfl)
          go_wp2_with fail
          go_ret
          rw [RR.out]
          exact ⟨rfl, hB.out⟩

theorem left_any (t : TN) : LeftOK t := tree_of left_step t

theorem few_good {t : TN} (h : 0 ≤ leftT t 60) (hl : t.ks.len ≤ 9223372036854775807) : sizeT t ≤ 60 ∧ SzF t.f := by
  unfold leftT at h
  cases hw : wideB t.op t.nm with
  | true => rw [hw, if_pos rfl] at h; omega
  | false =>
    rw [hw, if_neg (by decide)] at h
    obtain ⟨h1, h2⟩ := left_size t.ks (60 - 1) (by decide) (by decide) h
    unfold wideB at hw
    simp only [Bool.or_eq_false_iff, decide_eq_false_iff_not] at hw
    refine ⟨by unfold sizeT; omega, by omega, hl, h2, trivial⟩

set_option maxHeartbeats 4000000 in
theorem few_any {G : Nat → Prop} {w : World} {a : Option Addr} {t : TN} (c : Nat) (hL : LenF t.f) (hr : ReadsN G w a t.ks) : Calls Tryz.prog 6 #[nodeV t.op t.nm t.n a t.ks.len c] w fun e w' => e = .returned (.bool (decide (0 ≤ leftT t 60))) ∧ Below w.heap.size w w' := by
  have C := Lib.hid (fun V (hV : Below w.heap.size w V) => left_any t G V a c 60 (by decide) (by decide) hL (hr.kept hV))
  have B0 := Lib.hid ((Below.refl w.heap.size w).alloc (Nat.le_refl _) (ndP t.op t.nm t.n a t.ks.len c))
  have NB := Lib.hid (heap_alloc_new w (ndP t.op t.nm t.n a t.ks.len c))
  obtain ⟨x, hx⟩ : ∃ x, leftT t 60 = x := ⟨_, rfl⟩
  rw [hx] at C ⊢
  clear hx hL hr
  go_enter Tryz.func6, Tryz.ntmps6
  go_wp2_with fail
  generalize w.alloc (ndP t.op t.nm t.n a t.ks.len c) = W at NB B0 ⊢
  obtain ⟨⟨m0, m1, m2, m3⟩, -⟩ := four NB.out
  go_wp2_with fail
  refine (C.out W B0.out).mono ?_
  rintro e w1 ⟨rfl, hb⟩
  have B1 := Lib.hid (B0.out.trans (hb.mono B0.out.size))
  clear hb
  go_wp2_with fail
  go_ret
  exact ⟨rfl, B1.out⟩

end

section
open Go.RowKit

theorem extract_mid {s t : ByteArray} {a b : List UInt8} (h : t.data.toList = a ++ s.data.toList ++ b) : t.extract a.length (a.length + s.size) = s := by
  have : (t.extract a.length (a.length + s.size)).data.toList = s.data.toList := by
    have hs : s.data.toList.length = s.size := by simp
    rw [ByteArray.data_extract, Array.toList_extract, h, List.extract_eq_take_drop, List.append_assoc, List.drop_left, ← hs, show a.length + s.data.toList.length - a.length = s.data.toList.length by omega, List.take_left]
  exact ByteArray.ext (Array.ext' this)

set_option maxHeartbeats 4000000 in
theorem within_any (s t : ByteArray) {a b : List UInt8} (h : t.data.toList = a ++ s.data.toList ++ b) (ht : t.size ≤ 4000) (w : World) : Calls Tryz.prog 18 #[.string s, .string t] w fun e w' => e = .returned (.bool true) ∧ w = w' := by
  have hsz : a.length + s.size + b.length = t.size := by
    have h1 : t.data.toList.length = t.size := by simp
    have h2 : s.data.toList.length = s.size := by simp
    rw [← h1, h, List.length_append, List.length_append, h2]
  obtain ⟨A, hA⟩ : ∃ A, a.length = A := ⟨_, rfl⟩
  have M := Lib.hid (extract_mid h)
  rw [hA] at M hsz
  clear h hA
  go_enter Tryz.func18, Tryz.ntmps18
  go_wp2_with fail
  go_loopw [5] (fun i wr => ∃ k : Nat, i = .int .i64 k ∧ k ≤ A ∧ Hid (wr = w)) (fun i _ => A - (intOf i).toNat)
  case atStart => exact ⟨0, rfl, Nat.zero_le _, Lib.hid rfl⟩
  case round =>
    obtain ⟨k, rfl, hk, hw⟩ := hrel
    have hle : (k : Int) + s.size ≤ t.size := by omega
    cases hx : ((t.extract k (k + s.size)).toList == s.toList) with
    | true =>
      go_wp2_with fail
      go_ret
      exact ⟨rfl, hw.out.symm⟩
    | false =>
      have hlt : k < A := by
        rcases Nat.lt_or_ge k A with h | h
        · exact h
        · obtain rfl : k = A := by omega
          rw [M.out, beq_self_eq_true] at hx
          cases hx
      go_wp2_with fail
      go_roundw
      case rel => exact ⟨k + 1, by go_num, by omega, hw⟩
      case measure => simp [intOf]; omega

end

section
open Go.RowKit

/-- What is parsed may be. -/
theorem parse_good {l : List UInt8} {t : TN} (h : parseX l = .ok t) : checkT t = 0 ∧ sizeT t ≤ 32 := by
  unfold parseX at h
  cases hl : lexT l with
  | bad p e => rw [hl] at h; cases h
  | ok L =>
    rw [hl] at h
    simp only at h
    cases ho : ofL L 0 with
    | bad p e => rw [ho] at h; cases h
    | ok t' q =>
      rw [ho] at h
      simp only at h
      split at h
      · cases h
      · cases h
        exact ofL_good (lexT_good hl) ho

end

section
open Go.RowKit

/-- What the walk keeps of a tree in a block. -/
structure KT9 (w : World) (b : Nat) (t : TN) (a : Option Addr) (c : Nat) (V : World) : Prop where
  n : V.heap[b]? = some (ndG t.op t.nm t.n a t.ks.len c)
  r : ReadsK w.heap.size V a t.ks

theorem KT9.step {w V V' : World} {b : Nat} {t : TN} {a : Option Addr} {c : Nat} (h : KT9 w b t a c V) (hb : Below V.heap.size V V') : KT9 w b t a c V' :=
  ⟨(hb.block _ (Array.getElem?_eq_some_iff.1 h.n).1).trans h.n, h.r.kept hb⟩

/-- All else: below, the library's variables. -/
structure KB9 (w V : World) : Prop where
  b : Below w.heap.size w V
  l : Laid9 V
  z : w.heap.size ≤ V.heap.size

theorem KB9.step {w V V' : World} (h : KB9 w V) (hb : Below V.heap.size V V') : KB9 w V' := ⟨h.b.trans (hb.mono h.z), h.l.step hb, Nat.le_trans h.z hb.size⟩

/-- A tree parsed, laid into a block. -/
theorem kt9_new {w V V' : World} {t : TN} {a : Option Addr} {c : Nat} (hz : w.heap.size ≤ V.heap.size) (hr : ReadsK V.heap.size V' a t.ks) : KT9 w V'.heap.size t a c (V'.alloc (ndG t.op t.nm t.n a t.ks.len c)) :=
  ⟨heap_alloc_new V' _, (hr.kept ((Below.refl V'.heap.size V').alloc (Nat.le_refl _) _)).mono hz⟩

end

section
open Go.RowKit

theorem parse_bad {l : List UInt8} {p : Nat} {er : Int} (h : parseX l = .bad p er) : ((er : Int) == 0) = false ∧ ((er : Int) != 0) = true := by
  unfold parseX at h
  cases hl : lexT l with
  | bad p e =>
    rw [hl] at h
    cases h
    exact lexT_bad_ne hl
  | ok L =>
    rw [hl] at h
    simp only at h
    cases ho : ofL L 0 with
    | bad p e =>
      rw [ho] at h
      cases h
      have : ((er : Int) != 0) = true := by rcases ofL_ne ho with h | h; exact h.1; exact h
      exact ⟨by simpa using this, this⟩
    | ok t' q =>
      rw [ho] at h
      simp only at h
      split at h
      · cases h
        exact ⟨rfl, rfl⟩
      · cases h

theorem sameF_self : ∀ f : F, sameF f f = true
  | .nil => by rw [sameF]
  | .cons o m n ks r => by rw [sameF, sameF_self ks, sameF_self r]; simp

theorem sameT_self (t : TN) : sameT t t = true := sameF_self _

end

end Go.Proofs.YtcmcnmmhkpolcaaGreatDoor
