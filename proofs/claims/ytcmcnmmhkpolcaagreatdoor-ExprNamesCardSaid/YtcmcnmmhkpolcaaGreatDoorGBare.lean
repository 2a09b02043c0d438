/-
  No statement: the contract of the law's own bare (numbers in all names' places).
-/
import Derived.Test.YtcmcnmmhkpolcaaGreatDoorHZ10
import Derived.Test.YtcmcnmmhkpolcaaGreatDoorHZ9
namespace Go.Proofs.YtcmcnmmhkpolcaaGreatDoor
open Go.RowKit

theorem bareF_at : ∀ {f : F} {j : Nat} {t : TN}, f.at j = some t → (bareF f).at j = some (bareT t)
  | .nil, _, _, h => by cases h
  | .cons o m n k r, 0, t, h => by
    have : (⟨o, m, n, k⟩ : TN) = t := Option.some.inj h
    rw [← this]
    have e := bare_cons ⟨o, m, n, k⟩ r
    dsimp only at e
    rw [e]; rfl
  | .cons o m n k r, j + 1, t, h => by
    have e := bare_cons ⟨o, m, n, k⟩ r
    dsimp only at e
    rw [e]
    exact bareF_at (f := r) h

/-- What the law's bare does at a tree. -/
def BareOK (t : TN) : Prop := ∀ (G : Nat → Prop) (w : World) (a : Option Addr) (c : Nat), sizeT t ≤ 1000 → ReadsN G w a t.ks → Calls Tryz.prog 19 #[nodeV t.op t.nm t.n a t.ks.len c] w fun e w' => ∃ a2 c2, e = .returned (nodeV (bareT t).op (bareT t).nm (bareT t).n a2 (bareT t).ks.len c2) ∧ ReadsK w.heap.size w' a2 (bareT t).ks ∧ Below w.heap.size w w'

theorem ndgNew (w : World) (t : TN) (a : Option Addr) (c : Nat) : ∀ j u, (ndL t (a, c))[j]? = some u → (w.alloc (ndG t.op t.nm t.n a t.ks.len c)).cell? ((⟨w.heap.size, 0, none⟩ : Addr).add j) = some u := fun j u hj => by
  have e : ndL t (a, c) = (#[.string t.op, .string t.nm, .int .i64 t.n, .slice a t.ks.len c] : Array Value).toList := rfl
  rw [e] at hj
  rw [Addr.add_lit, Nat.zero_add, cell_of_row _ _ _ _ _ (0, 0) (heap_alloc_new w _)]
  simpa using hj

/-- What the loop keeps. -/
structure LB (w : World) (t : TN) (a : Option Addr) (c : Nat) (k : Nat) (va : Option Addr) (vc : Nat) (q : List (Option Addr × Nat)) (V : World) : Prop where
  b : Below w.heap.size w V
  bx : V.heap[w.heap.size]? = some (ndG t.op t.nm t.n a t.ks.len c)
  rs : V.heap[w.heap.size + 1]? = some (ndG ⟨#[]⟩ ⟨#[]⟩ 0 none 0 0)
  x : V.heap[w.heap.size + 2]? = some (ndG t.op ⟨#[]⟩ t.n va k vc)
  o : V.ownsRow (w.heap.size + 3) 24 4 (.slice va k vc) k (lstL ((kL (bareF t.ks)).take k) q)
  ql : q.length = k
  d : DnK (fun b => w.heap.size + 3 ≤ b ∧ (Value.slice va k vc).ownBlock ≠ some b) V ((kL (bareF t.ks)).take k) q
  z : w.heap.size + 3 ≤ V.heap.size

set_option maxHeartbeats 4000000 in
theorem bare_name (t : TN) (hnm : isName t.op = true) : BareOK t := by
  intro G w a c hs hr
  rw [show bareT t = ⟨⟨#[110, 117, 109]⟩, ⟨#[]⟩, 1, .nil⟩ by unfold bareT; rw [if_pos hnm]]
  have g0 := op_yes' (x := bName) (by simpa [isName] using hnm)
  unfold bName at g0
  have B1 := (Below.refl w.heap.size w).alloc (Nat.le_refl _) (ndG t.op t.nm t.n a t.ks.len c)
  have N1 := heap_alloc_new w (ndG t.op t.nm t.n a t.ks.len c)
  have s1 : (w.alloc (ndG t.op t.nm t.n a t.ks.len c)).heap.size = w.heap.size + 1 := World.size_alloc _ _
  generalize hV1 : w.alloc (ndG t.op t.nm t.n a t.ks.len c) = V1 at B1 N1 s1
  have B2 := (Below.refl V1.heap.size V1).alloc (Nat.le_refl _) (ndG ⟨#[]⟩ ⟨#[]⟩ 0 none 0 0)
  have N2 := heap_alloc_new V1 (ndG ⟨#[]⟩ ⟨#[]⟩ 0 none 0 0)
  have s2 : (V1.alloc (ndG ⟨#[]⟩ ⟨#[]⟩ 0 none 0 0)).heap.size = w.heap.size + 2 := by rw [World.size_alloc]; omega
  generalize hV2 : V1.alloc (ndG ⟨#[]⟩ ⟨#[]⟩ 0 none 0 0) = V2 at B2 N2 s2
  rw [s1] at N2
  have HV1 := Lib.hid hV1
  have HV2 := Lib.hid hV2
  have BB := Lib.hid (B1.trans (B2.mono (by omega)))
  have NN := Lib.hid N2
  have HS := Lib.hid s2
  obtain ⟨⟨m0, m1, m2, m3⟩, -⟩ := four ((B2.block _ (by omega)).trans N1)
  clear hV1 hV2 B1 B2 N1 N2 hr s1 s2
  go_enter Tryz.func19, Tryz.ntmps19
  go_upto_region 1 with fail
  rw [HV1.out, HV2.out]
  obtain ⟨⟨r0, r1, r2, r3⟩, z0, z1, z2, z3⟩ := four NN.out
  go_wp2_with fail
  have KP := kept_put4 V2 (w.heap.size + 1) ⟨#[110, 117, 109]⟩ ⟨#[]⟩ 1 none 0 0
  obtain ⟨⟨d0, d1, d2, d3⟩, -⟩ := four (four_set NN.out (.string ⟨#[110, 117, 109]⟩) (.string ⟨#[]⟩) (.int .i64 1) (.slice none 0 0))
  exact bodyPost_ret (v := nodeV ⟨#[110, 117, 109]⟩ ⟨#[]⟩ 1 none 0 0) (by simp [results, Tryz.results19, go_sem, d0, d1, d2, d3]) rfl
    ⟨none, 0, rfl, .inl rfl, BB.out.trans (KP.below (B := w.heap.size) (fun b hb => by omega) (by have := HS.out; omega))⟩

set_option maxHeartbeats 8000000 in
set_option maxRecDepth 100000 in
theorem bare_other (t : TN) (hnm : isName t.op = false) (ih : EachF BareOK t.ks) : BareOK t := by
  intro G w a c hs hr
  rw [show bareT t = ⟨t.op, ⟨#[]⟩, t.n, bareF t.ks⟩ by unfold bareT; rw [if_neg (by simp [hnm])]]
  dsimp only
  rw [bare_len]
  obtain ⟨i0, hi, hz0, hz1, hz2⟩ := info_parts ndInfo
  have und : Tryz.prog.underlying 22 = some (.slice 24) := Tryz.underlying22
  have hlen := len_size t.ks
  have hsz : sizeT t = 1 + sizeF t.ks := rfl
  have IH := Lib.hid ih
  have R := Lib.hid hr
  have B1 := (Below.refl w.heap.size w).alloc (Nat.le_refl _) (ndG t.op t.nm t.n a t.ks.len c)
  have N1 := heap_alloc_new w (ndG t.op t.nm t.n a t.ks.len c)
  have s1 : (w.alloc (ndG t.op t.nm t.n a t.ks.len c)).heap.size = w.heap.size + 1 := World.size_alloc _ _
  generalize hV1 : w.alloc (ndG t.op t.nm t.n a t.ks.len c) = V1 at B1 N1 s1
  have B2 := (Below.refl V1.heap.size V1).alloc (Nat.le_refl _) (ndG ⟨#[]⟩ ⟨#[]⟩ 0 none 0 0)
  have N2 := heap_alloc_new V1 (ndG ⟨#[]⟩ ⟨#[]⟩ 0 none 0 0)
  have s2 : (V1.alloc (ndG ⟨#[]⟩ ⟨#[]⟩ 0 none 0 0)).heap.size = w.heap.size + 2 := by rw [World.size_alloc]; omega
  generalize hV2 : V1.alloc (ndG ⟨#[]⟩ ⟨#[]⟩ 0 none 0 0) = V2 at B2 N2 s2
  have B3 := (Below.refl V2.heap.size V2).alloc (Nat.le_refl _) (ndG t.op ⟨#[]⟩ t.n none 0 0)
  have N3 := heap_alloc_new V2 (ndG t.op ⟨#[]⟩ t.n none 0 0)
  have s3 : (V2.alloc (ndG t.op ⟨#[]⟩ t.n none 0 0)).heap.size = w.heap.size + 3 := by rw [World.size_alloc]; omega
  generalize hV3 : V2.alloc (ndG t.op ⟨#[]⟩ t.n none 0 0) = V3 at B3 N3 s3
  rw [s1] at N2
  rw [s2] at N3
  have L0 := Lib.hid (show LB w t a c 0 none 0 [] V3 from ⟨(B1.trans (B2.mono (by omega))).trans (B3.mono (by omega)), (B3.block _ (by omega)).trans ((B2.block _ (by omega)).trans N1), (B3.block _ (by omega)).trans N2, N3, World.ownsRow_nil _ _ _ _, rfl, trivial, by omega⟩)
  have HV1 := Lib.hid hV1
  have HV2 := Lib.hid hV2
  have HV3 := Lib.hid hV3
  have HZ2 := Lib.hid s2
  obtain ⟨⟨m0, m1, m2, m3⟩, -⟩ := four ((B2.block _ (by omega)).trans N1)
  clear hV1 hV2 hV3 B1 B2 B3 N1 N2 N3 hr ih s1 s2 s3
  have g0 := op_not' (x := bName) (by simpa [isName] using hnm)
  unfold bName at g0
  go_enter Tryz.func19, Tryz.ntmps19
  go_upto_region 1 with fail
  rw [HV1.out, HV2.out]
  go_upto_region 4 with fail
  rw [HV3.out, HZ2.out]
  clear m0 m1 m2 m3
  go_wp2_with fail
  go_loopw [4] (fun i wr => ∃ (k : Nat) (va : Option Addr) (vc : Nat) (q : List (Option Addr × Nat)), i = .int .i64 k ∧ k ≤ t.ks.len ∧ Hid (LB w t a c k va vc q wr)) (fun i _ => t.ks.len - (intOf i).toNat)
  case atStart => exact ⟨0, none, 0, [], rfl, Nat.zero_le _, L0⟩
  case round =>
    obtain ⟨k, va, vc, q, rfl, hk, hL⟩ := hrel
    obtain ⟨⟨m0, m1, m2, m3⟩, -⟩ := four hL.out.bx
    obtain ⟨⟨x0, x1, x2, x3⟩, y0, y1, y2, y3⟩ := four hL.out.x
    by_cases hlt : k < t.ks.len
    · obtain ⟨t2, hat, -⟩ := at_some hlt
      have hsd := size_drop hat
      have hdl := size_drop_le t.ks k
      obtain ⟨b, off, a2, c2, ha, hGb, hbl, ⟨p0, p1, p2, p3⟩, hr2⟩ := readsN_at (R.out.kept hL.out.b) hat
      subst ha
      have CI := Lib.hid ((EachF.at IH.out hat) G wr.drew a2 c2 (by omega) (hr2.kept ⟨rfl, rfl, rfl, Nat.le_refl _, fun _ _ => rfl⟩))
      have HT := Lib.hid (kL_take (bareF_at hat))
      have HTL : ((kL (bareF t.ks)).take k).length = k := by rw [List.length_take, kL_len, bare_len]; omega
      have a1 : (k : Int) < (t.ks.len : Int) := by omega
      have a2' : (0 : Int) ≤ (k : Int) := by omega
      have a3 : ((k : Int)).toNat = k := by omega
      have hk9 : k + 1 ≤ 1000 := by omega
      clear hat hr2 hGb
      go_wp2_with fail
      go_region_law (first
        | (go_simp
           go_at_call 19
           refine CI.out.mono ?_
           rintro e w2 ⟨a4, c4, rfl, hr4, hb4⟩
           have hb5 : Below wr.heap.size wr w2 := ⟨hb4.os, hb4.tape, hb4.output, hb4.size, hb4.block⟩
           have hz4 : w.heap.size + 3 ≤ w2.heap.size := Nat.le_trans hL.out.z hb4.size
           have X2 := (hb5.block _ (Array.getElem?_eq_some_iff.1 hL.out.x).1).trans hL.out.x
           have HB5 := Lib.hid hb5
           have HR4 := Lib.hid hr4
           have O2 := Lib.hid ((owns_below hL.out.o hb5).alloc (ndG (bareT t2).op (bareT t2).nm (bareT t2).n a4 (bareT t2).ks.len c4))
           clear x0 x1 x2 x3 y0 y1 y2 y3 hb4 hr4 hb5
           obtain ⟨⟨x0, x1, x2, x3⟩, y0, y1, y2, y3⟩ := four X2
           have X2a := (((Below.refl w2.heap.size w2).alloc (Nat.le_refl _) (.cells #[.string (bareT t2).op, .string (bareT t2).nm, .int .i64 (bareT t2).n, .slice a4 (bareT t2).ks.len c4] 24)).block _ (Array.getElem?_eq_some_iff.1 X2).1).trans X2
           obtain ⟨⟨u0, u1, u2, u3⟩, -⟩ := four X2a
           clear X2 X2a)
        | (refine step_append_new rfl (.tmp 22) (.tmp 29) 22 rfl (base := w.heap.size + 3) und hi hz0 hz1 hz2 rfl (by decide) (.slice va k vc) k 1 (lstL ((kL (bareF t.ks)).take k) q) (ndL (bareT t2) (a4, c4)) ⟨w2.heap.size, 0, none⟩ 1 (by first | (simp [Act.eval]; done) | (simp [Act.eval, Act.put]; done) | fail) (by first | (simp [Act.eval]; done) | (simp [Act.eval, Act.put]; done) | fail) O2.out rfl (ndgNew w2 (bareT t2) a4 c4) (ndL_one _ _) (by unfold maxLen; omega) (by omega) (by rw [World.size_alloc]; omega) ?_
           intro v3 w3 ho3 hg3 hq3
           obtain ⟨va3, vc3, rfl⟩ := own_rowG ho3
           have kg : Kept (fun b => (Value.slice va k vc).ownBlock = some b) w2 w3 := ((Kept.refl _ w2).alloc _).grown hg3 (fun q hq => .inl hq)
           have hov : ∀ b, (Value.slice va k vc).ownBlock = some b → w.heap.size + 3 ≤ b ∧ b < w2.heap.size := fun b hb => by have h1 := (hL.out.o.lt b hb); have := HB5.out.size; omega
           have X3 := kg.heap ((HB5.out.block _ (Array.getElem?_eq_some_iff.1 hL.out.x).1).trans hL.out.x) (fun e => by have := hov _ e; omega)
           have ks := (Kept.refl (· = w.heap.size + 2) w3).setCell (p := ⟨w.heap.size + 2, 3, none⟩) (.inl rfl) (.slice va3 (k + 1) vc3)
           have hnb : ∀ b, b < w2.heap.size → (Value.slice va k vc).ownBlock ≠ some b → (Value.slice va3 (k + 1) vc3).ownBlock ≠ some b := fun b hb hne e => by
             rcases hq3 b e with h1 | h1
             · exact hne h1
             · rw [World.size_alloc] at h1; omega
           have D2 : DnK (fun b => (w.heap.size + 3 ≤ b ∧ (Value.slice va k vc).ownBlock ≠ some b) ∧ (Value.slice va3 (k + 1) vc3).ownBlock ≠ some b) w2 ((kL (bareF t.ks)).take k ++ [bareT t2]) (q ++ [(a4, c4)]) := dnK_snoc ((hL.out.d.keptS (kept_below HB5.out (fun _ => False)) (fun _ h => h.elim)).imp (fun b hb hg => ⟨hg, hnb b hb hg.2⟩)) (HR4.out.imp (fun b hb hg => by
             have hg' : wr.heap.size ≤ b := hg
             have hz := hL.out.z
             have hne : (Value.slice va k vc).ownBlock ≠ some b := fun e => by have := (hL.out.o.lt b e).2; omega
             exact ⟨⟨by omega, hne⟩, hnb b hb hne⟩))
           have D3 := ((D2.keptS kg (fun b hb hg => hg.1.2 hb)).keptS ks (fun b hb hg => by have := hg.1.1; omega)).imp (H := fun b => w.heap.size + 3 ≤ b ∧ (Value.slice va3 (k + 1) vc3).ownBlock ≠ some b) (fun b _ hg => ⟨hg.1.1, hg.2⟩)
           have L3 := Lib.hid (show LB w t (some ⟨b, off, none⟩) c (k + 1) va3 vc3 (q ++ [(a4, c4)]) (w3.setCell ⟨w.heap.size + 2, 3, none⟩ (.slice va3 (k + 1) vc3)) from ⟨
             (hL.out.b.trans (HB5.out.mono (by have := hL.out.z; omega))).trans ((kg.mono (T := fun b => w.heap.size ≤ b) (fun i hi _ => by have := hov i hi; omega)).below (fun _ h => h) (by omega) |>.trans (ks.below (B := w.heap.size) (fun i hi => by omega) (by have := kg.size; omega))),
             ks.heap (kg.heap ((HB5.out.block _ (Array.getElem?_eq_some_iff.1 hL.out.bx).1).trans hL.out.bx) (fun e => by have := hov _ e; omega)) (by omega),
             ks.heap (kg.heap ((HB5.out.block _ (Array.getElem?_eq_some_iff.1 hL.out.rs).1).trans hL.out.rs) (fun e => by have := hov _ e; omega)) (by omega),
             four_set3' X3 _,
             by
               rw [HT.out, lstL_app _ _ _ _ (by rw [hL.out.ql, HTL])]
               have e : lstL [bareT t2] [(a4, c4)] = ndL (bareT t2) (a4, c4) := by simp [lstL]
               rw [e]
               exact owns_set ho3 (by omega) _ _,
             by rw [List.length_append, hL.out.ql]; rfl,
             by rw [HT.out]; exact D3,
             by rw [World.size_setCell]; have := kg.size; omega⟩)
           obtain ⟨-, y0', y1', y2', y3'⟩ := four X3
           obtain ⟨⟨x0', x1', x2', x3'⟩, -⟩ := four X3
           clear ho3 hg3 hq3 kg hov X3 ks hnb D2 D3 x0 x1 x2 x3 y0 y1 y2 y3)
        | fail)
      all_goals
        go_wp2_with fail
        go_roundw
        case rel => exact ⟨k + 1, va3, vc3, q ++ [(a4, c4)], by go_num, by omega, L3⟩
        case measure => simp [intOf]; omega
    · obtain rfl : k = t.ks.len := by omega
      have htk : (kL (bareF t.ks)).take t.ks.len = kL (bareF t.ks) := List.take_of_length_le (by rw [kL_len, bare_len]; exact Nat.le_refl _)
      have P := Lib.hid (show ReadsN (fun b => w.heap.size + 3 ≤ b) wr va (bareF t.ks) by
        have ho := hL.out.o
        have hd := hL.out.d
        rw [htk] at ho hd
        by_cases h0 : bareF t.ks = .nil
        · exact .inl h0
        · have hne : t.ks.len ≠ 0 := fun e => h0 (len_zero (by rw [bare_len]; exact e))
          obtain ⟨g, cc, hv, -, -, hc⟩ := own_full ho hne
          simp only [Value.slice.injEq, true_and] at hv
          obtain ⟨rfl, rfl⟩ := hv
          have hg := ho.lt g rfl
          exact .inr ⟨g, 0, rfl, readsF_list (G := fun b => w.heap.size + 3 ≤ b) hg.1 hg.2 (fun j u hj => by rw [Nat.zero_add]; exact hc j u hj) (hd.imp (fun b _ hg => hg.1))⟩)
      obtain ⟨⟨r0, r1, r2, r3⟩, z0, z1, z2, z3⟩ := four hL.out.rs
      have a1 : ¬ (t.ks.len : Int) < (t.ks.len : Int) := by omega
      clear htk
      go_wp2_with fail
      have KP := kept_put4 wr (w.heap.size + 1) t.op ⟨#[]⟩ t.n va t.ks.len vc
      obtain ⟨⟨d0, d1, d2, d3⟩, -⟩ := four (four_set hL.out.rs (.string t.op) (.string ⟨#[]⟩) (.int .i64 t.n) (.slice va t.ks.len vc))
      exact bodyPost_ret (v := nodeV t.op ⟨#[]⟩ t.n va t.ks.len vc) (by simp [results, Tryz.results19, go_sem, d0, d1, d2, d3]) rfl
        ⟨va, ⟨vc, rfl⟩, (P.out.keptS KP (fun b hb hg => by omega)).imp (fun b _ hg => by omega), hL.out.b.trans (KP.below (B := w.heap.size) (fun b hb => by omega) (by have := hL.out.z; omega))⟩

theorem bare_step (t : TN) (ih : EachF BareOK t.ks) : BareOK t := by
  cases h : isName t.op with
  | true => exact bare_name t h
  | false => exact bare_other t h ih

theorem bare_any (t : TN) : BareOK t := tree_of bare_step t

end Go.Proofs.YtcmcnmmhkpolcaaGreatDoor
