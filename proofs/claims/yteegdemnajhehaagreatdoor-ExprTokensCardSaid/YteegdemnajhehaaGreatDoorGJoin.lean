/-
  No statement: contracts of Clone of nodes, of join of the program's reader.
-/
import Derived.Test.YteegdemnajhehaaGreatDoorGLeaf
import Derived.BigQuiet
import Derived.Deep.Cut
namespace Go.Proofs.YteegdemnajhehaaGreatDoor
open Go.RowKit

theorem own_new4 (w : World) (E : TypeId) (size : Nat) : (w.alloc (.cells #[] E)).ownsRow w.heap.size E size (.slice (some ⟨w.heap.size, 0, none⟩) 0 0) 0 [] :=
  World.ownsRow_made w #[] 0 (Nat.le_refl _) (Nat.zero_le _) (by simp)

set_option maxHeartbeats 4000000 in
set_option maxRecDepth 100000 in
theorem nClone_any (b : Addr) (n c : Nat) (xs : List Value) (hl : xs.length = n * 4) (hn : n ≤ 100) (w : World) (hc : ∀ j u, xs[j]? = some u → w.cell? (b.add j) = some u) (h1 : ∀ u ∈ xs, u.oneCell' = true) :
    Calls Tryz.prog 84 #[.slice (some b) n c] w fun e w' => ∃ v', e = .returned v' ∧ w'.ownsRow w.heap.size 25 4 v' n xs ∧ Below w.heap.size w w' := by
  obtain ⟨i0, hi, hz0, hz1, hz2⟩ := info_parts ndInfo
  have und : Tryz.prog.underlying 23 = some (.slice 25) := Tryz.underlying23
  have OA := Lib.hid (own_new4 w 25 4)
  have BA := Lib.hid ((Below.refl w.heap.size w).alloc (Nat.le_refl _) (.cells #[] 25))
  have HC := Lib.hid (p := ∀ j u, xs[j]? = some u → (w.alloc (.cells #[] 25)).cell? (b.add j) = some u) (fun j u hj => Lib.cell?_alloc_some _ (hc j u hj))
  have HL := Lib.hid hl
  have H1 := Lib.hid h1
  clear hc hl h1
  go_enter Tryz.func84, Tryz.ntmps84
  go_wp2
  rw [Lib.run_eql_slice_nil w _ _ _ _ _ _ _ und]
  simp only [Result.andThen]
  rw [Oper.upon_value]
  go_wp2_with (at_builtin; refine wpList_append_new rfl _ _ 23 rfl und hi hz0 hz1 hz2 rfl (by decide) _ 0 n c b [] xs rfl rfl OA.out HL.out HC.out H1.out (by unfold maxLen; omega) (by omega) (by simp) ?_)
  intro v' w2 ho hg _
  have O2 := Lib.hid ho
  have B2 := Lib.hid (BA.out.grown hg (by simp) (fun k hk => by simp [Value.ownBlock] at hk; omega))
  clear ho hg
  go_wp2_with fail
  go_ret
  exact ⟨v', rfl, by simpa using O2.out, B2.out⟩

/-- How many of the signs take two. -/
def bins : List (List UInt8 × Nat) → Nat
  | [] => 0
  | x :: r => bins r + (if x.1 = bNeg then 0 else 1)
def SgOk (sg : List (List UInt8 × Nat)) : Prop := ∀ x ∈ sg, x.1 = bNeg ∨ signO x.1

theorem arity_neg : arity ⟨bNeg.toArray⟩ = 1 := by decide
theorem arity_sign {o : List UInt8} (h : signO o) : arity ⟨o.toArray⟩ = 2 ∧ o ≠ bNeg := by
  rcases h with rfl | rfl | rfl | rfl | rfl <;> decide

theorem join_bal {h : Nat} : ∀ {sg : List (List UInt8 × Nat)} {dn : List TN}, SgOk sg → dn.length = bins sg + 1 → SgOk (joinS h sg dn).1 ∧ (joinS h sg dn).2.length = bins (joinS h sg dn).1 + 1
  | [], dn, _, hd => ⟨fun _ hx => (by cases hx), hd⟩
  | (o, k) :: sg, dn, hs, hd => by
    rw [joinS]
    by_cases hk : h ≤ k
    · rw [if_pos hk]
      refine join_bal (fun x hx => hs x (List.mem_cons_of_mem _ hx)) ?_
      rw [bins] at hd
      unfold joinOne
      by_cases ho : o = bNeg
      · rw [if_pos ho] at hd ⊢
        cases dn with
        | nil => simp at hd
        | cons a r => simpa using hd
      · rw [if_neg ho] at hd ⊢
        match dn, hd with
        | [], hd => simp at hd
        | [a], hd => simp at hd
        | b :: a :: r, hd => simp at hd ⊢; omega
    · rw [if_neg hk]; exact ⟨hs, hd⟩

theorem join_stop {h : Nat} {sg : List (List UInt8 × Nat)} {dn : List TN} (H : ∀ o k r, sg = (o, k) :: r → ¬ h ≤ k) : joinS h sg dn = (sg, dn) := by
  cases sg with
  | nil => rfl
  | cons x r => obtain ⟨o, k⟩ := x; rw [joinS, if_neg (H o k r rfl)]

theorem own_full {w : World} {B m size : Nat} {e : TypeId} {v : Value} {xs : List Value} (h : w.ownsRow B e size v m xs) (hm : m ≠ 0) : ∃ g c, v = .slice (some ⟨g, 0, none⟩) m c ∧ m ≤ c ∧ c ≤ maxLen ∧ ∀ j u, xs[j]? = some u → w.cell? ⟨g, j, none⟩ = some u := by
  rcases h.2 with ⟨rfl, h0⟩ | ⟨g, cap, _, rfl, _, _, h1, h2, _⟩
  · exact absurd h0 hm
  · refine ⟨g, cap, rfl, h1, h2, fun j u hj => ?_⟩
    obtain ⟨g', h1, h2⟩ := owns_at h hj
    simp only [Addr.mk.injEq, and_true] at h1
    subst h1
    exact h2

theorem reads_one {G : Nat → Prop} {w : World} {g : Nat} {t : TN} {q : Option Addr × Nat} {r : F} {off : Nat} (hG : G g) (hlt : g < w.heap.size) (hc : ∀ j u, (ndL t q)[j]? = some u → w.cell? ⟨g, off + j, none⟩ = some u) (hk : ReadsN G w q.1 t.ks) (hr : ReadsF G w r g (off + 4)) : ReadsF G w (.cons t.op t.nm t.n t.ks r) g off :=
  ⟨hG, hlt, ⟨q.1, q.2, ⟨hc 0 _ rfl, hc 1 _ rfl, hc 2 _ rfl, hc 3 _ rfl⟩, hk⟩, hr⟩

section
variable {x : Nat} {ts : List Tk} {rb : Nat} {a : Option Addr} {c p o n : Nat} {sg : List (List UInt8 × Nat)} {dn : List TN} {sv dv : Value} {q : List (Option Addr × Nat)} {w w' : World}

/-- The last sign gone. -/
theorem RGx.pop {y : List UInt8 × Nat} {g vc : Nat} (h : RGx x ts rb a c p o n (y :: sg) dn (.slice (some ⟨g, 0, none⟩) (sg.length + 1) vc) dv q w) : RGx x ts rb a c p o n sg dn (.slice (some ⟨g, 0, none⟩) sg.length vc) dv q (w.setCell ⟨rb, 4, none⟩ (.slice (some ⟨g, 0, none⟩) sg.length vc)) := by
  have ho := owns_take (m := sg.length) h.so (by simp) (by simp)
  rw [wssL, List.take_append_of_le_length (by rw [wssL_len]; exact Nat.le_refl _), List.take_of_length_le (by rw [wssL_len]; exact Nat.le_refl _)] at ho
  exact h.put_sg (Kept.refl _ w) ho (fun b hb => .inl hb) (by have := h.hs; simp at this; omega)

/-- Trees taken into a new one. -/
theorem RGx.take {w1 w3 : World} {dn1 : List TN} {q1 : List (Option Addr × Nat)} {t : TN} {dv' : Value} {gk ck : Nat} {obj : Obj} (h : RGx x ts rb a c p o n sg dn sv dv q w1)
    (hg : (w1.alloc obj).grownBy w3 dv.ownBlock) (hrow : w3.ownsRow (rb + 1) 25 4 dv' (dn1.length + 1) (dnL dn1 q1 ++ ndL t (some ⟨gk, 0, none⟩, ck)))
    (hnew : ∀ b, dv'.ownBlock = some b → dv.ownBlock = some b ∨ w1.heap.size + 1 ≤ b) (hk1 : DnK (Gk x rb sv dv) w1 dn1 q1) (hkt : ReadsN (Gk x rb sv dv) w1 (some ⟨gk, 0, none⟩) t.ks) (hd : dn1.length + 1 ≤ n) :
    RGx x ts rb a c p o n sg (t :: dn1) sv dv' ((some ⟨gk, 0, none⟩, ck) :: q1) (w3.setCell ⟨rb, 5, none⟩ dv') ∧ KeptR rb w1 (w3.setCell ⟨rb, 5, none⟩ dv') := by
  have K3 := ((Kept.refl (fun b => dv.ownBlock = some b) w1).alloc obj).grown hg (fun k hk => .inl hk)
  exact ⟨h.put_dn (dn' := t :: dn1) K3 hrow (fun b hb => (hnew b hb).imp id (fun hle => by omega)) ⟨hkt, hk1⟩ (by rw [List.length_cons]; omega),
    (K3.mono (T := fun b => rb ≤ b) (fun k hk _ => Nat.le_of_lt (h.dvNe hk).1)).setCell (p := ⟨rb, 5, none⟩) (.inl (Nat.le_refl _)) dv'⟩
end

/-- What join leaves. -/
def JoinR (x : Nat) (ts : List Tk) (rb : Nat) (a : Option Addr) (c p o n : Nat) (r : List (List UInt8 × Nat) × List TN) (w0 w' : World) : Prop := KeptR rb w0 w' ∧ ∃ sv dv q, RGx x ts rb a c p o n r.1 r.2 sv dv q w'

/-- The blocks that are no rows stay as they were. -/
structure Fr (rb : Nat) (sv dv : Value) (w : World) (sv1 dv1 : Value) (w1 : World) : Prop where
  b : ∀ b, b < w.heap.size → b ≠ rb → sv.ownBlock ≠ some b → dv.ownBlock ≠ some b → w1.heap[b]? = w.heap[b]?
  s : ∀ b, sv1.ownBlock = some b → sv.ownBlock = some b ∨ w.heap.size ≤ b
  d : ∀ b, dv1.ownBlock = some b → dv.ownBlock = some b ∨ w.heap.size ≤ b
  z : w.heap.size ≤ w1.heap.size

theorem Fr.step {rb : Nat} {sv dv sv1 dv1 sv2 dv2 : Value} {w wr w1 w3 : World} (h : Fr rb sv dv w sv1 dv1 wr) (hb : Below wr.heap.size wr w1) (hk : Kept (fun b => dv1.ownBlock = some b) w1 w3) (hs : sv2.ownBlock = sv1.ownBlock) (hd : ∀ b, dv2.ownBlock = some b → dv1.ownBlock = some b ∨ w1.heap.size + 1 ≤ b) (x y : Nat) (u v : Value) :
    Fr rb sv dv w sv2 dv2 ((w3.setCell ⟨rb, x, none⟩ u).setCell ⟨rb, y, none⟩ v) := by
  have hz := h.z
  have hz1 := hb.size
  have hz3 := hk.size
  have ks := (((Kept.refl (· = rb) w3).setCell (p := ⟨rb, x, none⟩) (.inl rfl) u).setCell (p := ⟨rb, y, none⟩) (.inl rfl) v)
  have hz4 := ks.size
  refine ⟨fun b h1 h2 h3 h4 => ?_, fun b hb2 => h.s b (by rw [← hs]; exact hb2), fun b hb2 => ?_, by omega⟩
  · rw [ks.block b (by omega) h2, hk.block b (by omega) (fun e => (h.d b e).elim h4 (fun hle => by omega)), hb.block b (by omega)]
    exact h.b b h1 h2 h3 h4
  · rcases hd b hb2 with h1 | h1
    · exact h.d b h1
    · exact .inr (by omega)

set_option maxHeartbeats 8000000 in
set_option maxRecDepth 100000 in
theorem join_fr (x : Nat) (ts : List Tk) (rb : Nat) (a : Option Addr) (c p o n h : Nat) (sg : List (List UInt8 × Nat)) (dn : List TN) (sv dv : Value) (q : List (Option Addr × Nat)) (w : World) (H : RGx x ts rb a c p o n sg dn sv dv q w) (hs : SgOk sg) (hd : dn.length = bins sg + 1) :
    Calls Tryz.prog 62 #[.pointer (some ⟨rb, 0, none⟩), .int .i64 h] w fun e w' => e = .returned (.tuple #[]) ∧ JoinR x ts rb a c p o n (joinS h sg dn) w w' ∧ (∀ b, b < w.heap.size → b ≠ rb → sv.ownBlock ≠ some b → dv.ownBlock ≠ some b → w'.heap[b]? = w.heap[b]?) := by
  obtain ⟨i0, hi, hz0, hz1, hz2⟩ := info_parts ndInfo
  have und : Tryz.prog.underlying 23 = some (.slice 25) := Tryz.underlying23
  obtain ⟨r0, hr0⟩ : ∃ r, joinS h sg dn = r := ⟨_, rfl⟩
  rw [hr0]
  have K0 := Lib.hid (KeptR.refl rb w)
  have HR := Lib.hid H
  have HS := Lib.hid hs
  have HD := Lib.hid hd
  have HE := Lib.hid hr0
  have hslen := H.hs
  have hn32 := H.g.hn
  obtain ⟨va, vc, hv⟩ := own_rowG H.so
  subst hv
  obtain ⟨⟨c0, c1, c2, c3, c4, c5⟩, f1, f2, f3, f4, f5⟩ := H.g.r.cells
  clear hs hd hr0 H
  go_enter Tryz.func62, Tryz.ntmps62
  go_wp2_with fail
  go_loopg [4] sg.length (fun g v wr => ∃ (z : Int) (sg1 : List (List UInt8 × Nat)) (dn1 : List TN) (sv1 dv1 : Value) (q1 : List (Option Addr × Nat)), v = .int .i64 z ∧ z = (sg1.length : Int) - 1 ∧ sg1.length ≤ g ∧ Hid (RGx x ts rb a c p o n sg1 dn1 sv1 dv1 q1 wr) ∧ Hid (SgOk sg1) ∧ Hid (dn1.length = bins sg1 + 1) ∧ Hid (joinS h sg1 dn1 = r0) ∧ Hid (KeptR rb w wr) ∧ Hid (Fr rb (.slice va sg.length vc) dv w sv1 dv1 wr))
  case atStart => exact ⟨_, sg, dn, _, dv, q, rfl, by first | rfl | (simp; done) | omega, Nat.le_refl _, HR, HS, HD, HE, K0, Lib.hid ⟨fun _ _ _ _ _ => rfl, fun _ h => .inl h, fun _ h => .inl h, Nat.le_refl _⟩⟩
  case round =>
    obtain ⟨z, sg1, dn1, sv1, dv1, q1, rfl, hz, hg, hR, hS, hD, hE, hK, hF⟩ := hrel
    clear c0 c1 c2 c3 c4 c5 f1 f2 f3 f4 f5
    cases sg1 with
    | nil =>
      have a0 : ¬ (0 : Int) ≤ z := by rw [hz]; simp
      clear hz
      have E := Lib.hid (show r0 = ([], dn1) by rw [← hE.out]; rfl)
      go_wp2_with fail
      go_end0
      rw [E.out]
      exact ⟨rfl, ⟨hK.out, _, _, _, hR.out⟩, hF.out.b⟩
    | cons y r =>
      obtain ⟨o', k⟩ := y
      obtain rfl : z = (r.length : Int) := by rw [hz, List.length_cons]; omega
      have R1 := hR.out
      obtain ⟨g, vc1, hv, hvc, hvm, hcs⟩ := own_full R1.so (by simp)
      have s0 := hcs (r.length * 2) (.string ⟨o'.toArray⟩) (by rw [wssL, List.getElem?_append_right (by rw [wssL_len]; exact Nat.le_refl _), wssL_len, Nat.sub_self]; rfl)
      have s1 := hcs (r.length * 2 + 1) (.int .i64 k) (by rw [wssL, List.getElem?_append_right (by rw [wssL_len]; omega), wssL_len, show r.length * 2 + 1 - r.length * 2 = 1 by omega]; rfl)
      subst hv
      have hrl := R1.hs
      rw [List.length_cons] at hrl hvc hg
      obtain ⟨⟨c0, c1, c2, c3, c4, c5⟩, f1, f2, f3, f4, f5⟩ := R1.g.r.cells
      rw [List.length_cons] at c4
      have a1 : (0 : Int) ≤ (r.length : Int) := by omega
      have a2 : (r.length : Int) < (r.length : Int) + 1 := by omega
      have a3 : ((r.length : Int)).toNat = r.length := by omega
      clear hcs R1 hz
      by_cases hk : h ≤ k
      · have b1 : (h : Int) ≤ (k : Int) := by omega
        have KO := Lib.hid (fun w => kidsOf_any ⟨o'.toArray⟩ w)
        have hlq := dnK_len hR.out.dk
        by_cases ho : o' = bNeg
        · subst ho
          rw [arity_neg] at KO
          obtain ⟨t1, r1, rfl⟩ : ∃ t r, dn1 = t :: r := by
            cases dn1 with
            | nil => exact absurd hD.out (by simp)
            | cons t r => exact ⟨t, r, rfl⟩
          obtain ⟨qa, q2, rfl⟩ : ∃ a b, q1 = a :: b := by
            cases q1 with
            | nil => simp at hlq
            | cons a b => exact ⟨a, b, rfl⟩
          obtain ⟨d, vd, hv, hvd, hvm2, hcs⟩ := own_full hR.out.dw (by simp)
          subst hv
          have hl2 : q2.length = r1.length := by simpa using hlq
          have hdl := dnL_len hl2
          have HC := Lib.hid (p := ∀ j u, (ndL t1 qa)[j]? = some u → wr.cell? ((⟨d, r1.length * 4, none⟩ : Addr).add j) = some u) (fun j u hj => by
            rw [Addr.add_lit]
            refine hcs _ _ ?_
            rw [dnL, List.getElem?_append_right (by omega), hdl, Nat.add_sub_cancel_left]
            exact hj)
          have CL := Lib.hid (fun nq c => nClone_any ⟨d, r1.length * 4, none⟩ 1 c (ndL t1 qa) rfl (by omega) (wr.drewN nq) HC.out (ndL_one t1 qa))
          rw [List.length_cons] at c5 hvd
          have d1 : (0 : Int) ≤ (r1.length : Int) := by omega
          have d2 : (r1.length : Int) ≤ (r1.length : Int) + 1 := by omega
          have d3 : ((r1.length : Int)).toNat = r1.length := by omega
          have d4 : (r1.length : Int) ≤ (vd : Int) := by omega
          have hdn := hR.out.hd
          rw [List.length_cons] at hdn
          have OT := owns_take (m := r1.length) hR.out.dw (by rw [List.length_cons]; omega) (by simp)
          rw [dnL, List.take_append_of_le_length (by rw [hdl]; exact Nat.le_refl _), List.take_of_length_le (by rw [hdl]; exact Nat.le_refl _)] at OT
          have OT2 := Lib.hid OT
          clear hcs hlq OT
          go_upto_region 4 with fail
          go_upto_region 5 with (go_quiet ((go_at_call 68; refine (KO.out _).mono ?_; rintro e w' ⟨he, rfl⟩; exact ⟨he, _, rfl⟩)))
          go_wp2_with fail
          refine (CL.out _ _).mono ?_
          rintro e w1 ⟨v1, rfl, hro, hb⟩
          obtain ⟨gk1, ck, rfl, -, -, hcell⟩ := own_full hro (by decide)
          have hbb : Below wr.heap.size wr w1 := ⟨hb.os, hb.tape, hb.output, hb.size, hb.block⟩
          have R2 := hR.out.below hbb
          have hgk := (hro.lt gk1 rfl)
          have hwr := hR.out.lt
          have GK : Gk x rb (.slice (some ⟨g, 0, none⟩) (r.length + 1) vc1) (.slice (some ⟨d, 0, none⟩) (r1.length + 1) vd) gk1 := by
            have hz : (wr.drewN nq).heap.size = wr.heap.size := rfl
            have k1 : g < wr.heap.size := (hR.out.svNe rfl).2
            have k2 : d < wr.heap.size := (hR.out.dvNe rfl).2
            have k3 : x < wr.heap.size := hR.out.hx
            exact ⟨by omega, by omega, fun e => by have := Option.some.inj (show some g = some gk1 from e); omega, fun e => by have := Option.some.inj (show some d = some gk1 from e); omega⟩
          have KT : ReadsN (Gk x rb (.slice (some ⟨g, 0, none⟩) (r.length + 1) vc1) (.slice (some ⟨d, 0, none⟩) (r1.length + 1) vd)) w1 (some ⟨gk1, 0, none⟩) (negT t1).ks := .inr ⟨gk1, 0, rfl, reads_one (q := qa) (t := t1) GK hgk.2 (fun j u hj => by rw [Nat.zero_add]; exact hcell j u hj) R2.dk.1 trivial⟩
          have DK2 := R2.dk.2
          have OT3 := Lib.hid (owns_below OT2.out hbb)
          have NEW := Lib.hid (p := ∀ j u, (ndL (negT t1) (some ⟨gk1, 0, none⟩, ck))[j]? = some u → (w1.alloc (.cells #[.string ⟨bNeg.toArray⟩, .string ⟨#[]⟩, .int .i64 0, .slice (some ⟨gk1, 0, none⟩) 1 ck] 25)).cell? ((⟨w1.heap.size, 0, none⟩ : Addr).add j) = some u) (fun j u hj => by
            have e : ndL (negT t1) (some ⟨gk1, 0, none⟩, ck) = (#[.string ⟨bNeg.toArray⟩, .string ⟨#[]⟩, .int .i64 0, .slice (some ⟨gk1, 0, none⟩) 1 ck] : Array Value).toList := rfl
            rw [e] at hj
            rw [Addr.add_lit, Nat.zero_add, cell_of_row _ _ _ _ _ (0, 0) (heap_alloc_new w1 _)]
            simpa using hj)
          clear c0 c1 c2 c3 c4 c5 f1 f2 f3 f4 f5 s0 s1
          obtain ⟨⟨c0, c1, c2, c3, c4, c5⟩, f1, f2, f3, f4, f5⟩ := R2.g.r.cells
          rw [List.length_cons] at c4
          rw [List.length_cons] at c5
          have HR2 := Lib.hid R2
          have HKT := Lib.hid KT
          have HDK := Lib.hid DK2
          have HBB := Lib.hid hbb
          have hsz2 := R2.lt
          clear hro hb hcell R2 KT DK2 GK hbb CL HC
          go_wp2_with (at_builtin; refine wpList_append_new rfl _ _ 23 rfl und hi hz0 hz1 hz2 rfl (by decide) (.slice (some ⟨d, 0, none⟩) r1.length vd) r1.length 1 1 ⟨w1.heap.size, 0, none⟩ (dnL r1 q2) (ndL (negT t1) (some ⟨gk1, 0, none⟩, ck)) rfl rfl (OT3.out.alloc _) rfl NEW.out (ndL_one _ _) (by unfold maxLen; omega) (by omega) (by simp; omega) ?_)
          intro v3 w3 ho3 hg3 hq3
          obtain ⟨gg, cc3, rfl⟩ := own_some ho3 (Nat.succ_ne_zero _)
          obtain ⟨P3, K3⟩ := HR2.out.take hg3 ho3 hq3 HDK.out HKT.out (by omega)
          have KD := (((Kept.refl (fun b => (Value.slice (some ⟨d, 0, none⟩) (r1.length + 1) vd).ownBlock = some b) w1).alloc _).grown hg3 (fun k hk => .inl hk))
          have F4 := Lib.hid (hF.out.step (sv2 := .slice (some ⟨g, 0, none⟩) r.length vc1) (dv2 := .slice (some ⟨gg, 0, none⟩) (r1.length + 1) cc3) HBB.out KD rfl hq3 5 4 (.slice (some ⟨gg, 0, none⟩) (r1.length + 1) cc3) (.slice (some ⟨g, 0, none⟩) r.length vc1))
          clear KD
          have G3 := ((HR2.out.g.kept (((Kept.refl (fun b => (Value.slice (some ⟨d, 0, none⟩) (r1.length + 1) vd).ownBlock = some b) w1).alloc _).grown hg3 (fun k hk => .inl hk)) (fun k hk => (HR2.out.dvNe hk).1)).r.cells)
          have P4 := Lib.hid P3.pop
          have K4 := Lib.hid (((hK.out.trans (KeptR.below HBB.out)).trans K3).set 4 (.slice (some ⟨g, 0, none⟩) r.length vc1))
          clear c0 c1 c2 c3 c4 c5 f1 f2 f3 f4 f5 ho3 hg3 hq3 P3 K3
          obtain ⟨⟨c0, c1, c2, c3, c4, c5⟩, f1, f2, f3, f4, f5⟩ := G3
          rw [List.length_cons] at c4
          rw [List.length_cons] at c5
          have S5 := Lib.hid (show SgOk r from fun x hx => hS.out x (List.mem_cons_of_mem _ hx))
          have D5 := Lib.hid (show ((negT t1) :: r1).length = bins r + 1 by have := hD.out; rw [bins, if_pos rfl] at this; simp at this ⊢; omega)
          have E5 := Lib.hid (show joinS h r ((negT t1) :: r1) = r0 by rw [← hE.out]; conv => rhs; rw [joinS, if_pos hk, joinOne, if_pos rfl])
          have r1a : (r.length : Int) ≤ (r.length : Int) + 1 := by omega
          have r1b : (r.length : Int) ≤ (vc1 : Int) := by omega
          clear hk
          go_wp2_with fail
          go_roundg r.length
          case measure => omega
          case rel => exact ⟨(r.length : Int) - 1, r, (negT t1) :: r1, _, _, _, rfl, rfl, Nat.le_refl _, P4, S5, D5, E5, K4, F4⟩
        · have hso : signO o' := (hS.out _ List.mem_cons_self).resolve_left ho
          rw [(arity_sign hso).1] at KO
          obtain ⟨t2, t1, r1, rfl⟩ : ∃ t s r, dn1 = t :: s :: r := by
            have h0 := hD.out
            rw [bins, if_neg ho] at h0
            match dn1, h0 with
            | [], h0 => simp at h0
            | [_], h0 => simp at h0
            | t :: s :: r, _ => exact ⟨t, s, r, rfl⟩
          obtain ⟨qb, qa, q2, rfl⟩ : ∃ a b c, q1 = a :: b :: c := by
            match q1, hlq with
            | [], h0 => simp at h0
            | [_], h0 => simp at h0
            | a :: b :: c, _ => exact ⟨a, b, c, rfl⟩
          obtain ⟨d, vd, hv, hvd, hvm2, hcs⟩ := own_full hR.out.dw (by simp)
          subst hv
          have hl2 : q2.length = r1.length := by simpa using hlq
          have hdl := dnL_len hl2
          have HC := Lib.hid (p := ∀ j u, (ndL t1 qa ++ ndL t2 qb)[j]? = some u → wr.cell? ((⟨d, r1.length * 4, none⟩ : Addr).add j) = some u) (fun j u hj => by
            rw [Addr.add_lit]
            refine hcs _ _ ?_
            rw [dnL, dnL, List.append_assoc, List.getElem?_append_right (by omega), hdl, Nat.add_sub_cancel_left]
            exact hj)
          have CL := Lib.hid (fun nq c => nClone_any ⟨d, r1.length * 4, none⟩ 2 c (ndL t1 qa ++ ndL t2 qb) rfl (by omega) (wr.drewN nq) HC.out (fun u hu => (List.mem_append.1 hu).elim (ndL_one t1 qa u) (ndL_one t2 qb u)))
          rw [List.length_cons, List.length_cons] at c5 hvd
          have d1 : (0 : Int) ≤ (r1.length : Int) := by omega
          have d2 : (r1.length : Int) ≤ (r1.length : Int) + 2 := by omega
          have d3 : ((r1.length : Int)).toNat = r1.length := by omega
          have d4 : (r1.length : Int) ≤ (vd : Int) := by omega
          have d5 : (r1.length : Int) ≤ (r1.length : Int) + 1 + 1 := by omega
          have d6 : (r1.length : Int) + 1 + 1 - 2 = (r1.length : Int) := by omega
          have d7 : r1.length + 1 + 1 - r1.length = 2 := by omega
          have hdn := hR.out.hd
          rw [List.length_cons, List.length_cons] at hdn
          have OT := owns_take (m := r1.length) hR.out.dw (by rw [List.length_cons, List.length_cons]; omega) (by simp)
          rw [dnL, dnL, List.append_assoc, List.take_append_of_le_length (by rw [hdl]; exact Nat.le_refl _), List.take_of_length_le (by rw [hdl]; exact Nat.le_refl _)] at OT
          have OT2 := Lib.hid OT
          clear hcs hlq OT
          go_upto_region 4 with fail
          go_upto_region 5 with (go_quiet ((go_at_call 68; refine (KO.out _).mono ?_; rintro e w' ⟨he, rfl⟩; exact ⟨he, _, rfl⟩)))
          go_wp2_with fail
          refine (CL.out _ _).mono ?_
          rintro e w1 ⟨v1, rfl, hro, hb⟩
          obtain ⟨gk1, ck, rfl, -, -, hcell⟩ := own_full hro (by decide)
          have hbb : Below wr.heap.size wr w1 := ⟨hb.os, hb.tape, hb.output, hb.size, hb.block⟩
          have R2 := hR.out.below hbb
          have hgk := (hro.lt gk1 rfl)
          have hwr := hR.out.lt
          have GK : Gk x rb (.slice (some ⟨g, 0, none⟩) (r.length + 1) vc1) (.slice (some ⟨d, 0, none⟩) (r1.length + 1 + 1) vd) gk1 := by
            have hz : (wr.drewN nq).heap.size = wr.heap.size := rfl
            have k1 : g < wr.heap.size := (hR.out.svNe rfl).2
            have k2 : d < wr.heap.size := (hR.out.dvNe rfl).2
            have k3 : x < wr.heap.size := hR.out.hx
            exact ⟨by omega, by omega, fun e => by have := Option.some.inj (show some g = some gk1 from e); omega, fun e => by have := Option.some.inj (show some d = some gk1 from e); omega⟩
          have KT : ReadsN (Gk x rb (.slice (some ⟨g, 0, none⟩) (r.length + 1) vc1) (.slice (some ⟨d, 0, none⟩) (r1.length + 1 + 1) vd)) w1 (some ⟨gk1, 0, none⟩) (twoT o' t1 t2).ks := .inr ⟨gk1, 0, rfl, reads_one (q := qa) (t := t1) GK hgk.2 (fun j u hj => by
            have hj4 : j < 4 := (List.getElem?_eq_some_iff.1 hj).1
            rw [Nat.zero_add]; exact hcell j u (by rw [List.getElem?_append_left (by exact hj4)]; exact hj)) R2.dk.2.1 (reads_one (q := qb) (t := t2) GK hgk.2 (fun j u hj => hcell (0 + 4 + j) u (by rw [List.getElem?_append_right (by show 4 ≤ _; omega), show 0 + 4 + j - (ndL t1 qa).length = j by show 0 + 4 + j - 4 = j; omega]; exact hj)) R2.dk.1 trivial)⟩
          have DK2 := R2.dk.2.2
          have OT3 := Lib.hid (owns_below OT2.out hbb)
          have NEW := Lib.hid (p := ∀ j u, (ndL (twoT o' t1 t2) (some ⟨gk1, 0, none⟩, ck))[j]? = some u → (w1.alloc (.cells #[.string ⟨o'.toArray⟩, .string ⟨#[]⟩, .int .i64 0, .slice (some ⟨gk1, 0, none⟩) 2 ck] 25)).cell? ((⟨w1.heap.size, 0, none⟩ : Addr).add j) = some u) (fun j u hj => by
            have e : ndL (twoT o' t1 t2) (some ⟨gk1, 0, none⟩, ck) = (#[.string ⟨o'.toArray⟩, .string ⟨#[]⟩, .int .i64 0, .slice (some ⟨gk1, 0, none⟩) 2 ck] : Array Value).toList := rfl
            rw [e] at hj
            rw [Addr.add_lit, Nat.zero_add, cell_of_row _ _ _ _ _ (0, 0) (heap_alloc_new w1 _)]
            simpa using hj)
          clear c0 c1 c2 c3 c4 c5 f1 f2 f3 f4 f5 s0 s1
          obtain ⟨⟨c0, c1, c2, c3, c4, c5⟩, f1, f2, f3, f4, f5⟩ := R2.g.r.cells
          rw [List.length_cons] at c4
          rw [List.length_cons, List.length_cons] at c5
          have HR2 := Lib.hid R2
          have HKT := Lib.hid KT
          have HDK := Lib.hid DK2
          have HBB := Lib.hid hbb
          have hsz2 := R2.lt
          clear hro hb hcell R2 KT DK2 GK hbb CL HC
          go_wp2_with (at_builtin; refine wpList_append_new rfl _ _ 23 rfl und hi hz0 hz1 hz2 rfl (by decide) (.slice (some ⟨d, 0, none⟩) r1.length vd) r1.length 1 1 ⟨w1.heap.size, 0, none⟩ (dnL r1 q2) (ndL (twoT o' t1 t2) (some ⟨gk1, 0, none⟩, ck)) rfl rfl (OT3.out.alloc _) rfl NEW.out (ndL_one _ _) (by unfold maxLen; omega) (by omega) (by simp; omega) ?_)
          intro v3 w3 ho3 hg3 hq3
          obtain ⟨gg, cc3, rfl⟩ := own_some ho3 (Nat.succ_ne_zero _)
          obtain ⟨P3, K3⟩ := HR2.out.take hg3 ho3 hq3 HDK.out HKT.out (by omega)
          have KD := (((Kept.refl (fun b => (Value.slice (some ⟨d, 0, none⟩) (r1.length + 1 + 1) vd).ownBlock = some b) w1).alloc _).grown hg3 (fun k hk => .inl hk))
          have F4 := Lib.hid (hF.out.step (sv2 := .slice (some ⟨g, 0, none⟩) r.length vc1) (dv2 := .slice (some ⟨gg, 0, none⟩) (r1.length + 1) cc3) HBB.out KD rfl hq3 5 4 (.slice (some ⟨gg, 0, none⟩) (r1.length + 1) cc3) (.slice (some ⟨g, 0, none⟩) r.length vc1))
          clear KD
          have G3 := ((HR2.out.g.kept (((Kept.refl (fun b => (Value.slice (some ⟨d, 0, none⟩) (r1.length + 1 + 1) vd).ownBlock = some b) w1).alloc _).grown hg3 (fun k hk => .inl hk)) (fun k hk => (HR2.out.dvNe hk).1)).r.cells)
          have P4 := Lib.hid P3.pop
          have K4 := Lib.hid (((hK.out.trans (KeptR.below HBB.out)).trans K3).set 4 (.slice (some ⟨g, 0, none⟩) r.length vc1))
          clear c0 c1 c2 c3 c4 c5 f1 f2 f3 f4 f5 ho3 hg3 hq3 P3 K3
          obtain ⟨⟨c0, c1, c2, c3, c4, c5⟩, f1, f2, f3, f4, f5⟩ := G3
          rw [List.length_cons] at c4
          rw [List.length_cons, List.length_cons] at c5
          have S5 := Lib.hid (show SgOk r from fun x hx => hS.out x (List.mem_cons_of_mem _ hx))
          have D5 := Lib.hid (show ((twoT o' t1 t2) :: r1).length = bins r + 1 by have := hD.out; rw [bins, if_neg ho] at this; simp at this ⊢; omega)
          have E5 := Lib.hid (show joinS h r ((twoT o' t1 t2) :: r1) = r0 by rw [← hE.out]; conv => rhs; rw [joinS, if_pos hk, joinOne, if_neg ho])
          have r1a : (r.length : Int) ≤ (r.length : Int) + 1 := by omega
          have r1b : (r.length : Int) ≤ (vc1 : Int) := by omega
          clear hk
          go_wp2_with fail
          go_roundg r.length
          case measure => omega
          case rel => exact ⟨(r.length : Int) - 1, r, (twoT o' t1 t2) :: r1, _, _, _, rfl, rfl, Nat.le_refl _, P4, S5, D5, E5, K4, F4⟩
      · have b1 : ¬ (h : Int) ≤ (k : Int) := by omega
        have E := Lib.hid (show r0 = ((o', k) :: r, dn1) by rw [← hE.out, joinS, if_neg hk])
        clear hk
        go_wp2_with fail
        go_end0
        rw [E.out]
        exact ⟨rfl, ⟨hK.out, _, _, _, hR.out⟩, hF.out.b⟩

theorem join_any (ts : List Tk) (rb : Nat) (a : Option Addr) (c p o n h : Nat) (sg : List (List UInt8 × Nat)) (dn : List TN) (sv dv : Value) (q : List (Option Addr × Nat)) (w : World) (H : RG ts rb a c p o n sg dn sv dv q w) (hs : SgOk sg) (hd : dn.length = bins sg + 1) :
    Calls Tryz.prog 62 #[.pointer (some ⟨rb, 0, none⟩), .int .i64 h] w fun e w' => e = .returned (.tuple #[]) ∧ JoinR rb ts rb a c p o n (joinS h sg dn) w w' :=
  (join_fr rb ts rb a c p o n h sg dn sv dv q w H hs hd).mono fun _ _ hP => ⟨hP.1, hP.2.1⟩

end Go.Proofs.YteegdemnajhehaaGreatDoor
