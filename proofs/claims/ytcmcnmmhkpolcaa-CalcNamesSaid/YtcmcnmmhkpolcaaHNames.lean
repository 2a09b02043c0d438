/-
  No statement: expressions without division: something just where each name is a number; the law's own divides.
-/
import Derived.Test.YtcmcnmmhkpolcaaHPut
import Derived.Test.YtcmcnmmhkpolcaaHKnown
namespace Go.Proofs.Ytcmcnmmhkpolcaa
open Go.RowKit

def isDiv (o : ByteArray) : Bool := (o.data.toList == [47]) || (o.data.toList == [37])
def divF : F → Bool
  | .nil => false
  | .cons o _ _ ks r => (isDiv o || divF ks) || divF r
/-- Is there a division in a tree? -/
def divT (t : TN) : Bool := isDiv t.op || divF t.ks

theorem div_cons {f : F} {t : TN} {r : F} (h : f = .cons t.op t.nm t.n t.ks r) : divF f = (divT t || divF r) := by rw [h]; rfl
theorem div_tree (t : TN) : divF t.f = divT t := by unfold TN.f; rw [divF, divF, Bool.or_false]; rfl

theorem apply_some {o : ByteArray} {x y : Int} (h4 : isTwo o = true) (hd : isDiv o = false) : (applyB o x y).isSome = true := by
  unfold isTwo at h4
  unfold isDiv at hd
  simp only [Bool.or_eq_false_iff] at hd
  rw [hd.1, hd.2] at h4
  unfold applyB
  split
  · rfl
  split
  · rfl
  split
  · rfl
  · rename_i h1 h2 h3
    simp only [Bool.not_eq_true] at h1 h2 h3
    rw [h1, h2, h3] at h4
    cases h4

theorem names_num {o m : ByteArray} {n : Int} (h : isNum o = true) : allN (.cons o m n .nil .nil) = [] := by
  have : isName o = false := by rw [num_op h]; decide
  rw [allN, allN, this]; rfl

/-- Without division an expression is something just where each of its names is. -/
theorem ev_some {g : ByteArray → Option Int} (t : TN) (h : OkT t) (hn : NumsF t.f) : divT t = false → ((evT g t).isSome = true ↔ ∀ x ∈ allN t.f, (g x).isSome = true) :=
  tree_induct1 (P := fun t => divT t = false → ((evT g t).isSome = true ↔ ∀ x ∈ allN t.f, (g x).isSome = true))
    (fun o m n h _ _ _ => by
      rw [ev_num g h]
      have e : allN (TN.f ⟨o, m, n, .nil⟩) = [] := names_num h
      rw [e]
      exact ⟨fun _ x hx => (by cases hx), fun _ => rfl⟩)
    (fun o m n h h2 _ _ => by
      rw [ev_name g h h2]
      have e : allN (TN.f ⟨o, m, n, .nil⟩) = [m] := by show allN (.cons o m n .nil .nil) = _; rw [allN, allN, if_pos h2]; rfl
      rw [e]
      exact ⟨fun k x hx => by rw [List.mem_singleton.1 hx]; exact k, fun k => k m (List.mem_singleton.2 rfl)⟩)
    (fun o m n a h h2 h3 ih hd => by
      rw [ev_neg g a h h2 h3]
      have e : allN (TN.f ⟨o, m, n, a.f⟩) = allN a.f := by show allN (.cons o m n a.f .nil) = _; rw [allN, allN, if_neg (by simp [h2]), List.append_nil]
      rw [e, Option.isSome_map]
      refine ih ?_
      unfold divT at hd
      simp only [Bool.or_eq_false_iff] at hd
      rw [← div_tree]; exact hd.2)
    (fun o m n a b h h2 h3 h4 ih ik hd => by
      rw [ev_two g a b h h2 h3]
      have e : allN (TN.f ⟨o, m, n, .cons a.op a.nm a.n a.ks b.f⟩) = allN a.f ++ allN b.f := by
        show allN (.cons o m n (.cons a.op a.nm a.n a.ks b.f) .nil) = _
        rw [allN, if_neg (by simp [h2]), show allN .nil = [] from rfl, List.append_nil, allN]
        congr 1
        show _ = allN (.cons a.op a.nm a.n a.ks .nil)
        rw [allN, show allN .nil = [] from rfl, List.append_nil]
      rw [e]
      unfold divT at hd
      simp only [Bool.or_eq_false_iff] at hd
      have hk := hd.2
      rw [div_cons (t := a) (r := b.f) rfl, div_tree] at hk
      simp only [Bool.or_eq_false_iff] at hk
      have h5 := ih hk.1
      have h6 := ik hk.2
      constructor
      · intro hs x hx
        cases ha : evT g a with
        | none => rw [ha] at hs; cases hs
        | some p =>
          cases hb : evT g b with
          | none => rw [ha, hb] at hs; cases hs
          | some q =>
            rcases List.mem_append.1 hx with hx | hx
            · exact h5.1 (by rw [ha]; rfl) x hx
            · exact h6.1 (by rw [hb]; rfl) x hx
      · intro hs
        have ha := h5.2 fun x hx => hs x (List.mem_append.2 (.inl hx))
        have hb := h6.2 fun x hx => hs x (List.mem_append.2 (.inr hx))
        obtain ⟨p, hp⟩ := Option.isSome_iff_exists.1 ha
        obtain ⟨q, hq⟩ := Option.isSome_iff_exists.1 hb
        rw [hp, hq]
        exact apply_some h4 hd.1) t h hn

/-- The contract of divides at a tree. -/
def DivOK (t : TN) : Prop := ∀ (G : Nat → Prop) (w : World) (a : Option Addr) (c : Nat), LenF t.f → ReadsN G w a t.ks → Calls Try.prog 16 #[nodeV t.op t.nm t.n a t.ks.len c] w fun e w' => e = .returned (.bool (divT t)) ∧ Below w.heap.size w w'

set_option maxHeartbeats 4000000 in
theorem div_step (t : TN) (ih : EachF DivOK t.ks) : DivOK t := by
  intro G w a c hL hr
  have R := Lib.hid hr
  have IH := Lib.hid ih
  obtain ⟨hm, hL2, -⟩ := hL
  have LK := Lib.hid hL2
  obtain ⟨r, hR⟩ : ∃ r, divT t = r := ⟨_, rfl⟩
  rw [hR]
  unfold divT isDiv at hR
  have NB := Lib.hid (heap_alloc_new w (ndG t.op t.nm t.n a t.ks.len c))
  have B0 := Lib.hid ((Below.refl w.heap.size w).alloc (Nat.le_refl _) (ndG t.op t.nm t.n a t.ks.len c))
  clear hr ih hL2
  cases h1 : (t.op.data.toList == [47]) with
  | true =>
    have g1 := op_yes h1
    have RR := Lib.hid (show true = r by rw [← hR, h1]; rfl)
    clear hR h1
    go_enter Try.func16, Try.ntmps16
    go_wp2_with fail
    go_ret
    rw [RR.out]
    exact ⟨rfl, B0.out⟩
  | false =>
    have g1 := op_not h1
    cases h2 : (t.op.data.toList == [37]) with
    | true =>
      have g2 := op_yes h2
      have RR := Lib.hid (show true = r by rw [← hR, h1, h2]; rfl)
      clear hR h1 h2
      go_enter Try.func16, Try.ntmps16
      go_wp2_with fail
      go_ret
      rw [RR.out]
      exact ⟨rfl, B0.out⟩
    | false =>
      have g2 := op_not h2
      have H0 := Lib.hid (show divF (t.ks.drop 0) = r by rw [F.drop_zero, ← hR, h1, h2]; rfl)
      clear hR h1 h2
      go_enter Try.func16, Try.ntmps16
      go_wp2_with fail
      generalize w.alloc (ndG t.op t.nm t.n a t.ks.len c) = W at NB B0 ⊢
      go_loopw [3] (fun i wr => ∃ k : Nat, i = .int .i64 k ∧ k ≤ t.ks.len ∧ Hid (divF (t.ks.drop k) = r) ∧ Hid (Below w.heap.size w wr) ∧ Hid (wr.heap[w.heap.size]? = some (ndG t.op t.nm t.n a t.ks.len c))) (fun i _ => t.ks.len - (intOf i).toNat)
      case atStart => exact ⟨0, rfl, Nat.zero_le _, H0, B0, NB⟩
      case round =>
        obtain ⟨k, rfl, hk, hE, hB, hN⟩ := hrel
        obtain ⟨⟨m0, m1, m2, m3⟩, -⟩ := four hN.out
        by_cases hlt : k < t.ks.len
        · obtain ⟨t2, hat, hdr⟩ := at_some hlt
          obtain ⟨b, off, a2, c2, ha, hG, hbl, ⟨p0, p1, p2, p3⟩, hr2⟩ := readsN_at (R.out.kept hB.out) hat
          have EN := Lib.hid (show (divT t2 || divF (t.ks.drop (k + 1))) = r by rw [← hE.out, div_cons hdr])
          have C := Lib.hid ((EachF.at IH.out hat) G wr a2 c2 (LK.out.at hat) hr2)
          subst ha
          have a1 : (k : Int) < (t.ks.len : Int) := by omega
          have a2' : (0 : Int) ≤ (k : Int) := by omega
          have a3 : ((k : Int)).toNat = k := by omega
          obtain ⟨y, hy⟩ : ∃ y, divT t2 = y := ⟨_, rfl⟩
          rw [hy] at C EN
          clear hat hdr hr2 hy
          go_wp2_with fail
          refine C.out.mono ?_
          rintro e w1 ⟨rfl, hb⟩
          have hz := hB.out.size
          have B1 := Lib.hid (hB.out.trans (hb.mono hz))
          have N1 := Lib.hid ((hb.block _ (lt_block hN.out)).trans hN.out)
          clear hb C m0 m1 m2 m3
          cases y with
          | true =>
            have RR := Lib.hid (show true = r by rw [← EN.out]; rfl)
            go_wp2_with fail
            go_ret
            rw [RR.out]
            exact ⟨rfl, B1.out⟩
          | false =>
            have E1 := Lib.hid (show divF (t.ks.drop (k + 1)) = r by rw [← EN.out]; rfl)
            go_wp2_with fail
            go_roundw
            case rel => exact ⟨k + 1, by go_num, by omega, E1, B1, N1⟩
            case measure => simp [intOf]; omega
        · have RR := Lib.hid (show false = r by rw [← hE.out, F.drop_len _ _ (by omega)]; rfl)
          have a1 : ¬ (k : Int) < (t.ks.len : Int) := by omega
          go_wp2_with fail
          go_ret
          rw [RR.out]
          exact ⟨rfl, hB.out⟩

theorem div_any (t : TN) : DivOK t := tree_of div_step t

/-- Names with numbers, of those up to k whose bit is set. -/
structure NmI (l : List ByteArray) (bit : Nat → Bool) (k n : Nat) (A : Nat → Wr.AD) : Prop where
  nk : n ≤ k
  one : ∀ j, j < n → (A j).k = 1 ∧ (A j).len = 0 ∧ In64 (A j).n
  src : ∀ j, j < n → ∃ i, i < k ∧ l[i]? = some (A j).m ∧ bit i = true
  has : ∀ i x, i < k → l[i]? = some x → bit i = true → ∃ j, j < n ∧ (A j).m = x
  rise : Wr.RiseA A n

theorem nmI_zero (l : List ByteArray) (bit : Nat → Bool) (A : Nat → Wr.AD) : NmI l bit 0 0 A := ⟨Nat.le_refl _, fun _ h => by omega, fun _ h => by omega, fun _ _ h => by omega, fun _ _ _ h => by omega⟩

theorem nmI_skip {l : List ByteArray} {bit : Nat → Bool} {k n : Nat} {A : Nat → Wr.AD} (h : NmI l bit k n A) (hb : bit k = false) : NmI l bit (k + 1) n A :=
  ⟨Nat.le_succ_of_le h.nk, h.one, fun j hj => by
    obtain ⟨i, h1, h2⟩ := h.src j hj
    exact ⟨i, Nat.lt_succ_of_lt h1, h2⟩, fun i x hi hx hbi => (by
    rcases Nat.lt_succ_iff_lt_or_eq.1 hi with h1 | rfl
    · exact h.has i x h1 hx hbi
    · rw [hb] at hbi; cases hbi), h.rise⟩

/-- One more at the end. -/
def putA (A : Nat → Wr.AD) (n : Nat) (x : Wr.AD) (j : Nat) : Wr.AD := if j < n then A j else x

theorem putA_lt {A : Nat → Wr.AD} {n : Nat} {x : Wr.AD} {j : Nat} (h : j < n) : putA A n x j = A j := if_pos h
theorem putA_at {A : Nat → Wr.AD} {n : Nat} {x : Wr.AD} : putA A n x n = x := if_neg (Nat.lt_irrefl _)

theorem nmI_put {l : List ByteArray} {bit : Nat → Bool} {k n : Nat} {A : Nat → Wr.AD} (h : NmI l bit k n A) (hl : Rising lsS l) (hb : bit k = true) {x : ByteArray} (hx : l[k]? = some x) {v : Int} (hv : In64 v) (z : Nat → Int) :
    NmI l bit (k + 1) (n + 1) (putA A n ⟨x, 1, v, ⟨#[]⟩, 0, z⟩) := by
  refine ⟨Nat.succ_le_succ h.nk, fun j hj => ?_, fun j hj => ?_, fun i y hi hy hbi => ?_, fun i j hij hj => ?_⟩
  · rcases Nat.lt_succ_iff_lt_or_eq.1 hj with h1 | rfl
    · rw [putA_lt h1]; exact h.one j h1
    · rw [putA_at]; exact ⟨rfl, rfl, hv⟩
  · rcases Nat.lt_succ_iff_lt_or_eq.1 hj with h1 | rfl
    · rw [putA_lt h1]
      obtain ⟨i, h2, h3⟩ := h.src j h1
      exact ⟨i, Nat.lt_succ_of_lt h2, h3⟩
    · rw [putA_at]; exact ⟨k, Nat.lt_succ_self k, hx, hb⟩
  · rcases Nat.lt_succ_iff_lt_or_eq.1 hi with h1 | rfl
    · obtain ⟨j, hj, e⟩ := h.has i y h1 hy hbi
      exact ⟨j, Nat.lt_succ_of_lt hj, by rw [putA_lt hj]; exact e⟩
    · exact ⟨n, Nat.lt_succ_self n, by rw [putA_at]; exact Option.some.inj (hx.symm.trans hy)⟩
  · rcases Nat.lt_succ_iff_lt_or_eq.1 hj with h1 | rfl
    · rw [putA_lt h1, putA_lt (by omega)]; exact h.rise i j hij h1
    · rw [putA_lt hij, putA_at]
      obtain ⟨i', h2, h3, -⟩ := h.src i hij
      exact rising_at hl h2 h3 hx

/-- The bit of a place, of sixteen. -/
def bitU (th k : Nat) : Bool := !(bits BinOp.and IntKind.u16 ((th : Int) / 2 ^ (k % 16)) 1 == 0)

/-- All of the first k bits. -/
def allB (bit : Nat → Bool) (k : Nat) : Bool := (List.range k).all bit
theorem allB_zero (bit : Nat → Bool) : allB bit 0 = true := rfl
theorem allB_succ (bit : Nat → Bool) (k : Nat) : allB bit (k + 1) = (allB bit k && bit k) := by unfold allB; rw [List.range_succ, List.all_append]; simp

theorem under_of {l : List ByteArray} {bit : Nat → Bool} {k n : Nat} {A : Nat → Wr.AD} (h : NmI l bit k n A) (hk : k ≤ 1000) : Under A n (getG A n) :=
  ⟨getG_ok h.rise (fun j hj => (h.one j hj).2.2), h.rise, Nat.le_trans h.nk hk, fun j hj => by rw [(h.one j hj).2.1]; exact Nat.zero_le _⟩

/-- At the end: something just where all bits are set. -/
theorem names_all {t : TN} (ho : OkT t) (hn : NumsF t.f) (hd : divT t = false) {bit : Nat → Bool} {n : Nat} {A : Nat → Wr.AD} (h : NmI (namesT t) bit (namesT t).length n A) :
    (evT (getG A n) t).isSome = allB bit (namesT t).length := by
  have G := getG_ok h.rise (fun j hj => (h.one j hj).2.2)
  rw [Bool.eq_iff_iff, ev_some t ho hn hd]
  unfold allB
  rw [List.all_eq_true]
  constructor
  · intro hs i hi
    have hi' := List.mem_range.1 hi
    cases hb : bit i with
    | true => rfl
    | false =>
      exfalso
      obtain ⟨x, hx⟩ : ∃ x, (namesT t)[i]? = some x := ⟨_, List.getElem?_eq_getElem hi'⟩
      have h1 := hs x ((namesT_mem t x).1 (List.mem_of_getElem? hx))
      rw [G.no x (fun j hj e => by
        obtain ⟨i', h2, h3, h4⟩ := h.src j hj
        rw [e] at h3
        have : i' = i := by
          rcases Nat.lt_trichotomy i' i with q | q | q
          · have := rising_at (namesT_rising t) q h3 hx; rw [strictS.irrefl] at this; cases this
          · exact q
          · have := rising_at (namesT_rising t) q hx h3; rw [strictS.irrefl] at this; cases this
        rw [this, hb] at h4
        cases h4)] at h1
      cases h1
  · intro hb x hx
    have hm := (namesT_mem t x).2 hx
    obtain ⟨i, hi, e⟩ := List.mem_iff_getElem.1 hm
    obtain ⟨j, hj, e2⟩ := h.has i x hi (by rw [List.getElem?_eq_getElem hi, e]) (hb i (List.mem_range.2 hi))
    rw [← e2, G.yes j hj, if_pos (h.one j hj).1]
    rfl

end Go.Proofs.Ytcmcnmmhkpolcaa
