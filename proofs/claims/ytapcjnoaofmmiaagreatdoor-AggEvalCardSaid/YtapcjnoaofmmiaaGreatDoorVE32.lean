/-
 Proved: what any fold is of any rows, or that it is nothing
-/
import Derived.Test.YtapcjnoaofmmiaaGreatDoorVE31
import Derived.Test.YtapcjnoaofmmiaaGreatDoorCards
import Derived.ShutString
import Derived.ChangeOld
namespace Go.Proofs.YtapcjnoaofmmiaaGreatDoor
section
open Go.RowKit Go.ChangeShapes Go.WideShapes Go.Deep
theorem DH : Tryz.prog.cellsOf 64 = 1 := by kernel_rfl
section
variable {H : Type} {enc : TypeId × Value -> H} {W : World}
set_option maxRecDepth 100000 in
theorem A8 (gf : Nat -> (Nat -> Wr.AD) -> ByteArray -> Option Int) {m : Nat} {c : Value} {y : DataW H × List MemPlace} (h3 : DataW.trod enc Tryz.prog W 0 (fun _ => true) true m 49 [c] = some y) :
 ∃ (l : List RW) (a : Option Addr) (cap : Nat), c = .slice a l.length cap /\ l.length <= maxLen /\ (∀ r ∈ l, r.g = gf r.n r.A /\ (∀ j, Wr.SizA (r.A j)) /\ ∀ j, Wr.NumA (r.A j)) /\ aS W a l := by
 rcases DataW.trod_slice Tryz.underlying49 h3 with ⟨hcs, -⟩ | ⟨a, len, cap, elems, rest, q, hq, hcs, -, -, hl, hc, hel, hat, -, -⟩
 · cases hcs
   exact ⟨[], none, 0, rfl, Nat.zero_le _, (fun d hd => by cases hd), .inl rfl⟩
 · cases hcs
   have one : ∀ j, j < len -> ∃ (r : RW) (b : Option Addr) (cc : Nat), W.cell? (a.add j) = some (.slice b r.n cc) /\ (r.g = gf r.n r.A /\ (∀ j, Wr.SizA (r.A j)) /\ ∀ j, Wr.NumA (r.A j)) /\ Wr.ReadsA W b r.n r.A := fun j hj => by
    have hj2 := hat j hj;rw [List.getElem?_eq_getElem (by omega), Option.bind_eq_some_iff] at hj2;obtain ⟨cs', hcs', ht⟩ := hj2;rw [DH] at hcs';obtain ⟨-, hlen, hcl⟩ := World.cells?_some hcs'
    match cs', hlen with
    | [c0], _ =>
      obtain ⟨b, n, cc, A, rfl, s1, s2, hr⟩ := Wr.attrs_of ht;refine ⟨⟨n, A, gf n A⟩, b, cc, ?_, ⟨rfl, s1, s2⟩, hr⟩;have := hcl 0 (by omega);rw [Go.Deep.add_add, Nat.mul_one, Nat.add_zero] at this;exact this
   have main : ∀ k, k <= len -> ∃ l : List RW, l.length = k /\ (∀ r ∈ l, r.g = gf r.n r.A /\ (∀ j, Wr.SizA (r.A j)) /\ ∀ j, Wr.NumA (r.A j)) /\ ∀ j r, l[j]? = some r -> ∃ b cc, W.cell? (a.add j) = some (.slice b r.n cc) /\ Wr.ReadsA W b r.n r.A := by
    intro k
    induction k with
    | zero => exact fun _ => ⟨[], rfl, (fun d hd => by cases hd), fun j d hj => by simp at hj⟩
    | succ k ih =>
      intro hk;obtain ⟨l, h1, h2, h4⟩ := ih (by omega);obtain ⟨r, b, cc, g1, g2, g3⟩ := one k (by omega);refine ⟨l ++ [r], by simp [h1], fun x hx => ?_, fun j x hj => ?_⟩
      · rcases List.mem_append.1 hx with hx | hx
        · exact h2 x hx
        · rw [List.mem_singleton.1 hx]; exact g2
      · rcases Nat.lt_or_ge j l.length with hlt | hge
        · rw [List.getElem?_append_left hlt] at hj
          exact h4 j x hj
        · rw [List.getElem?_append_right hge] at hj
          cases hm : j - l.length with
          | zero =>
            rw [hm] at hj;cases hj;obtain rfl : j = k := by omega
            exact ⟨b, cc, g1, g3⟩
          | succ z => rw [hm] at hj; simp at hj
   obtain ⟨l, h1, h2, h4⟩ := main len (Nat.le_refl _);subst h1;refine ⟨l, some a, cap, rfl, Nat.le_trans hl hc, h2, ?_⟩
   by_cases hne : l = []
   · exact .inl hne
   · obtain ⟨d0, hd0⟩ : ∃ d, l[0]? = some d := by
      cases l with
      | nil => exact absurd rfl hne
      | cons d r => exact ⟨d, rfl⟩
     obtain ⟨_, _, p0, -⟩ := h4 0 d0 hd0;have hspot : a.spot = none := by simpa [Addr.add] using World.cell?_spot p0
     obtain ⟨b, off, spot⟩ := a;have hs : spot = none := hspot;subst hs;rw [Addr.add_lit] at p0;refine .inr ⟨b, off, rfl, World.block_lt_of_cell? W _ p0, fun j r hj => ?_⟩;obtain ⟨y, cy, g, hr⟩ := h4 j r hj;rw [Addr.add_lit] at g;exact ⟨y, cy, g, hr⟩
end
end
section
open Go.RowKit Go.ChangeShapes Go.WideShapes Go.Deep
theorem F3 {H : Type} {enc : TypeId × Value -> H} {W : World} {a0 : Option Addr} {len0 cap0 : Nat} {d : DataW H} {ps : List MemPlace} (h : DataW.Trod enc Tryz.prog W 0 (fun _ => true) true 49 (.slice a0 len0 cap0) d ps) :
 ∃ (S : List RW) (ya : Option Addr) (yc : Nat), Value.slice a0 len0 cap0 = .slice ya S.length yc /\ S.length <= maxLen /\ Ij S /\ aS W ya S := by
 obtain ⟨fuel, hf⟩ := h;exact A8 (fun n A => ET A n) hf
end
section
open Go.ChangeShapes Go.WideShapes Go.ChangeAt Go.RowKit
open Go.ChangeMaps (open_string shut_string)
set_option maxRecDepth 100000 in
set_option maxHeartbeats 1000000 in
theorem tZ (os : Os) (started : os.Started) (H : Type) (enc : TypeId × Value -> H) :
 ReturnsInHanded {} Tryz.checked os 5 .any (fun w args => (Rows.aggEvalSpec.pre enc Tryz.prog Tryz.f5 Rows.aggEvalRow.domain false w args /\ laidMetH Tryz.prog oF w) /\ sizedMet enc Tryz.prog Tryz.f5 (OpenSpec.ofChange Rows.aggEvalSpec) false w args)
  (Rows.aggEvalSpec.post enc Tryz.prog Tryz.f5 false true false false) := by
 refine returnsInHanded_of_change_and (C := Tryz.checked) (X := fun w _ => laidMetH Tryz.prog oF w) (fun _ _ _ hh h => h.of_heap hh) D7 started (by kernel_rfl) Tryz.func5
  (ChangeSpec.witness_shaped (enc := enc) (C := Tryz.checked) (os := os) (X := fun w _ => laidMetH Tryz.prog oF w) false (World.laidAll Tryz.prog os oF) #[.agg #[.string ⟨#[]⟩, .int .i64 0, .string ⟨#[]⟩, .string ⟨#[]⟩, .int .i64 0, .slice none 0 0, .string ⟨#[]⟩, .string ⟨#[]⟩, .int .i64 0, .slice none 0 0, .slice none 0 0], .slice none 0 0] 8 (World.laidAll_os _ _ _)
   (uE os) (by kernel_rfl) (by kernel_rfl) (by kernel_rfl) (A6 os _)) ?_
 intro W base args ds gs before hval0 hW _ _ hL _;have hval : ∀ (j : Nat) t v, Tryz.f5.params[j]? = some t -> args[j]? = some v -> Value.okWide Tryz.prog W .any base t v := hval0;have hW' := hW;obtain ⟨p, q, hA0, hV, rfl, _, _⟩ := hW;have hA : DataW.TrodAll enc Tryz.prog W 0 (fun _ => true) true Tryz.f5.params.toList args.toList ds p := hA0;rw [Tryz.params5] at hA hval;obtain ⟨v0, vs0, d0, ds0, p0, q0, hargs, rfl, rfl, h0, r0⟩ := trodAll_cons hA;obtain ⟨v1, vs1, d1, ds1, p1, q1, rfl, rfl, rfl, h1, r1⟩ := trodAll_cons r0;obtain ⟨rfl, rfl, rfl⟩ := trodAll_nil r1;obtain rfl : args = #[v0, v1] := by cases args; simp_all
 obtain ⟨rfl, rfl⟩ := trodVars_none hV;have k0 := h0;have lt0 : ∀ x ∈ p0, x.block < W.heap.size := by obtain ⟨m, hm⟩ := k0; exact DataW.trod_lt m _ _ _ hm
 obtain ⟨x0, a0, rfl, b0, r0'⟩ := KM (hval 0 28 v0 rfl rfl) h0;obtain ⟨a1, l1, c1, rfl⟩ := okWide_slice Tryz.underlying49 (hval 1 49 v1 rfl rfl);have k1 := h1;have lt1 : ∀ x ∈ p1, x.block < W.heap.size := by obtain ⟨m, hm⟩ := k1; exact DataW.trod_lt m _ _ _ hm
 obtain ⟨S1, ya1, yc1, ye1, wl1, ws1, wr1⟩ := F3 h1;cases ye1;have hw := GR hL;clear hA0 hval0 hL;refine (yD x0 a0 S1 a1 c1 b0 wl1 ws1 W r0' wr1 hw).mono fun e W' ⟨he, bel⟩ => ?_
 subst he;exact ⟨_, rfl, _, _, _, [], _, [], hW', trodAll_mk1 (shut_bool Tryz.underlying4 _), (trodAll_cons_mk (Below.trod vJ (by kernel_rfl) (of_decide_eq_true (by kernel_rfl)) k0 bel lt0) (trodAll_cons_mk (Below.trod vJ (by kernel_rfl) (of_decide_eq_true (by kernel_rfl)) k1 bel lt1) trodAll_mk0)), rfl, bel.frame _, fun h => by cases h⟩
theorem yE : Rows.AggEvalSaid :=
 OpenClaim.holds_of_wide 5 Tryz.f5 rfl rfl rfl rfl rfl rfl rfl ⟨rfl, rfl, rfl, rfl, rfl⟩ rfl rfl rfl rfl rfl (by kernel_rfl) Tryz.func5 (by kernel_rfl)
  (of_decide_eq_true (by kernel_rfl)) (by unfold Func.isWrapper; first | (rw [if_pos (by decide +kernel)]; kernel_rfl) | (rw [if_neg (by decide +kernel)]; exact ⟨rfl, rfl⟩))
  (fun os started H enc _ => tZ os started H enc)
/-- what any fold is of any rows, or that it is nothing -/
theorem aggEval_card : Rows.AggEvalCardSaid :=
 Claim7.holds_tied_plain_at .later [] [.data, .data, .data, .sentinel, .sentinel] true Rows.aggEvalCard.stood.harness true
  yE (fun _ h => by cases h) (by kernel_rfl) (fun _ h => by cases h) aggEval_row_tie rfl ⟨rfl, rfl⟩ (by kernel_rfl) rfl
  (fun f fn hf hfn => by
   obtain rfl : f = 5 := Option.some.inj ((show Tryz.prog.funcNamed _ = some 5 by kernel_rfl).symm.trans hf) |>.symm
   obtain rfl : fn = Tryz.f5 := (Option.some.inj (Tryz.func5.symm.trans hfn)).symm
   exact ⟨by kernel_rfl, fun j t ht => by
    rw [Tryz.params5] at ht;have hm : t ∈ [28, 49] := by simpa using Array.mem_of_getElem? ht
    have hall : ([28, 49].all fun u => !Tryz.prog.wantsStandIn u) = true := by kernel_rfl
    exact (show Tryz.prog.wantsStandIn t = false by simpa using List.all_eq_true.1 hall t hm)⟩)
  (by kernel_rfl)
end
end Go.Proofs.YtapcjnoaofmmiaaGreatDoor
