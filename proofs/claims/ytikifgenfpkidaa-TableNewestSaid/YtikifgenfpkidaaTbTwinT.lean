/-
  No statement: Twin and Attrs of package table.
-/
import Derived.Test.YtikifgenfpkidaaTbSweep
set_option linter.unusedVariables false
set_option linter.unusedSimpArgs false
namespace Go.Proofs.Ytikifgenfpkidaa
open Go.RowKit

section
variable {w w' : World} {p : Nat} {most : Int} {F X Y S : Nat → Prop} {L : List RD}
/-- What others do, and what then is others'. -/
theorem Tab.step (h : Tab w p most F X L) (hk : Kept S w w') (hS : ∀ k, S k → X k ∨ w.heap.size ≤ k) (hY : ∀ k, Y k → (X k ∨ w.heap.size ≤ k) ∧ k < w'.heap.size) : Tab w' p most F Y L := by
  obtain ⟨E, hE, h1, h2, h3, h4⟩ := h
  have hn : ∀ k, F k → ¬ S k := fun k hf hs => by
    rcases hS k hs with h | h
    · exact (h4 k h).1 hf
    · have := h2.lt k hf; omega
  refine ⟨E, hE, h1, h2.kept hk hn, fun e he => (h3 e he).kept hk (fun k hs hl => by rcases hS k hs with h | h; exact .inr h; omega) (fun k h hl => ?_), fun k hy => ⟨fun hf => ?_, (hY k hy).2⟩⟩
  · rcases h with h | h
    · exact .inl h
    · rcases (hY k h).1 with h | h
      · exact .inr h
      · omega
  · rcases (hY k hy).1 with h | h
    · exact (h4 k h).1 hf
    · have := h2.lt k hf; omega
end

theorem putT_end {l : List RD} {x : RD} (h : Rising lsS (kyR (l ++ [x]))) : putT l x = l ++ [x] := by
  have hlt : ∀ y ∈ kyR l, lsS y x.key = true := fun y hy => by
    unfold kyR at h hy
    rw [List.map_append] at h
    exact (List.pairwise_append.1 h).2.2 y hy x.key (by simp)
  have hh : has (kyR l) x.key = false := has_no (fun h' => by have := hlt _ h'; rw [strictS.irrefl] at this; cases this)
  have hp : pos lsS (kyR l) x.key = l.length := by
    refine pos_unique (by rw [kyR_len]; exact Nat.le_refl _) (fun t y _ hy => hlt y (List.mem_of_getElem? hy)) (fun y hy => ?_)
    rw [List.getElem?_eq_none (by rw [kyR_len]; exact Nat.le_refl _)] at hy; cases hy
  unfold putT
  rw [hh, if_neg (by simp), hp, List.take_length, List.drop_length]

theorem kyR_take (L : List RD) (k : Nat) : kyR (L.take k) = (kyR L).take k := by simp [kyR, List.map_take]

theorem drewT' {S : Nat → Prop} {w w' : World} (h : Kept S w.drew w') : Kept S w w' := ((Kept.refl S w).drew).trans h (fun _ h _ => h)
theorem Kept.below' {S : Nat → Prop} {B : Nat} {w w' : World} (h : Kept S w w') (hS : ∀ k, S k → B ≤ k) (hB : B ≤ w.heap.size) : Below B w w' := h.below hS hB

/-- A table's twin. -/
def TwinTPost (w : World) (most : Int) (L : List RD) (e : Ending) (w' : World) : Prop :=
  ∃ p F, e = .returned (.pointer (some ⟨p, 0, none⟩)) ∧ Tab w' p most F (fun k => k < w.heap.size) L ∧ (∀ k, F k → w.heap.size ≤ k) ∧ Below w.heap.size w w'

set_option maxRecDepth 100000 in
set_option maxHeartbeats 4000000 in
theorem twinT_any (w : World) (p : Nat) (most : Int) (F X : Nat → Prop) (L : List RD) (hn : L.length ≤ 1000) (hF : Fix L) (h : Tab w p most F X L) :
    Calls Try.prog 22 #[.pointer (some ⟨p, 0, none⟩)] w (TwinTPost w most L) := by
  have LN := Lib.hid (p := ∀ w', Below w.heap.size w w' → Calls Try.prog 23 #[.pointer (some ⟨p, 0, none⟩)] w' fun e w'' => e = .returned (.int .i64 (L.length : Nat)) ∧ w' = w'') (fun w' hb => tabLen w' p most F X L (h.below hb))
  have AT := Lib.hid (p := ∀ (i : Nat) (x : RD), L[i]? = some x → ∃ a c, RowAt w (fun k => F k ∨ X k) x a ∧ ∀ w', Below w.heap.size w w' → Calls Try.prog 42 #[.pointer (some ⟨p, 0, none⟩), .int .i64 i] w' fun e w'' => e = .returned (rowV x a c) ∧ Below w'.heap.size w' w'') (fun i x hx => tabAt w p most F X L i x (by omega) h hx)
  have HF := Lib.hid hF
  have HR := Lib.hid h.rise
  obtain ⟨mc, mp⟩ := h.most
  clear h hF
  go_enter Try.func22, Try.ntmps22
  go_wp2_with fail
  refine (empty_any w most).mono ?_
  rintro e w1 ⟨q, rfl, F0, hT0, hF0, hB0⟩
  have K0 : Hid (∃ F', Tab w1 q most F' (fun k => k < w.heap.size) (L.take 0) ∧ (∀ k, F' k → w.heap.size ≤ k)) := Lib.hid ⟨F0, hT0, hF0⟩
  have B0 := Lib.hid hB0
  clear hT0 hF0 hB0 mc mp
  go_wp2_with fail
  refine (LN.out w1 B0.out).mono ?_
  rintro e w2 ⟨rfl, rfl⟩
  go_wp2_with fail
  go_loopw [13] (fun iv wr => ∃ k : Nat, iv = .int .i64 k ∧ k ≤ L.length ∧ Hid (Below w.heap.size w wr) ∧ Hid (∃ F', Tab wr q most F' (fun k => k < w.heap.size) (L.take k) ∧ (∀ k, F' k → w.heap.size ≤ k))) (fun iv _ => L.length - (intOf iv).toNat)
  case atStart => exact ⟨0, rfl, Nat.zero_le _, B0, K0⟩
  case round =>
    obtain ⟨k, rfl, hk, hB, K1⟩ := hrel
    clear K0 B0
    by_cases hlt : k < L.length
    · obtain ⟨x, hx⟩ : ∃ x, L[k]? = some x := ⟨_, List.getElem?_eq_getElem hlt⟩
      obtain ⟨ax, cx, hra, CX'⟩ := AT.out k x hx
      have CX := Lib.hid CX'
      obtain ⟨hfx, htx⟩ := HF.out x (List.mem_of_getElem? hx)
      have TW := Lib.hid (p := ∀ w', Below w.heap.size w w' → Calls Try.prog 41 #[rowV x ax cx] w' fun e w'' => (∃ b d, e = .returned (rowV x b d) ∧ ReadsAG (fun k => w'.heap.size ≤ k) w'' b x.len x.A) ∧ Below w'.heap.size w' w'') (fun w' hb => (twinRow_any x ax cx hfx w' (hra.below hb).plain).mono (fun e w'' ⟨⟨b, d, h1, h2, _⟩, h3⟩ => by
        rw [htx] at h1
        have : twF x.A = x.A := congrArg RD.A htx
        rw [this] at h2
        exact ⟨⟨b, d, h1, h2⟩, h3⟩))
      have hs : L.take (k + 1) = L.take k ++ [x] := by rw [List.take_add_one, hx]; rfl
      have HE := Lib.hid (show putT (L.take k) x = L.take (k + 1) by
        rw [hs]
        refine putT_end ?_
        rw [← hs, kyR_take]
        exact List.Pairwise.sublist (List.take_sublist _ _) HR.out)
      have hzr := hB.out.size
      clear CX' hra hfx htx hx hs
      go_wp2_with fail
      refine (CX.out wr hB.out).mono ?_
      rintro e w3 ⟨rfl, hb3⟩
      have B3 := Lib.hid (hB.out.trans (hb3.mono hzr))
      have D3 := Lib.hid hb3
      have hz3 := hb3.size
      clear hb3
      go_wp2_with fail
      refine (TW.out w3 B3.out).mono ?_
      rintro e w4 ⟨⟨b, d, rfl, hr4⟩, hb4⟩
      unfold rowV
      have hz4 := hb4.size
      go_upto_region 6 with fail
      generalize hV : World.alloc w4 _ = V
      have hb2 : Below w4.heap.size w4 V := by rw [← hV]; exact (Below.refl _ _).alloc (Nat.le_refl _) _
      have h1 : V.heap[w4.heap.size]? = some (rowO x b d) := by rw [← hV]; exact heap_alloc_new w4 _
      have hbV := D3.out.trans ((hb4.trans (hb2.mono hz4)).mono hz3)
      have BV := Lib.hid (B3.out.trans ((hb4.trans (hb2.mono hz4)).mono (by omega)))
      have RV := Lib.hid (hr4.kept (keptNew hb2) (fun _ _ h => h))
      obtain ⟨F', hT, hG⟩ := K1.out
      have PU := Lib.hid (tabPut V.drew q most F' (fun k => k < w.heap.size) (L.take k) x b d (by rw [List.length_take]; omega) ((hT.below hbV).below (drewB V)) (((RV.out.kept (keptNew (drewB V)) (fun _ _ h => h)).mono (fun k h _ => fun hf => by
        rcases hf with hf | hf
        · have := hT.lt k hf; omega
        · omega))))
      rw [HE.out] at PU
      have HG := Lib.hid hG
      clear hV hb2 hbV hr4 hb4 hT hG K1 HE RV D3 B3 CX TW hB
      obtain ⟨⟨x0, x1, x2, x3, x4, x5⟩, -⟩ := six h1
      clear h1
      unfold rowV at PU
      go_region_with (first
        | (go_at_call 40
           refine PU.out.mono ?_
           rintro e w5 ⟨rfl, F2, ht, hg, hk5⟩
           have B5 := Lib.hid (BV.out.trans ((drewT' hk5).below' (fun k h => HG.out k h) (by have := BV.out.size; omega)))
           have K5 : Hid (∃ F', Tab w5 q most F' (fun k => k < w.heap.size) (L.take (k + 1)) ∧ (∀ k, F' k → w.heap.size ≤ k)) := Lib.hid ⟨F2, ht, fun k h => (hg k h).elim (fun h => HG.out k h) (fun h => by have := BV.out.size; have hh : V.drew.heap.size = V.heap.size := rfl; omega)⟩
           clear ht hg hk5)
        | fail)
      all_goals
        clear PU HG BV x0 x1 x2 x3 x4 x5
        go_wp2_with fail
        go_roundw
        case rel => exact ⟨k + 1, by go_num, by omega, B5, K5⟩
        case measure => simp [intOf]; omega
    · obtain rfl : k = L.length := by omega
      rw [List.take_length] at K1
      obtain ⟨F', hT, hG⟩ := K1.out
      have P := Lib.hid (show TwinTPost w most L (.returned (.pointer (some ⟨q, 0, none⟩))) _ from ⟨q, F', rfl, hT, hG, hB.out⟩)
      clear hT hG K1 hB
      go_wp2_with fail
      go_ret
      exact P.out

end Go.Proofs.Ytikifgenfpkidaa
