/-
  No statement: known of cantonlaw15.
-/
import Derived.Test.YtpdobbdbmgeoiaaELK
set_option linter.unusedVariables false
set_option linter.unusedSimpArgs false
namespace Go.Proofs.Ytpdobbdbmgeoiaa
open Go.RowKit

theorem readsT {w : World} {S off : Nat} {T : List RTd} (hc : ∀ j u, (T.flatMap sixD)[j]? = some u → w.cell? ⟨S, off + j, none⟩ = some u) (hS : S < w.heap.size) (hn : T.length ≤ 1000) (hr : ∀ t ∈ T, ReadsAG (fun q => q < w.heap.size) w t.2.1 t.1.len t.1.A) : ReadsR w (some ⟨S, off, none⟩) T.length (atD (T.map (·.1))) := by
  refine ⟨by unfold maxLen; omega, .inr ⟨S, off, rfl, hS, fun j hj => ?_⟩⟩
  have e : atD (T.map (·.1)) j = T[j].1 := by rw [atD_lt (by rw [List.length_map]; exact hj), List.getElem_map]
  have hcc : ∀ i u, i < 6 → (sixD T[j])[i]? = some u → w.cell? ⟨S, off + j * 6 + i, none⟩ = some u := fun i u hi hu => by
    rw [Nat.add_assoc]
    exact hc _ u (by rw [flat_at (m := 6) (fun t => rfl) T hj hi]; exact hu)
  rw [e]
  exact ⟨T[j].2.1, T[j].2.2, ⟨hcc 0 _ (by omega) rfl, hcc 1 _ (by omega) rfl, hcc 2 _ (by omega) rfl, hcc 3 _ (by omega) rfl, hcc 4 _ (by omega) rfl, hcc 5 _ (by omega) rfl⟩, hr _ (List.getElem_mem hj)⟩

theorem load_rep : lsS loadK repK = true := by unfold lsS loadK repK; rw [Lib.toList_data, Lib.toList_data]; rfl
theorem load_load : lsS loadK loadK = false := strictS.irrefl _
theorem rep_rep : lsS repK repK = false := strictS.irrefl _
theorem nm_who (k r : ByteArray) (n : Int) : nmD (twsA (whoR k r n).A (whoR k r n).len) = [loadK, repK] := rfl
theorem attr_rep (k r : ByteArray) (n : Int) : attrF (whoR k r n) repK = some (whoA r n 1) := by
  unfold attrF
  rw [nm_who, if_pos ((has_iff _ _).2 (by simp))]
  have : pos lsS [loadK, repK] repK = 1 := by rw [pos_cons, if_pos load_rep, pos_cons, if_neg (by rw [rep_rep]; decide)]
  rw [this]; rfl
theorem attr_load (k r : ByteArray) (n : Int) : attrF (whoR k r n) loadK = some (whoA r n 0) := by
  unfold attrF
  rw [nm_who, if_pos ((has_iff _ _).2 (by simp))]
  have : pos lsS [loadK, repK] loadK = 0 := by rw [pos_cons, if_neg (by rw [load_load]; decide)]
  rw [this]; rfl
theorem stand_who (k r : ByteArray) (n : Int) (h : 0 < depthP r.data.toList) : standB (whoR k r n) = true ∧ choiceC (whoR k r n) = ⟨k, r, n⟩ := by
  unfold standB choiceC loadC
  rw [attr_rep, attr_load]
  refine ⟨?_, rfl⟩
  show (decide ((2 : Int) = 2) && decide (0 < depthP r.data.toList)) = true
  rw [decide_eq_true h]; rfl
theorem okE_who (k r : ByteArray) (n : Int) (h : r.size ≤ 281474976710656) : OkE (whoR k r n) where
  l := by show 2 ≤ 1000; omega
  r := fun i j hij hj => by
    have hj' : j < 2 := hj
    have h1 : i = 0 := by omega
    have h2 : j = 1 := by omega
    subst h1; subst h2
    exact load_rep
  a := fun j hj => by show (whoA r n j).len ≤ _; unfold whoA; split <;> exact Nat.zero_le _
  s := fun j hj => by
    show (whoA r n j).s.size ≤ _
    unfold whoA
    split
    · exact Nat.zero_le _
    · exact h

/-- A row of no attributes. -/
def bareR (k : ByteArray) : RD := ⟨k, 0, 0, 0, ⟨#[]⟩, 0, fun _ => ⟨⟨#[]⟩, 0, 0, ⟨#[]⟩, 0, fun _ => 0⟩⟩
theorem stand_bare (k : ByteArray) : standB (bareR k) = false := by
  have h : ∀ nm, attrF (bareR k) nm = none := fun nm => by
    unfold attrF
    rw [show nmD (twsA (bareR k).A (bareR k).len) = [] from rfl, if_neg (by simp [has])]
  unfold standB
  rw [h]
  rfl
theorem okE_bare (k : ByteArray) : OkE (bareR k) where
  l := Nat.zero_le _
  r := fun i j _ hj => by have : j < 0 := hj; omega
  a := fun j hj => by have : j < 0 := hj; omega
  s := fun j hj => by have : j < 0 := hj; omega

def kA : ByteArray := ⟨#[97]⟩
def kB : ByteArray := ⟨#[98]⟩
def kC : ByteArray := ⟨#[99]⟩
def pA : ByteArray := ⟨#[47, 97, 47, 120]⟩
def pB : ByteArray := ⟨#[47, 98, 47, 121]⟩
def LK : List RD := [whoR kA pA 5, whoR kB pB 2, bareR kC]
theorem depth_A : 0 < depthP pA.data.toList := by
  have : depthP pA.data.toList = 2 := by kernel_rfl
  omega
theorem depth_B : 0 < depthP pB.data.toList := by
  have : depthP pB.data.toList = 2 := by kernel_rfl
  omega
theorem stand_LK : standL LK = [⟨kA, pA, 5⟩, ⟨kB, pB, 2⟩] := by
  unfold standL LK
  rw [List.filter_cons, if_pos (stand_who kA pA 5 depth_A).1, List.filter_cons, if_pos (stand_who kB pB 2 depth_B).1, List.filter_cons, if_neg (by rw [stand_bare]; decide), List.filter_nil, List.map_cons, List.map_cons, List.map_nil, (stand_who kA pA 5 depth_A).2, (stand_who kB pB 2 depth_B).2]
theorem okE_LK : ∀ x ∈ LK, OkE x := fun x hx => by
  simp only [LK, List.mem_cons, List.not_mem_nil, or_false] at hx
  rcases hx with rfl | rfl | rfl
  · exact okE_who _ _ _ (by decide)
  · exact okE_who _ _ _ (by decide)
  · exact okE_bare _
theorem cmp_AB : cmpC ⟨kA, pA, 5⟩ ⟨kB, pB, 2⟩ = 1 := rfl
theorem min_LK : IsMin ⟨kB, pB, 2⟩ (standL LK) := by
  rw [stand_LK]
  refine ⟨by simp, fun x hx => ?_⟩
  have := cmpC_neg ⟨kB, pB, 2⟩ ⟨kA, pA, 5⟩
  rw [cmp_AB] at this
  simp only [List.mem_cons, List.not_mem_nil, or_false] at hx
  rcases hx with rfl | rfl
  · omega
  · rw [cmpC_self]; omega
theorem order_LK {L' : List CH} (hp : L'.Perm (standL LK)) (ha : Asc L') : L' = [⟨kB, pB, 2⟩, ⟨kA, pA, 5⟩] := by
  cases L' with
  | nil => rw [stand_LK] at hp; have := hp.length_eq; simp at this
  | cons p r =>
    have h1 := (isMin_head hp ha).one min_LK
    subst h1
    rw [stand_LK] at hp
    have h2 := (List.perm_cons _).1 (hp.trans (List.Perm.swap _ _ _))
    rw [List.perm_singleton.1 h2]
theorem stand_C : standL [bareR kC] = [] := by
  unfold standL
  rw [List.filter_cons, if_neg (by rw [stand_bare]; decide)]; rfl

set_option maxRecDepth 100000 in
set_option maxHeartbeats 4000000 in
theorem known15_any (w : World) : Calls Try.prog 6 #[] w fun e w' => e = .returned (.bool true) ∧ Below w.heap.size w w' := by
  go_enter Try.func6, Try.ntmps6
  go_wp2_with fail
  refine (who_any ⟨#[97]⟩ ⟨#[47, 97, 47, 120]⟩ 5 w).mono ?_
  rintro e w1 ⟨⟨A1, rfl, hA1⟩, hb1⟩
  have B1 := Lib.hid hb1
  have R1 := Lib.hid hA1
  clear hA1 hb1
  go_wp2_with fail
  refine (who_any ⟨#[98]⟩ ⟨#[47, 98, 47, 121]⟩ 2 w1).mono ?_
  rintro e w2 ⟨⟨A2, rfl, hA2⟩, hb2⟩
  have B2 := Lib.hid (B1.out.trans (hb2.mono B1.out.size))
  have R2 := Lib.hid hA2
  have R1' := Lib.hid (R1.out.kept (keptNew hb2) (fun _ _ h => h))
  have hz1 := B1.out.size
  clear hA2 hb2 R1 B1
  go_upto_region 2 with fail
  generalize hW : World.alloc w2 _ = W
  have hbW : Below w2.heap.size w2 W := by rw [← hW]; exact (Below.refl _ _).alloc (Nat.le_refl _) _
  have hS : W.heap[w2.heap.size]? = some (.cells #[.string ⟨#[97]⟩, .int .i64 0, .int .i64 0, .int .i64 0, .string ⟨#[]⟩, .slice (some ⟨A1, 0, none⟩) 2 2, .string ⟨#[98]⟩, .int .i64 0, .int .i64 0, .int .i64 0, .string ⟨#[]⟩, .slice (some ⟨A2, 0, none⟩) 2 2, .string ⟨#[99]⟩, .int .i64 0, .int .i64 0, .int .i64 0, .string ⟨#[]⟩, .slice none 0 0] 42 (0, 0)) := by rw [← hW]; exact heap_alloc_new w2 _
  clear hW
  obtain ⟨S, hSS⟩ : ∃ S, w2.heap.size = S := ⟨_, rfl⟩
  have hlt : S < W.heap.size := by rw [← hSS]; exact lt_of_block hS
  have r1 := R1'.out.kept (keptNew hbW) (fun _ _ h => h)
  have r2 := R2.out.kept (keptNew hbW) (fun _ _ h => h)
  have hzW := hbW.size
  have r1' : ReadsAG (fun q => q < W.heap.size) W (some ⟨A1, 0, none⟩) 2 (whoA ⟨#[47, 97, 47, 120]⟩ 5) := r1.mono (fun q _ h => h)
  have r2' : ReadsAG (fun q => q < W.heap.size) W (some ⟨A2, 0, none⟩) 2 (whoA ⟨#[47, 98, 47, 121]⟩ 2) := r2.mono (fun q _ h => h)
  have B3 := Lib.hid (B2.out.trans (hbW.mono B2.out.size))
  rw [hSS] at hS ⊢
  have hcell := fun o => cell_of_row W S o _ _ (0, 0) hS
  have RA := Lib.hid (p := ∀ V, Below W.heap.size W V → ReadsR V (some ⟨S, 0, none⟩) LK.length (atD LK)) (fun V hb => ReadsR.below (readsT (w := W) (S := S) (off := 0) (T := [(whoR kA pA 5, some ⟨A1, 0, none⟩, 2), (whoR kB pB 2, some ⟨A2, 0, none⟩, 2), (bareR kC, none, 0)]) (fun j u hj => by rw [Nat.zero_add, hcell j, ← Array.getElem?_toList]; exact hj) hlt (by show 3 ≤ 1000; omega) (fun t ht => by
    simp only [List.mem_cons, List.not_mem_nil, or_false] at ht
    rcases ht with rfl | rfl | rfl
    · exact r1'
    · exact r2'
    · exact ⟨Nat.zero_le _, .inl rfl⟩)) hb)
  have RC := Lib.hid (p := ∀ V, Below W.heap.size W V → ReadsR V (some ⟨S, 12, none⟩) [bareR kC].length (atD [bareR kC])) (fun V hb => ReadsR.below (readsT (w := W) (S := S) (off := 12) (T := [(bareR kC, none, 0)]) (fun j u hj => by
      rw [hcell (12 + j)]
      have h6 : j < 6 := (List.getElem?_eq_some_iff.1 hj).1
      have h66 : j = 0 ∨ j = 1 ∨ j = 2 ∨ j = 3 ∨ j = 4 ∨ j = 5 := by omega
      rcases h66 with rfl | rfl | rfl | rfl | rfl | rfl <;> exact hj) hlt (by show 1 ≤ 1000; omega) (fun t ht => by
    simp only [List.mem_cons, List.not_mem_nil, or_false] at ht
    subst ht
    exact ⟨Nat.zero_le _, .inl rfl⟩)) hb)
  clear hbW hS hSS hlt r1 r2 r1' r2' hzW hcell R1' R2 B2 hz1
  go_wp2_with fail
  refine (rep_any LK (some ⟨S, 0, none⟩) 3 (by show 3 ≤ 1000; omega) okE_LK W (RA.out W (Below.refl _ _))).mono ?_
  rintro e w4 ⟨h, hb⟩
  have U4 := Lib.hid hb
  clear hb
  rcases h with ⟨c, rfl, hc⟩ | ⟨-, hc⟩
  case inr => rw [stand_LK] at hc; cases hc
  obtain rfl := hc.one min_LK
  clear hc
  go_upto_region 3 with fail
  generalize hV : World.alloc w4 _ = V
  have hbV : Below w4.heap.size w4 V := by rw [← hV]; exact (Below.refl _ _).alloc (Nat.le_refl _) _
  have hV3 : V.heap[w4.heap.size]? = some (.cells #[.string kB, .string pB, .int .i64 2] 32 (0, 0)) := by rw [← hV]; exact heap_alloc_new w4 _
  have U5 := Lib.hid (U4.out.trans (hbV.mono U4.out.size))
  have X5 := Lib.hid hV3
  clear hV hbV hV3 U4
  go_wp2_with fail
  refine (order_any LK (some ⟨S, 0, none⟩) 3 (by show 3 ≤ 1000; omega) okE_LK V (RA.out V U5.out)).mono ?_
  rintro e w6 ⟨⟨g, d, L', rfl, hp, ha, hc, -, -⟩, hb⟩
  obtain rfl := order_LK hp ha
  have U6 := Lib.hid (U5.out.trans (hb.mono U5.out.size))
  have X6 := Lib.hid ((hb.block _ (lt_of_block X5.out)).trans X5.out)
  have C6 := Lib.hid (hc 1 ⟨kA, pA, 5⟩ rfl).1
  have hlt6 := World.block_lt_of_cell? w6 _ C6.out
  have hg6 := Lib.hid (show g < w6.heap.size by simpa using hlt6)
  clear hp ha hc hb hlt6 U5 X5
  go_wp2_with fail
  refine (rep_any [bareR kC] (some ⟨S, 12, none⟩) 1 (by show 1 ≤ 1000; omega) (fun x hx => by rw [List.mem_singleton.1 hx]; exact okE_bare _) w6 (RC.out w6 U6.out)).mono ?_
  rintro e w7 ⟨h, hb⟩
  have U7 := Lib.hid (U6.out.trans (hb.mono U6.out.size))
  have X7 := Lib.hid ((hb.block _ (lt_of_block X6.out)).trans X6.out)
  have C7 := Lib.hid (show w7.cell? ⟨g, 3, none⟩ = some (.string kA) from (keptNew hb).cell C6.out (fun h => h))
  have hg7 := Lib.hid (show g < w7.heap.size by have := hb.size; have := hg6.out; omega)
  clear hb U6 X6 C6 hg6
  rcases h with ⟨c, rfl, hc⟩ | ⟨rfl, -⟩
  · exfalso
    have := hc.1
    rw [stand_C] at this
    cases this
  go_upto_region 5 with fail
  generalize hV : World.alloc w7 _ = V2
  have hbV : Below w7.heap.size w7 V2 := by rw [← hV]; exact (Below.refl _ _).alloc (Nat.le_refl _) _
  obtain ⟨y0, y1, y2⟩ := threeE ((hbV.block _ (lt_of_block X7.out)).trans X7.out)
  have y3 : V2.cell? ⟨g, 3, none⟩ = some (.string kA) := (keptNew hbV).cell C7.out (fun h => h)
  have P := Lib.hid (B3.out.trans ((U7.out.trans (hbV.mono U7.out.size)).mono B3.out.size))
  clear hV hbV X7 C7 hg7 U7 RA RC B3
  unfold kA kB pB at *
  go_wp2_with fail
  go_ret
  exact ⟨rfl, P.out⟩

end Go.Proofs.Ytpdobbdbmgeoiaa
