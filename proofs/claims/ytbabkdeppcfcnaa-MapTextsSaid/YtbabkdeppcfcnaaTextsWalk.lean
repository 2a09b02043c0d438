/-
  No statement: the walk of cantonlaw1.MapTexts: it returns true and turns nothing that was there.
-/
import Derived.Test.YtbabkdeppcfcnaaKnown
import Derived.Test.YtbabkdeppcfcnaaActs
import Derived.Test.YtbabkdeppcfcnaaAppend
import Derived.Test.YtbabkdeppcfcnaaAt
import Derived.Deep.RegionHeld3
import Derived.Deep.DeepCutAuto
import Derived.Deep.CutBlock
set_option linter.unusedVariables false
namespace Go.Proofs.Ytbabkdeppcfcnaa
open Go.RowKit

/-- The model's keys and values: both nil, or both in a block. -/
def Both2 (ka va : Option Addr) (n kc vc : Nat) : Prop :=
  (ka = none ∧ va = none ∧ n = 0 ∧ kc = 0 ∧ vc = 0) ∨ ∃ g h, ka = some ⟨g, 0, none⟩ ∧ va = some ⟨h, 0, none⟩

/-- The map and the model hold the same keys and values. -/
def Tx (W wr : World) (p : Nat) (ka : Option Addr) (n kc : Nat) (va : Option Addr) (vc k : Nat) : Prop :=
  ∃ ks vs, Sep W wr [ObSI p ks vs, RowOb 9 (.slice ka n kc) n (ks.map Value.string), RowOb 3 (.slice va n vc) n (vs.map (Value.int .i64))] ∧ Rising lsS ks ∧ ks.length = n ∧ n ≤ k ∧ Both2 ka va n kc vc

set_option maxHeartbeats 16000000 in
set_option maxRecDepth 100000 in
theorem texts_walk (a0 : Option Addr) (len cap : Nat) (A : Nat → Int × ByteArray × Int) (q : ByteArray) (i : Int) (W : World) (hl : IsActs W a0 len A) (hq : q.size ≤ maxLen) (hi : (Lit.int .i64 i).wf = true) :
    Calls Try.prog 3 #[.slice a0 len cap, .string q, .int .i64 i] W fun e w' => e = .returned (.bool true) ∧ Kept (fun _ => False) W w' := by
  obtain ⟨hm, hsz, hcells⟩ := hl
  unfold maxLen at hm hq hsz
  by_cases h100 : 100 < len
  · go_enter Try.func3, Try.ntmps3
    go_wp2_with (go_at_call 4; refine (known_any _).mono ?_; rintro e w1 ⟨rfl, hk⟩)
    go_ret
    exact ⟨rfl, hk⟩
  have HC := Lib.hid hcells
  have HZ := Lib.hid hsz
  clear hcells hsz
  go_enter Try.func3, Try.ntmps3
  go_wp2_with (go_at_call 4; refine (known_any _).mono ?_; rintro e w1 ⟨rfl, hk⟩)
  refine (sNewSI (Sep.start W |>.kept hk)).mono ?_
  rintro e w2 ⟨p, rfl, S⟩
  have S2 := Lib.hid S
  clear S hk
  go_wp2_with fail
  go_loopg [7, 8, 9, 10] len (fun gm s7 s8 s9 s10 wr => ∃ (k p : Nat) (ka : Option Addr) (n kc : Nat) (va : Option Addr) (vc : Nat), s7 = .pointer (some ⟨p, 0, none⟩) ∧ s8 = .slice ka n kc ∧ s9 = .slice va n vc ∧ s10 = .int .i64 k ∧ k ≤ len ∧ len - k ≤ gm ∧ n ≤ k ∧ Hid (Tx W wr p ka n kc va vc k))
  case atStart =>
    refine ⟨0, p, none, 0, 0, none, 0, rfl, rfl, rfl, rfl, Nat.zero_le _, by omega, Nat.le_refl _, Lib.hid ⟨[], [], ?_, List.Pairwise.nil, rfl, Nat.le_refl _, Or.inl ⟨rfl, rfl, rfl, rfl, rfl⟩⟩⟩
    exact ((S2.out.pushNil 3).pushNil 9).third
  case round =>
    obtain ⟨k, p, ka, n, kc, va, vc, rfl, rfl, rfl, rfl, hk, hg, hnk, T⟩ := hrel
    clear S2
    by_cases hlt : k < len
    · obtain ⟨b, off, rfl, hc⟩ := HC.out.resolve_left (by omega)
      obtain ⟨ks, vs, S, hr, hkn, hn2, hb2⟩ := T.out
      obtain ⟨c0, c1, c2⟩ := hc k hlt
      have d0 := S.old c0
      have d1 := S.old c1
      have d2 := S.old c2
      rw [← Nat.add_assoc] at d1 d2
      have hys := HZ.out k hlt
      obtain ⟨op, hop⟩ : ∃ op, (A k).1 = op := ⟨_, rfl⟩
      obtain ⟨y, hy⟩ : ∃ y, (A k).2.1 = y := ⟨_, rfl⟩
      obtain ⟨v, hv⟩ : ∃ v, (A k).2.2 = v := ⟨_, rfl⟩
      rw [hop] at d0
      rw [hy] at d1 hys
      rw [hv] at d2
      have HT := Lib.hid (p := Rising lsS ks ∧ ks.length = n ∧ Both2 ka va n kc vc) ⟨hr, hkn, hb2⟩
      have S3 := Lib.hid S
      clear hop hy hv hc c0 c1 c2 S hr hkn hn2 hb2 T
      by_cases hy100 : 100 < y.size
      · go_wp2
        go_ret
        exact ⟨rfl, (S3.out.1).alloc _⟩
      go_wp2_with fail
      go_at_call 6
      have S4 := Lib.hid (S3.out.pushBlk #[.int .i64 op, .string y, .int .i64 v] 29)
      obtain ⟨I, hI⟩ : ∃ I, pos lsS ks y = I := ⟨_, rfl⟩
      obtain ⟨B, hB⟩ : ∃ B, has ks y = B := ⟨_, rfl⟩
      have cat := at_any y _ (by omega) (S4.out.row (List.Mem.tail _ (List.Mem.tail _ (List.Mem.head _)))) HT.out.1
      rw [hI, hB] at cat
      refine cat.mono ?_
      clear cat
      rintro e w4 ⟨rfl, q4, rfl⟩
      have S5 := Lib.hid (S4.out.drewN q4)
      have HI := Lib.hid hI
      have HB := Lib.hid hB
      clear S3 S4 d0 d1 d2 hI hB
      go_upto_block 2 with fail
      go_cut [7, 8, 9, 14] from 38 to 201 (fun s7 s8 s9 _ wc => ∃ (p' : Nat) (ka' : Option Addr) (n' kc' : Nat) (va' : Option Addr) (vc' : Nat), s7 = .pointer (some ⟨p', 0, none⟩) ∧ s8 = .slice ka' n' kc' ∧ s9 = .slice va' n' vc' ∧ n' ≤ k + 1 ∧ Hid (Tx W wc p' ka' n' kc' va' vc' (k + 1)))
      case first =>
        as_aux_lemma =>
        have b0 := S5.out.blk (j := 0) (u := .int .i64 op) (List.Mem.head _) rfl
        have b1 := S5.out.blk (j := 1) (u := .string y) (List.Mem.head _) rfl
        have b2 := S5.out.blk (j := 2) (u := .int .i64 v) (List.Mem.head _) rfl
        have hn1 : ks.length ≤ 1000000 := by rw [HT.out.2.1]; omega
        have hvl := ObSI.len S5.out (List.Mem.tail _ (List.Mem.head _))
        have HV := Lib.hid (p := vs.length = n) (by rw [hvl, HT.out.2.1])
        have hIn : I ≤ n := by rw [← HI.out, ← HT.out.2.1]; exact pos_le _ _
        obtain ⟨iS, hiS, hzS, hsS, hbS⟩ := info_parts insS_info
        obtain ⟨iI, hiI, hzI, hsI, hbI⟩ := info_parts insI_info
        clear hvl
        by_cases o1 : op = 1
        · subst o1
          cases B with
          | true =>
            as_aux_lemma =>
            have hin := (List.getElem?_eq_some_iff.1 ((mem_iff_pos strictS HT.out.1).1 ((has_iff ks y).1 HB.out))).1
            rw [HI.out, HT.out.2.1] at hin
            obtain ⟨g1, h1, rfl, rfl⟩ := HT.out.2.2.resolve_left (fun h => by have := h.2.2.1; omega)
            have cput := sPutSI y v S5.out.third.third hn1 HT.out.1
            have e1 : putK lsS ks y = ks := by unfold putK; rw [if_pos HB.out]
            have e2 : putV lsS ks vs y v = vs.set I v := by unfold putV; rw [if_pos HB.out, HI.out]
            rw [e1, e2, HB.out] at cput
            clear e1 e2
            go_wp2_with fail
            go_at_call 7
            refine cput.mono ?_
            clear cput
            rintro e w5 ⟨rfl, S⟩
            have S6 := Lib.hid S
            have c1 := S.blk (j := 2) (u := .int .i64 v) (List.Mem.tail _ (List.Mem.tail _ (List.Mem.head _))) rfl
            clear S S5 b0 b1 b2
            have k1 : Kept (fun _ => False) w5 (w5.alloc (.cells #[] 3)) := (Kept.refl _ w5).alloc _
            have fr := (S6.out.kept k1).from (List.Mem.tail _ (List.Mem.tail _ (List.Mem.tail _ (List.Mem.head _)))) 0 n vc (by omega) ⟨h1, 0, none⟩ (Or.inr rfl)
            rw [List.drop_zero, List.take_of_length_le (by rw [List.length_map, HV.out]; exact Nat.le_refl _)] at fr
            have HFR := Lib.hid fr
            have HK1 := Lib.hid k1
            clear fr k1
            go_wp2_with (at_builtin; refine wpList_append_from rfl _ _ 27 rfl insI_und hiI hzI hsI hbI rfl _ _ 0 n [] _ rfl rfl (own_empty (base := w5.heap.size) (heap_alloc_new w5 _) (Nat.le_refl _)) HFR.out (oneVSI vs) (by unfold maxLen; omega) (by omega) HK1.out.size ?_)
            intro v' w6 ho hg hnn
            obtain ⟨g2, c2, rfl⟩ := own_shown ho hnn
            have S7 := Lib.hid (S6.out.pushOwn (keptOwn HK1.out (own_empty (heap_alloc_new w5 _) (Nat.le_refl _)) hg) ho)
            have d1 := S7.out.blk (j := 2) (u := .int .i64 v) (List.Mem.tail _ (List.Mem.tail _ (List.Mem.tail _ (List.Mem.head _)))) rfl
            have hz : vs[I]? = some (vs[I]'(by rw [HV.out]; exact hin)) := List.getElem?_eq_getElem _
            obtain ⟨old, hold⟩ : ∃ old, vs[I]? = some old := ⟨_, hz⟩
            have d2 := S7.out.cell (j := I) (u := .int .i64 old) (List.Mem.head _) (by rw [List.getElem?_map, hold]; rfl)
            have d3 := S7.out.rowFree (j := I) (List.Mem.head _)
            have i0 : (0 : Int) ≤ (I : Int) := by omega
            have i1 : (I : Int) < (n : Int) := by omega
            have S8 := Lib.hid (S7.out.setRow (by omega) I (.int .i64 v))
            clear ho hg hnn hz hold S6 S7 HFR HK1 c1
            go_wp2
            go_meet
            case rel =>
              refine ⟨p, _, n, kc, _, c2, rfl, rfl, rfl, by omega, Lib.hid ⟨ks, vs.set I v, ?_, HT.out.1, HT.out.2.1, by omega, Or.inr ⟨_, _, rfl, rfl⟩⟩⟩
              have := Sep.front (os := [_, _, _]) S8.out.third.third
              rw [List.map_set]
              exact this
          | false =>
            rcases HT.out.2.2 with hnil | hsome
            · as_aux_lemma =>
              obtain ⟨rfl, rfl, rfl, rfl, rfl⟩ := hnil
              obtain rfl : I = 0 := by omega
              have HNILK := Lib.hid (p := (ks.map Value.string).drop 0 = []) (by rw [List.drop_zero, List.map_eq_nil_iff]; exact List.length_eq_zero_iff.1 HT.out.2.1)
              have HNILV := Lib.hid (p := (vs.map (Value.int .i64)).drop 0 = []) (by rw [List.drop_zero, List.map_eq_nil_iff]; exact List.length_eq_zero_iff.1 HV.out)
              have cput := sPutSI y v S5.out.third.third hn1 HT.out.1
              have e1 : putK lsS ks y = ks.take 0 ++ y :: ks.drop 0 := by unfold putK; rw [if_neg (by rw [HB.out]; simp), HI.out]
              have e2 : putV lsS ks vs y v = vs.take 0 ++ v :: vs.drop 0 := by unfold putV; rw [if_neg (by rw [HB.out]; simp), HI.out]
              have hrp := rising_putK strictS HT.out.1 y
              rw [e1] at hrp
              have HRP := Lib.hid hrp
              rw [e1, e2, HB.out] at cput
              clear e1 e2 hrp
              go_wp2_with fail
              go_at_call 7
              refine cput.mono ?_
              clear cput
              rintro e w5 ⟨rfl, S⟩
              have S6 := Lib.hid S
              clear S S5 b0 b1 b2
              go_upto_region 22 with fail
              go_cut [8] from 81 to 93 (fun s8 wc => ∃ g2 c2 : Nat, s8 = .slice (some ⟨g2, 0, none⟩) (0 + 0 + 1 + (0 - 0)) c2 ∧ Hid (Sep W wc [RowOb 9 (.slice (some ⟨g2, 0, none⟩) (0 + 0 + 1 + (0 - 0)) c2) (0 + 0 + 1 + (0 - 0)) ([] ++ (ks.map Value.string).take 0 ++ [.string y] ++ (ks.map Value.string).drop 0), ObSI p (ks.take 0 ++ y :: ks.drop 0) (vs.take 0 ++ v :: vs.drop 0), RowOb 9 (.slice none 0 0) 0 (ks.map Value.string), BlkOb wr.heap.size #[.int .i64 1, .string y, .int .i64 v] 29, RowOb 3 (.slice none 0 0) 0 (vs.map (Value.int .i64))]))
              case first =>
                as_aux_lemma =>
                have FAK := Lib.hid (p := ∀ w', Kept (fun _ => False) w5 w' → From w' (.slice none 0 0) 0 ((ks.map Value.string).take 0)) (fun w' k => Or.inl ⟨rfl, rfl, by simp⟩)
                have FBK := Lib.hid (p := ∀ w', Kept (fun _ => False) w5 w' → From w' (.slice none 0 0) (0 - 0) ((ks.map Value.string).drop 0)) (fun w' k => Or.inl ⟨rfl, rfl, HNILK.out⟩)
                have one_K : ∀ x ∈ [(.string y : Value)], x.oneCell' = true := by intro x hx; rw [List.mem_singleton] at hx; subst hx; rfl
                have cbK := S6.out.blk (j := 1) (u := .string y) (List.Mem.tail _ (List.Mem.tail _ (List.Mem.head _))) rfl
                have sbK : wr.heap.size < w5.heap.size := World.block_lt_of_cell? _ _ cbK
                have nbK1 : w5.heap.size ≠ wr.heap.size := Nat.ne_of_gt sbK
                have nbK2 : w5.heap.size + 1 ≠ wr.heap.size := Nat.ne_of_gt (Nat.lt_succ_of_lt sbK)
                go_wp2_with fail
                go_region_held3 (fun w' => w'.cell? ⟨wr.heap.size, 1, none⟩ = some (.string y)) (first | assumption | (go_keep; done)) (first
                  | (refine step_chain (w0 := w5) rfl (.tmp 81) (.tmp 84) 26 rfl insS_und hiS hzS hsS hbS rfl (.slice (some ⟨w5.heap.size, 0, none⟩) 0 0) _ 0 0 [] _ (by first | (simp [Act.eval]; done) | fail) (by first | (simp [Act.eval]; done) | fail) (by first | ((with_reducible (repeat (first | exact Kept.refl _ _ | refine Kept.drew ?_ | refine Kept.drewN ?_ _ | refine Kept.alloc ?_ _))); done) | fail) (by first | ((repeat (first | (with_reducible refine ownsDrew ?_) | (with_reducible refine ownsDrewN ?_ _) | (with_reducible refine own_fresh ?_ ?_ <;> (simp; done)) | (with_reducible refine World.ownsRow.alloc ?_ _))); done) | fail) (FAK.out _ (by first | ((with_reducible (repeat (first | exact Kept.refl _ _ | refine Kept.drew ?_ | refine Kept.drewN ?_ _ | refine Kept.alloc ?_ _))); done) | fail)) (fun u hu => (oneSSI ks) u (List.mem_of_mem_take hu)) (by unfold maxLen; omega) (by omega) ?_; intro vK1 xK1 kk oo gg nn; (first | have cyK := gg.cell (a := ⟨w5.heap.size + 1, 0, none⟩) (v := .string y) (by first | (simp; done) | fail) (by first | (simp [Value.ownBlock]; done) | fail) | have cyK := gg.cell (a := ⟨w5.heap.size, 0, none⟩) (v := .string y) (by first | (simp; done) | fail) (by first | (simp [Value.ownBlock]; done) | fail) | skip); have KKK := Lib.hid kk; have OOK := Lib.hid oo; have NNK := Lib.hid nn; have ccK1 := kk.cell cbK (fun h => h); have scK1 : xK1.heap.size ≠ wr.heap.size := Nat.ne_of_gt (Nat.lt_of_lt_of_le sbK kk.size); clear kk oo gg nn)
                  | (refine step_chain (w0 := w5) rfl (.tmp 81) (.tmp 84) 26 rfl insS_und hiS hzS hsS hbS rfl (.slice (some ⟨w5.heap.size + 1, 0, none⟩) 0 0) _ 0 0 [] _ (by first | (simp [Act.eval]; done) | fail) (by first | (simp [Act.eval]; done) | fail) (by first | ((with_reducible (repeat (first | exact Kept.refl _ _ | refine Kept.drew ?_ | refine Kept.drewN ?_ _ | refine Kept.alloc ?_ _))); done) | fail) (by first | ((repeat (first | (with_reducible refine ownsDrew ?_) | (with_reducible refine ownsDrewN ?_ _) | (with_reducible refine own_fresh ?_ ?_ <;> (simp; done)) | (with_reducible refine World.ownsRow.alloc ?_ _))); done) | fail) (FAK.out _ (by first | ((with_reducible (repeat (first | exact Kept.refl _ _ | refine Kept.drew ?_ | refine Kept.drewN ?_ _ | refine Kept.alloc ?_ _))); done) | fail)) (fun u hu => (oneSSI ks) u (List.mem_of_mem_take hu)) (by unfold maxLen; omega) (by omega) ?_; intro vK1 xK1 kk oo gg nn; (first | have cyK := gg.cell (a := ⟨w5.heap.size + 1, 0, none⟩) (v := .string y) (by first | (simp; done) | fail) (by first | (simp [Value.ownBlock]; done) | fail) | have cyK := gg.cell (a := ⟨w5.heap.size, 0, none⟩) (v := .string y) (by first | (simp; done) | fail) (by first | (simp [Value.ownBlock]; done) | fail) | skip); have KKK := Lib.hid kk; have OOK := Lib.hid oo; have NNK := Lib.hid nn; have ccK1 := kk.cell cbK (fun h => h); have scK1 : xK1.heap.size ≠ wr.heap.size := Nat.ne_of_gt (Nat.lt_of_lt_of_le sbK kk.size); clear kk oo gg nn)
                  | (refine step_chain (w0 := w5) rfl (.tmp 85) (.tmp 88) 26 rfl insS_und hiS hzS hsS hbS rfl vK1 _ (0 + 0) 1 ([] ++ (ks.map Value.string).take 0) [.string y] (by first | (simp [Act.eval]; done) | fail) (by first | (simp [Act.eval]; done) | fail) KKK.out OOK.out (from_one cyK) (one_K) (by unfold maxLen; omega) (by omega) ?_; intro vK2 xK2 kk oo gg nn; have KLK := Lib.hid kk; have OLK := Lib.hid oo; have NLK := Lib.hid nn; have ccK2 := kk.cell cbK (fun h => h); clear kk oo gg nn)
                  | (refine step_chain (w0 := w5) rfl (.tmp 85) (.tmp 88) 26 rfl insS_und hiS hzS hsS hbS rfl vK1 (.slice (some ⟨xK1.heap.size, 0, none⟩) 1 1) (0 + 0) 1 ([] ++ (ks.map Value.string).take 0) [.string y] (by first | (simp [Act.eval]; done) | fail) (by first | (simp [Act.eval]; done) | fail) (by first | ((with_reducible (repeat (first | exact KKK.out | exact Kept.refl _ _ | refine Kept.drew ?_ | refine Kept.drewN ?_ _ | refine Kept.alloc ?_ _))); done) | fail) (by first | ((repeat (first | (with_reducible exact OOK.out) | (with_reducible refine ownsDrew ?_) | (with_reducible refine ownsDrewN ?_ _) | (with_reducible refine own_fresh ?_ ?_ <;> (simp; done)) | (with_reducible refine World.ownsRow.alloc ?_ _))); done) | fail) (from_one (by first | (simp; done) | fail)) (one_K) (by unfold maxLen; omega) (by omega) ?_; intro vK2 xK2 kk oo gg nn; have KLK := Lib.hid kk; have OLK := Lib.hid oo; have NLK := Lib.hid nn; have ccK2 := kk.cell cbK (fun h => h); clear kk oo gg nn)
                  | (refine step_chain (w0 := w5) rfl (.tmp 89) (.tmp 92) 26 rfl insS_und hiS hzS hsS hbS rfl vK2 _ (0 + 0 + 1) (0 - 0) ([] ++ (ks.map Value.string).take 0 ++ [.string y]) _ (by first | (simp [Act.eval]; done) | fail) (by first | (simp [Act.eval]; done) | fail) KLK.out OLK.out (FBK.out _ KLK.out) (fun u hu => (oneSSI ks) u (List.mem_of_mem_drop hu)) (by unfold maxLen; omega) (by omega) ?_; intro vK3 xK3 kk oo gg nn; have KMK := Lib.hid kk; have OMK := Lib.hid oo; have NMK := Lib.hid nn; have ccK3 := kk.cell cbK (fun h => h); clear kk oo gg nn))
                all_goals
                  obtain ⟨g2, c2, rfl⟩ := own_shown OMK.out (NMK.out (NLK.out (NNK.out (by simp))))
                  have S7 := Lib.hid (S6.out.pushOwn KMK.out OMK.out)
                  go_wp2
                  go_meet
                  case rel => exact ⟨g2, c2, rfl, S7⟩
              case rest =>
                as_aux_lemma =>
                obtain ⟨g2, c2, rfl, S7⟩ := hcut
                clear S6
                have FAV := Lib.hid (p := ∀ w', Kept (fun _ => False) wc w' → From w' (.slice none 0 0) 0 ((vs.map (Value.int .i64)).take 0)) (fun w' k => Or.inl ⟨rfl, rfl, by simp⟩)
                have FBV := Lib.hid (p := ∀ w', Kept (fun _ => False) wc w' → From w' (.slice none 0 0) (0 - 0) ((vs.map (Value.int .i64)).drop 0)) (fun w' k => Or.inl ⟨rfl, rfl, HNILV.out⟩)
                have one_V : ∀ x ∈ [(.int .i64 v : Value)], x.oneCell' = true := by intro x hx; rw [List.mem_singleton] at hx; subst hx; rfl
                have cbV := S7.out.blk (j := 2) (u := .int .i64 v) (List.Mem.tail _ (List.Mem.tail _ (List.Mem.tail _ (List.Mem.head _)))) rfl
                have sbV : wr.heap.size < wc.heap.size := World.block_lt_of_cell? _ _ cbV
                have nbV1 : wc.heap.size ≠ wr.heap.size := Nat.ne_of_gt sbV
                have nbV2 : wc.heap.size + 1 ≠ wr.heap.size := Nat.ne_of_gt (Nat.lt_succ_of_lt sbV)
                go_wp2_with fail
                go_region_held3 (fun w' => w'.cell? ⟨wr.heap.size, 2, none⟩ = some (.int .i64 v)) (first | assumption | (go_keep; done)) (first
                  | (refine step_chain (w0 := wc) rfl (.tmp 94) (.tmp 97) 27 rfl insI_und hiI hzI hsI hbI rfl (.slice (some ⟨wc.heap.size, 0, none⟩) 0 0) _ 0 0 [] _ (by first | (simp [Act.eval]; done) | fail) (by first | (simp [Act.eval]; done) | fail) (by first | ((with_reducible (repeat (first | exact Kept.refl _ _ | refine Kept.drew ?_ | refine Kept.drewN ?_ _ | refine Kept.alloc ?_ _))); done) | fail) (by first | ((repeat (first | (with_reducible refine ownsDrew ?_) | (with_reducible refine ownsDrewN ?_ _) | (with_reducible refine own_fresh ?_ ?_ <;> (simp; done)) | (with_reducible refine World.ownsRow.alloc ?_ _))); done) | fail) (FAV.out _ (by first | ((with_reducible (repeat (first | exact Kept.refl _ _ | refine Kept.drew ?_ | refine Kept.drewN ?_ _ | refine Kept.alloc ?_ _))); done) | fail)) (fun u hu => (oneVSI vs) u (List.mem_of_mem_take hu)) (by unfold maxLen; omega) (by omega) ?_; intro vV1 xV1 kk oo gg nn; (first | have cyV := gg.cell (a := ⟨wc.heap.size + 1, 0, none⟩) (v := .int .i64 v) (by first | (simp; done) | fail) (by first | (simp [Value.ownBlock]; done) | fail) | have cyV := gg.cell (a := ⟨wc.heap.size, 0, none⟩) (v := .int .i64 v) (by first | (simp; done) | fail) (by first | (simp [Value.ownBlock]; done) | fail) | skip); have KKV := Lib.hid kk; have OOV := Lib.hid oo; have NNV := Lib.hid nn; have ccV1 := kk.cell cbV (fun h => h); have scV1 : xV1.heap.size ≠ wr.heap.size := Nat.ne_of_gt (Nat.lt_of_lt_of_le sbV kk.size); clear kk oo gg nn)
                  | (refine step_chain (w0 := wc) rfl (.tmp 94) (.tmp 97) 27 rfl insI_und hiI hzI hsI hbI rfl (.slice (some ⟨wc.heap.size + 1, 0, none⟩) 0 0) _ 0 0 [] _ (by first | (simp [Act.eval]; done) | fail) (by first | (simp [Act.eval]; done) | fail) (by first | ((with_reducible (repeat (first | exact Kept.refl _ _ | refine Kept.drew ?_ | refine Kept.drewN ?_ _ | refine Kept.alloc ?_ _))); done) | fail) (by first | ((repeat (first | (with_reducible refine ownsDrew ?_) | (with_reducible refine ownsDrewN ?_ _) | (with_reducible refine own_fresh ?_ ?_ <;> (simp; done)) | (with_reducible refine World.ownsRow.alloc ?_ _))); done) | fail) (FAV.out _ (by first | ((with_reducible (repeat (first | exact Kept.refl _ _ | refine Kept.drew ?_ | refine Kept.drewN ?_ _ | refine Kept.alloc ?_ _))); done) | fail)) (fun u hu => (oneVSI vs) u (List.mem_of_mem_take hu)) (by unfold maxLen; omega) (by omega) ?_; intro vV1 xV1 kk oo gg nn; (first | have cyV := gg.cell (a := ⟨wc.heap.size + 1, 0, none⟩) (v := .int .i64 v) (by first | (simp; done) | fail) (by first | (simp [Value.ownBlock]; done) | fail) | have cyV := gg.cell (a := ⟨wc.heap.size, 0, none⟩) (v := .int .i64 v) (by first | (simp; done) | fail) (by first | (simp [Value.ownBlock]; done) | fail) | skip); have KKV := Lib.hid kk; have OOV := Lib.hid oo; have NNV := Lib.hid nn; have ccV1 := kk.cell cbV (fun h => h); have scV1 : xV1.heap.size ≠ wr.heap.size := Nat.ne_of_gt (Nat.lt_of_lt_of_le sbV kk.size); clear kk oo gg nn)
                  | (refine step_chain (w0 := wc) rfl (.tmp 98) (.tmp 101) 27 rfl insI_und hiI hzI hsI hbI rfl vV1 _ (0 + 0) 1 ([] ++ (vs.map (Value.int .i64)).take 0) [.int .i64 v] (by first | (simp [Act.eval]; done) | fail) (by first | (simp [Act.eval]; done) | fail) KKV.out OOV.out (from_one cyV) (one_V) (by unfold maxLen; omega) (by omega) ?_; intro vV2 xV2 kk oo gg nn; have KLV := Lib.hid kk; have OLV := Lib.hid oo; have NLV := Lib.hid nn; have ccV2 := kk.cell cbV (fun h => h); clear kk oo gg nn)
                  | (refine step_chain (w0 := wc) rfl (.tmp 98) (.tmp 101) 27 rfl insI_und hiI hzI hsI hbI rfl vV1 (.slice (some ⟨xV1.heap.size, 0, none⟩) 1 1) (0 + 0) 1 ([] ++ (vs.map (Value.int .i64)).take 0) [.int .i64 v] (by first | (simp [Act.eval]; done) | fail) (by first | (simp [Act.eval]; done) | fail) (by first | ((with_reducible (repeat (first | exact KKV.out | exact Kept.refl _ _ | refine Kept.drew ?_ | refine Kept.drewN ?_ _ | refine Kept.alloc ?_ _))); done) | fail) (by first | ((repeat (first | (with_reducible exact OOV.out) | (with_reducible refine ownsDrew ?_) | (with_reducible refine ownsDrewN ?_ _) | (with_reducible refine own_fresh ?_ ?_ <;> (simp; done)) | (with_reducible refine World.ownsRow.alloc ?_ _))); done) | fail) (from_one (by first | (simp; done) | fail)) (one_V) (by unfold maxLen; omega) (by omega) ?_; intro vV2 xV2 kk oo gg nn; have KLV := Lib.hid kk; have OLV := Lib.hid oo; have NLV := Lib.hid nn; have ccV2 := kk.cell cbV (fun h => h); clear kk oo gg nn)
                  | (refine step_chain (w0 := wc) rfl (.tmp 102) (.tmp 105) 27 rfl insI_und hiI hzI hsI hbI rfl vV2 _ (0 + 0 + 1) (0 - 0) ([] ++ (vs.map (Value.int .i64)).take 0 ++ [.int .i64 v]) _ (by first | (simp [Act.eval]; done) | fail) (by first | (simp [Act.eval]; done) | fail) KLV.out OLV.out (FBV.out _ KLV.out) (fun u hu => (oneVSI vs) u (List.mem_of_mem_drop hu)) (by unfold maxLen; omega) (by omega) ?_; intro vV3 xV3 kk oo gg nn; have KMV := Lib.hid kk; have OMV := Lib.hid oo; have NMV := Lib.hid nn; have ccV3 := kk.cell cbV (fun h => h); clear kk oo gg nn))
                all_goals
                  obtain ⟨h2, d2, rfl⟩ := own_shown OMV.out (NMV.out (NLV.out (NNV.out (by simp))))
                  have S8 := Lib.hid (S7.out.pushOwn KMV.out OMV.out)
                  go_wp2
                  go_meet
                  case rel =>
                    have e1 : 0 + 0 + 1 + (0 - 0) = 0 + 1 := by omega
                    have S9 := S8.out
                    rw [e1] at S9
                    refine ⟨p, _, 0 + 1, c2, _, d2, rfl, (by first | rfl | (congr 1 <;> omega)), (by first | rfl | (congr 1 <;> omega)), by omega, Lib.hid ⟨ks.take 0 ++ y :: ks.drop 0, vs.take 0 ++ v :: vs.drop 0, ?_, HRP.out, ?_, by omega, Or.inr ⟨_, _, rfl, rfl⟩⟩⟩
                    · have eK : (ks.take 0 ++ y :: ks.drop 0).map Value.string = [] ++ List.take 0 (ks.map Value.string) ++ [Value.string y] ++ List.drop 0 (ks.map Value.string) := by simp
                      have eV : (vs.take 0 ++ v :: vs.drop 0).map (Value.int .i64) = [] ++ List.take 0 (vs.map (Value.int .i64)) ++ [Value.int .i64 v] ++ List.drop 0 (vs.map (Value.int .i64)) := by simp
                      rw [eK, eV]
                      exact Sep.front (os := [_, _, _]) S9.third.third.swap
                    · (simp only [List.length_append, List.length_take, List.length_cons, List.length_drop, HT.out.2.1]) <;> omega
            · as_aux_lemma =>
              obtain ⟨g1, h1, rfl, rfl⟩ := hsome
              have cput := sPutSI y v S5.out.third.third hn1 HT.out.1
              have e1 : putK lsS ks y = ks.take I ++ y :: ks.drop I := by unfold putK; rw [if_neg (by rw [HB.out]; simp), HI.out]
              have e2 : putV lsS ks vs y v = vs.take I ++ v :: vs.drop I := by unfold putV; rw [if_neg (by rw [HB.out]; simp), HI.out]
              have hrp := rising_putK strictS HT.out.1 y
              rw [e1] at hrp
              have HRP := Lib.hid hrp
              rw [e1, e2, HB.out] at cput
              clear e1 e2 hrp
              go_wp2_with fail
              go_at_call 7
              refine cput.mono ?_
              clear cput
              rintro e w5 ⟨rfl, S⟩
              have S6 := Lib.hid S
              have hkc := owns_caps (S.row (List.Mem.tail _ (List.Mem.head _)))
              have hvc := owns_caps (S.row (List.Mem.tail _ (List.Mem.tail _ (List.Mem.tail _ (List.Mem.head _)))))
              obtain ⟨hkc1, hkc2⟩ := hkc
              obtain ⟨hvc1, hvc2⟩ := hvc
              unfold maxLen at hkc2 hvc2
              obtain ⟨AK, hAK, HAK⟩ : ∃ A : Addr, (if kc = I then some (⟨g1, 0, none⟩ : Addr) else some ⟨g1, I, none⟩) = some A ∧ Hid (n - I = 0 ∨ A = ⟨g1, I, none⟩) := by
                by_cases h : kc = I
                · exact ⟨⟨g1, 0, none⟩, by simp [h], Or.inl (by omega)⟩
                · exact ⟨⟨g1, I, none⟩, by simp [h], Or.inr rfl⟩
              obtain ⟨AV, hAV, HAV⟩ : ∃ A : Addr, (if vc = I then some (⟨h1, 0, none⟩ : Addr) else some ⟨h1, I, none⟩) = some A ∧ Hid (n - I = 0 ∨ A = ⟨h1, I, none⟩) := by
                by_cases h : vc = I
                · exact ⟨⟨h1, 0, none⟩, by simp [h], Or.inl (by omega)⟩
                · exact ⟨⟨h1, I, none⟩, by simp [h], Or.inr rfl⟩
              have i0 : (0 : Int) ≤ (I : Int) := by omega
              have i1 : (I : Int) ≤ (kc : Int) := by omega
              have i2 : (I : Int) ≤ (vc : Int) := by omega
              have i4 : (I : Int) ≤ (n : Int) := by omega
              clear S S5 b0 b1 b2
              go_upto_region 22 with fail
              go_cut [8] from 81 to 93 (fun s8 wc => ∃ g2 c2 : Nat, s8 = .slice (some ⟨g2, 0, none⟩) (0 + I + 1 + (n - I)) c2 ∧ Hid (Sep W wc [RowOb 9 (.slice (some ⟨g2, 0, none⟩) (0 + I + 1 + (n - I)) c2) (0 + I + 1 + (n - I)) ([] ++ (ks.map Value.string).take I ++ [.string y] ++ (ks.map Value.string).drop I), ObSI p (ks.take I ++ y :: ks.drop I) (vs.take I ++ v :: vs.drop I), RowOb 9 (.slice (some ⟨g1, 0, none⟩) n kc) n (ks.map Value.string), BlkOb wr.heap.size #[.int .i64 1, .string y, .int .i64 v] 29, RowOb 3 (.slice (some ⟨h1, 0, none⟩) n vc) n (vs.map (Value.int .i64))]))
              case first =>
                as_aux_lemma =>
                have FAK := Lib.hid (p := ∀ w', Kept (fun _ => False) w5 w' → From w' (.slice (some ⟨g1, 0, none⟩) I kc) I ((ks.map Value.string).take I)) (fun w' k => by
                  have := (S6.out.kept k).from (List.Mem.tail _ (List.Mem.head _)) 0 I kc (by omega) ⟨g1, 0, none⟩ (Or.inr rfl)
                  rwa [List.drop_zero] at this)
                have FBK := Lib.hid (p := ∀ w', Kept (fun _ => False) w5 w' → From w' (.slice (some AK) (n - I) (kc - I)) (n - I) ((ks.map Value.string).drop I)) (fun w' k => by
                  have := (S6.out.kept k).from (List.Mem.tail _ (List.Mem.head _)) I (n - I) (kc - I) (by omega) AK (HAK.out)
                  rwa [List.take_of_length_le (by rw [List.length_drop, List.length_map, HT.out.2.1]; exact Nat.le_refl _)] at this)
                have one_K : ∀ x ∈ [(.string y : Value)], x.oneCell' = true := by intro x hx; rw [List.mem_singleton] at hx; subst hx; rfl
                have cbK := S6.out.blk (j := 1) (u := .string y) (List.Mem.tail _ (List.Mem.tail _ (List.Mem.head _))) rfl
                have sbK : wr.heap.size < w5.heap.size := World.block_lt_of_cell? _ _ cbK
                have nbK1 : w5.heap.size ≠ wr.heap.size := Nat.ne_of_gt sbK
                have nbK2 : w5.heap.size + 1 ≠ wr.heap.size := Nat.ne_of_gt (Nat.lt_succ_of_lt sbK)
                go_wp2_with fail
                go_region_held3 (fun w' => w'.cell? ⟨wr.heap.size, 1, none⟩ = some (.string y)) (first | assumption | (go_keep; done)) (first
                  | (refine step_chain (w0 := w5) rfl (.tmp 81) (.tmp 84) 26 rfl insS_und hiS hzS hsS hbS rfl (.slice (some ⟨w5.heap.size, 0, none⟩) 0 0) _ 0 I [] _ (by first | (simp [Act.eval]; done) | fail) (by first | (simp [Act.eval]; done) | fail) (by first | ((with_reducible (repeat (first | exact Kept.refl _ _ | refine Kept.drew ?_ | refine Kept.drewN ?_ _ | refine Kept.alloc ?_ _))); done) | fail) (by first | ((repeat (first | (with_reducible refine ownsDrew ?_) | (with_reducible refine ownsDrewN ?_ _) | (with_reducible refine own_fresh ?_ ?_ <;> (simp; done)) | (with_reducible refine World.ownsRow.alloc ?_ _))); done) | fail) (FAK.out _ (by first | ((with_reducible (repeat (first | exact Kept.refl _ _ | refine Kept.drew ?_ | refine Kept.drewN ?_ _ | refine Kept.alloc ?_ _))); done) | fail)) (fun u hu => (oneSSI ks) u (List.mem_of_mem_take hu)) (by unfold maxLen; omega) (by omega) ?_; intro vK1 xK1 kk oo gg nn; (first | have cyK := gg.cell (a := ⟨w5.heap.size + 1, 0, none⟩) (v := .string y) (by first | (simp; done) | fail) (by first | (simp [Value.ownBlock]; done) | fail) | have cyK := gg.cell (a := ⟨w5.heap.size, 0, none⟩) (v := .string y) (by first | (simp; done) | fail) (by first | (simp [Value.ownBlock]; done) | fail) | skip); have KKK := Lib.hid kk; have OOK := Lib.hid oo; have NNK := Lib.hid nn; have ccK1 := kk.cell cbK (fun h => h); have scK1 : xK1.heap.size ≠ wr.heap.size := Nat.ne_of_gt (Nat.lt_of_lt_of_le sbK kk.size); clear kk oo gg nn)
                  | (refine step_chain (w0 := w5) rfl (.tmp 81) (.tmp 84) 26 rfl insS_und hiS hzS hsS hbS rfl (.slice (some ⟨w5.heap.size + 1, 0, none⟩) 0 0) _ 0 I [] _ (by first | (simp [Act.eval]; done) | fail) (by first | (simp [Act.eval]; done) | fail) (by first | ((with_reducible (repeat (first | exact Kept.refl _ _ | refine Kept.drew ?_ | refine Kept.drewN ?_ _ | refine Kept.alloc ?_ _))); done) | fail) (by first | ((repeat (first | (with_reducible refine ownsDrew ?_) | (with_reducible refine ownsDrewN ?_ _) | (with_reducible refine own_fresh ?_ ?_ <;> (simp; done)) | (with_reducible refine World.ownsRow.alloc ?_ _))); done) | fail) (FAK.out _ (by first | ((with_reducible (repeat (first | exact Kept.refl _ _ | refine Kept.drew ?_ | refine Kept.drewN ?_ _ | refine Kept.alloc ?_ _))); done) | fail)) (fun u hu => (oneSSI ks) u (List.mem_of_mem_take hu)) (by unfold maxLen; omega) (by omega) ?_; intro vK1 xK1 kk oo gg nn; (first | have cyK := gg.cell (a := ⟨w5.heap.size + 1, 0, none⟩) (v := .string y) (by first | (simp; done) | fail) (by first | (simp [Value.ownBlock]; done) | fail) | have cyK := gg.cell (a := ⟨w5.heap.size, 0, none⟩) (v := .string y) (by first | (simp; done) | fail) (by first | (simp [Value.ownBlock]; done) | fail) | skip); have KKK := Lib.hid kk; have OOK := Lib.hid oo; have NNK := Lib.hid nn; have ccK1 := kk.cell cbK (fun h => h); have scK1 : xK1.heap.size ≠ wr.heap.size := Nat.ne_of_gt (Nat.lt_of_lt_of_le sbK kk.size); clear kk oo gg nn)
                  | (refine step_chain (w0 := w5) rfl (.tmp 85) (.tmp 88) 26 rfl insS_und hiS hzS hsS hbS rfl vK1 _ (0 + I) 1 ([] ++ (ks.map Value.string).take I) [.string y] (by first | (simp [Act.eval]; done) | fail) (by first | (simp [Act.eval]; done) | fail) KKK.out OOK.out (from_one cyK) (one_K) (by unfold maxLen; omega) (by omega) ?_; intro vK2 xK2 kk oo gg nn; have KLK := Lib.hid kk; have OLK := Lib.hid oo; have NLK := Lib.hid nn; have ccK2 := kk.cell cbK (fun h => h); clear kk oo gg nn)
                  | (refine step_chain (w0 := w5) rfl (.tmp 85) (.tmp 88) 26 rfl insS_und hiS hzS hsS hbS rfl vK1 (.slice (some ⟨xK1.heap.size, 0, none⟩) 1 1) (0 + I) 1 ([] ++ (ks.map Value.string).take I) [.string y] (by first | (simp [Act.eval]; done) | fail) (by first | (simp [Act.eval]; done) | fail) (by first | ((with_reducible (repeat (first | exact KKK.out | exact Kept.refl _ _ | refine Kept.drew ?_ | refine Kept.drewN ?_ _ | refine Kept.alloc ?_ _))); done) | fail) (by first | ((repeat (first | (with_reducible exact OOK.out) | (with_reducible refine ownsDrew ?_) | (with_reducible refine ownsDrewN ?_ _) | (with_reducible refine own_fresh ?_ ?_ <;> (simp; done)) | (with_reducible refine World.ownsRow.alloc ?_ _))); done) | fail) (from_one (by first | (simp; done) | fail)) (one_K) (by unfold maxLen; omega) (by omega) ?_; intro vK2 xK2 kk oo gg nn; have KLK := Lib.hid kk; have OLK := Lib.hid oo; have NLK := Lib.hid nn; have ccK2 := kk.cell cbK (fun h => h); clear kk oo gg nn)
                  | (refine step_chain (w0 := w5) rfl (.tmp 89) (.tmp 92) 26 rfl insS_und hiS hzS hsS hbS rfl vK2 _ (0 + I + 1) (n - I) ([] ++ (ks.map Value.string).take I ++ [.string y]) _ (by first | (simp [Act.eval]; done) | fail) (by first | (simp [Act.eval]; done) | fail) KLK.out OLK.out (FBK.out _ KLK.out) (fun u hu => (oneSSI ks) u (List.mem_of_mem_drop hu)) (by unfold maxLen; omega) (by omega) ?_; intro vK3 xK3 kk oo gg nn; have KMK := Lib.hid kk; have OMK := Lib.hid oo; have NMK := Lib.hid nn; have ccK3 := kk.cell cbK (fun h => h); clear kk oo gg nn))
                all_goals
                  obtain ⟨g2, c2, rfl⟩ := own_shown OMK.out (NMK.out (NLK.out (NNK.out (by simp))))
                  have S7 := Lib.hid (S6.out.pushOwn KMK.out OMK.out)
                  go_wp2
                  go_meet
                  case rel => exact ⟨g2, c2, rfl, S7⟩
              case rest =>
                as_aux_lemma =>
                obtain ⟨g2, c2, rfl, S7⟩ := hcut
                clear S6
                have FAV := Lib.hid (p := ∀ w', Kept (fun _ => False) wc w' → From w' (.slice (some ⟨h1, 0, none⟩) I vc) I ((vs.map (Value.int .i64)).take I)) (fun w' k => by
                  have := (S7.out.kept k).from (List.Mem.tail _ (List.Mem.tail _ (List.Mem.tail _ (List.Mem.tail _ (List.Mem.head _))))) 0 I vc (by omega) ⟨h1, 0, none⟩ (Or.inr rfl)
                  rwa [List.drop_zero] at this)
                have FBV := Lib.hid (p := ∀ w', Kept (fun _ => False) wc w' → From w' (.slice (some AV) (n - I) (vc - I)) (n - I) ((vs.map (Value.int .i64)).drop I)) (fun w' k => by
                  have := (S7.out.kept k).from (List.Mem.tail _ (List.Mem.tail _ (List.Mem.tail _ (List.Mem.tail _ (List.Mem.head _))))) I (n - I) (vc - I) (by omega) AV (HAV.out)
                  rwa [List.take_of_length_le (by rw [List.length_drop, List.length_map, HV.out]; exact Nat.le_refl _)] at this)
                have one_V : ∀ x ∈ [(.int .i64 v : Value)], x.oneCell' = true := by intro x hx; rw [List.mem_singleton] at hx; subst hx; rfl
                have cbV := S7.out.blk (j := 2) (u := .int .i64 v) (List.Mem.tail _ (List.Mem.tail _ (List.Mem.tail _ (List.Mem.head _)))) rfl
                have sbV : wr.heap.size < wc.heap.size := World.block_lt_of_cell? _ _ cbV
                have nbV1 : wc.heap.size ≠ wr.heap.size := Nat.ne_of_gt sbV
                have nbV2 : wc.heap.size + 1 ≠ wr.heap.size := Nat.ne_of_gt (Nat.lt_succ_of_lt sbV)
                go_wp2_with fail
                go_region_held3 (fun w' => w'.cell? ⟨wr.heap.size, 2, none⟩ = some (.int .i64 v)) (first | assumption | (go_keep; done)) (first
                  | (refine step_chain (w0 := wc) rfl (.tmp 94) (.tmp 97) 27 rfl insI_und hiI hzI hsI hbI rfl (.slice (some ⟨wc.heap.size, 0, none⟩) 0 0) _ 0 I [] _ (by first | (simp [Act.eval]; done) | fail) (by first | (simp [Act.eval]; done) | fail) (by first | ((with_reducible (repeat (first | exact Kept.refl _ _ | refine Kept.drew ?_ | refine Kept.drewN ?_ _ | refine Kept.alloc ?_ _))); done) | fail) (by first | ((repeat (first | (with_reducible refine ownsDrew ?_) | (with_reducible refine ownsDrewN ?_ _) | (with_reducible refine own_fresh ?_ ?_ <;> (simp; done)) | (with_reducible refine World.ownsRow.alloc ?_ _))); done) | fail) (FAV.out _ (by first | ((with_reducible (repeat (first | exact Kept.refl _ _ | refine Kept.drew ?_ | refine Kept.drewN ?_ _ | refine Kept.alloc ?_ _))); done) | fail)) (fun u hu => (oneVSI vs) u (List.mem_of_mem_take hu)) (by unfold maxLen; omega) (by omega) ?_; intro vV1 xV1 kk oo gg nn; (first | have cyV := gg.cell (a := ⟨wc.heap.size + 1, 0, none⟩) (v := .int .i64 v) (by first | (simp; done) | fail) (by first | (simp [Value.ownBlock]; done) | fail) | have cyV := gg.cell (a := ⟨wc.heap.size, 0, none⟩) (v := .int .i64 v) (by first | (simp; done) | fail) (by first | (simp [Value.ownBlock]; done) | fail) | skip); have KKV := Lib.hid kk; have OOV := Lib.hid oo; have NNV := Lib.hid nn; have ccV1 := kk.cell cbV (fun h => h); have scV1 : xV1.heap.size ≠ wr.heap.size := Nat.ne_of_gt (Nat.lt_of_lt_of_le sbV kk.size); clear kk oo gg nn)
                  | (refine step_chain (w0 := wc) rfl (.tmp 94) (.tmp 97) 27 rfl insI_und hiI hzI hsI hbI rfl (.slice (some ⟨wc.heap.size + 1, 0, none⟩) 0 0) _ 0 I [] _ (by first | (simp [Act.eval]; done) | fail) (by first | (simp [Act.eval]; done) | fail) (by first | ((with_reducible (repeat (first | exact Kept.refl _ _ | refine Kept.drew ?_ | refine Kept.drewN ?_ _ | refine Kept.alloc ?_ _))); done) | fail) (by first | ((repeat (first | (with_reducible refine ownsDrew ?_) | (with_reducible refine ownsDrewN ?_ _) | (with_reducible refine own_fresh ?_ ?_ <;> (simp; done)) | (with_reducible refine World.ownsRow.alloc ?_ _))); done) | fail) (FAV.out _ (by first | ((with_reducible (repeat (first | exact Kept.refl _ _ | refine Kept.drew ?_ | refine Kept.drewN ?_ _ | refine Kept.alloc ?_ _))); done) | fail)) (fun u hu => (oneVSI vs) u (List.mem_of_mem_take hu)) (by unfold maxLen; omega) (by omega) ?_; intro vV1 xV1 kk oo gg nn; (first | have cyV := gg.cell (a := ⟨wc.heap.size + 1, 0, none⟩) (v := .int .i64 v) (by first | (simp; done) | fail) (by first | (simp [Value.ownBlock]; done) | fail) | have cyV := gg.cell (a := ⟨wc.heap.size, 0, none⟩) (v := .int .i64 v) (by first | (simp; done) | fail) (by first | (simp [Value.ownBlock]; done) | fail) | skip); have KKV := Lib.hid kk; have OOV := Lib.hid oo; have NNV := Lib.hid nn; have ccV1 := kk.cell cbV (fun h => h); have scV1 : xV1.heap.size ≠ wr.heap.size := Nat.ne_of_gt (Nat.lt_of_lt_of_le sbV kk.size); clear kk oo gg nn)
                  | (refine step_chain (w0 := wc) rfl (.tmp 98) (.tmp 101) 27 rfl insI_und hiI hzI hsI hbI rfl vV1 _ (0 + I) 1 ([] ++ (vs.map (Value.int .i64)).take I) [.int .i64 v] (by first | (simp [Act.eval]; done) | fail) (by first | (simp [Act.eval]; done) | fail) KKV.out OOV.out (from_one cyV) (one_V) (by unfold maxLen; omega) (by omega) ?_; intro vV2 xV2 kk oo gg nn; have KLV := Lib.hid kk; have OLV := Lib.hid oo; have NLV := Lib.hid nn; have ccV2 := kk.cell cbV (fun h => h); clear kk oo gg nn)
                  | (refine step_chain (w0 := wc) rfl (.tmp 98) (.tmp 101) 27 rfl insI_und hiI hzI hsI hbI rfl vV1 (.slice (some ⟨xV1.heap.size, 0, none⟩) 1 1) (0 + I) 1 ([] ++ (vs.map (Value.int .i64)).take I) [.int .i64 v] (by first | (simp [Act.eval]; done) | fail) (by first | (simp [Act.eval]; done) | fail) (by first | ((with_reducible (repeat (first | exact KKV.out | exact Kept.refl _ _ | refine Kept.drew ?_ | refine Kept.drewN ?_ _ | refine Kept.alloc ?_ _))); done) | fail) (by first | ((repeat (first | (with_reducible exact OOV.out) | (with_reducible refine ownsDrew ?_) | (with_reducible refine ownsDrewN ?_ _) | (with_reducible refine own_fresh ?_ ?_ <;> (simp; done)) | (with_reducible refine World.ownsRow.alloc ?_ _))); done) | fail) (from_one (by first | (simp; done) | fail)) (one_V) (by unfold maxLen; omega) (by omega) ?_; intro vV2 xV2 kk oo gg nn; have KLV := Lib.hid kk; have OLV := Lib.hid oo; have NLV := Lib.hid nn; have ccV2 := kk.cell cbV (fun h => h); clear kk oo gg nn)
                  | (refine step_chain (w0 := wc) rfl (.tmp 102) (.tmp 105) 27 rfl insI_und hiI hzI hsI hbI rfl vV2 _ (0 + I + 1) (n - I) ([] ++ (vs.map (Value.int .i64)).take I ++ [.int .i64 v]) _ (by first | (simp [Act.eval]; done) | fail) (by first | (simp [Act.eval]; done) | fail) KLV.out OLV.out (FBV.out _ KLV.out) (fun u hu => (oneVSI vs) u (List.mem_of_mem_drop hu)) (by unfold maxLen; omega) (by omega) ?_; intro vV3 xV3 kk oo gg nn; have KMV := Lib.hid kk; have OMV := Lib.hid oo; have NMV := Lib.hid nn; have ccV3 := kk.cell cbV (fun h => h); clear kk oo gg nn))
                all_goals
                  obtain ⟨h2, d2, rfl⟩ := own_shown OMV.out (NMV.out (NLV.out (NNV.out (by simp))))
                  have S8 := Lib.hid (S7.out.pushOwn KMV.out OMV.out)
                  go_wp2
                  go_meet
                  case rel =>
                    have e1 : 0 + I + 1 + (n - I) = n + 1 := by omega
                    have S9 := S8.out
                    rw [e1] at S9
                    refine ⟨p, _, n + 1, c2, _, d2, rfl, (by first | rfl | (congr 1 <;> omega)), (by first | rfl | (congr 1 <;> omega)), by omega, Lib.hid ⟨ks.take I ++ y :: ks.drop I, vs.take I ++ v :: vs.drop I, ?_, HRP.out, ?_, by omega, Or.inr ⟨_, _, rfl, rfl⟩⟩⟩
                    · have eK : (ks.take I ++ y :: ks.drop I).map Value.string = [] ++ List.take I (ks.map Value.string) ++ [Value.string y] ++ List.drop I (ks.map Value.string) := by simp [List.map_take, List.map_drop]
                      have eV : (vs.take I ++ v :: vs.drop I).map (Value.int .i64) = [] ++ List.take I (vs.map (Value.int .i64)) ++ [Value.int .i64 v] ++ List.drop I (vs.map (Value.int .i64)) := by simp [List.map_take, List.map_drop]
                      rw [eK, eV]
                      exact Sep.front (os := [_, _, _]) S9.third.third.swap
                    · (simp only [List.length_append, List.length_take, List.length_cons, List.length_drop, HT.out.2.1]) <;> omega
        by_cases o2 : op = 2
        · subst o2
          cases B with
          | true =>
            as_aux_lemma =>
            have hin := (List.getElem?_eq_some_iff.1 ((mem_iff_pos strictS HT.out.1).1 ((has_iff ks y).1 HB.out))).1
            rw [HI.out, HT.out.2.1] at hin
            obtain ⟨g1, h1, rfl, rfl⟩ := HT.out.2.2.resolve_left (fun h => by have := h.2.2.1; omega)
            have cdr := sDropSI y S5.out.third.third hn1 HT.out.1
            have e1 : dropK lsS ks y = ks.eraseIdx I := by unfold dropK; rw [if_pos HB.out, HI.out]
            have e2 : dropV lsS ks vs y = vs.eraseIdx I := by unfold dropV; rw [if_pos HB.out, HI.out]
            rw [e1, e2, HB.out] at cdr
            clear e1 e2
            go_wp2_with fail
            go_at_call 8
            refine cdr.mono ?_
            clear cdr
            rintro e w5 ⟨rfl, S⟩
            have S6 := Lib.hid S
            have hkc := owns_caps (S.row (List.Mem.tail _ (List.Mem.head _)))
            have hvc := owns_caps (S.row (List.Mem.tail _ (List.Mem.tail _ (List.Mem.tail _ (List.Mem.head _)))))
            obtain ⟨hkc1, hkc2⟩ := hkc
            obtain ⟨hvc1, hvc2⟩ := hvc
            unfold maxLen at hkc2 hvc2
            clear S S5 b0 b1 b2
            obtain ⟨AK, hAK, HAK⟩ : ∃ A : Addr, (if kc = I + 1 then some (⟨g1, 0, none⟩ : Addr) else some ⟨g1, I + 1, none⟩) = some A ∧ Hid (n - (I + 1) = 0 ∨ A = ⟨g1, I + 1, none⟩) := by
              by_cases h : kc = I + 1
              · exact ⟨⟨g1, 0, none⟩, by simp [h], Or.inl (by omega)⟩
              · exact ⟨⟨g1, I + 1, none⟩, by simp [h], Or.inr rfl⟩
            obtain ⟨AV, hAV, HAV⟩ : ∃ A : Addr, (if vc = I + 1 then some (⟨h1, 0, none⟩ : Addr) else some ⟨h1, I + 1, none⟩) = some A ∧ Hid (n - (I + 1) = 0 ∨ A = ⟨h1, I + 1, none⟩) := by
              by_cases h : vc = I + 1
              · exact ⟨⟨h1, 0, none⟩, by simp [h], Or.inl (by omega)⟩
              · exact ⟨⟨h1, I + 1, none⟩, by simp [h], Or.inr rfl⟩
            have i0 : (0 : Int) ≤ (I : Int) := by omega
            have i1 : (I : Int) ≤ (kc : Int) := by omega
            have i2 : (I : Int) ≤ (vc : Int) := by omega
            have i3 : (0 : Int) ≤ (I : Int) + 1 := by omega
            have i4 : (I : Int) + 1 ≤ (n : Int) := by omega
            have i5 : ((I : Int) + 1).toNat = I + 1 := by omega
            have i6 : IntKind.i64.wrap ((I : Int) + 1) = (I : Int) + 1 := by rw [IntKind.wrap_i64]; omega
            have kK1 : Kept (fun _ => False) w5 (w5.alloc (.cells #[] 9)).drew := ((Kept.refl _ w5).alloc _).drew
            have oK1 : ((w5.alloc (.cells #[] 9)).drew).ownsRow w5.heap.size 9 1 (.slice (some ⟨w5.heap.size, 0, none⟩) 0 0) 0 [] := own_empty (heap_alloc_new w5 _) (Nat.le_refl _)
            have fK1 := (S6.out.kept kK1).from (List.Mem.tail _ (List.Mem.head _)) 0 I kc (by omega) ⟨g1, 0, none⟩ (Or.inr rfl)
            rw [List.drop_zero] at fK1
            have FK := Lib.hid (p := ∀ w', Kept (fun _ => False) w5 w' → From w' (.slice (some AK) (n - (I + 1)) (kc - (I + 1))) (n - (I + 1)) ((ks.map Value.string).drop (I + 1))) (fun w' k => by
              have := (S6.out.kept k).from (List.Mem.tail _ (List.Mem.head _)) (I + 1) (n - (I + 1)) (kc - (I + 1)) (by omega) AK (HAK.out)
              rwa [List.take_of_length_le (by rw [List.length_drop, List.length_map, HT.out.2.1]; exact Nat.le_refl _)] at this)
            have KK := Lib.hid kK1
            have OK := Lib.hid oK1
            have GK := Lib.hid fK1
            clear kK1 oK1 fK1
            go_wp2_with fail
            go_region_held3 (fun _ => True) (exact trivial) (first
              | (refine step_chain (w0 := w5) rfl (.tmp 116) (.tmp 119) 26 rfl insS_und hiS hzS hsS hbS rfl _ _ 0 I [] _ (by simp [Act.eval]) (by simp [Act.eval]) KK.out OK.out GK.out (fun u hu => (oneSSI ks) u (List.mem_of_mem_take hu)) (by unfold maxLen; omega) (by omega) ?_; intro vK1 xK1 kkK1 ooK1 ggK1 nnK1; have KKK := Lib.hid kkK1; have OOK := Lib.hid ooK1; have NNK := Lib.hid nnK1; clear kkK1 ooK1 ggK1 nnK1)
              | (refine step_chain (w0 := w5) rfl (.tmp 120) (.tmp 124) 26 rfl insS_und hiS hzS hsS hbS rfl _ _ (0 + I) (n - (I + 1)) _ _ (by simp [Act.eval]) (by simp [Act.eval]) KKK.out OOK.out (FK.out _ KKK.out) (fun u hu => (oneSSI ks) u (List.mem_of_mem_drop hu)) (by unfold maxLen; omega) (by omega) ?_; intro vK2 xK2 kkK2 ooK2 ggK2 nnK2; have KLK := Lib.hid kkK2; have OLK := Lib.hid ooK2; have NLK := Lib.hid nnK2; clear kkK2 ooK2 ggK2 nnK2))
            obtain ⟨g2, c2, rfl⟩ := own_shown OLK.out (NLK.out (by simpa using NNK.out))
            have S7 := Lib.hid (S6.out.pushOwn KLK.out OLK.out)
            have kV1 : Kept (fun _ => False) xK2 (xK2.alloc (.cells #[] 3)).drew := ((Kept.refl _ xK2).alloc _).drew
            have oV1 : ((xK2.alloc (.cells #[] 3)).drew).ownsRow xK2.heap.size 3 1 (.slice (some ⟨xK2.heap.size, 0, none⟩) 0 0) 0 [] := own_empty (heap_alloc_new xK2 _) (Nat.le_refl _)
            have fV1 := (S7.out.kept kV1).from (List.Mem.tail _ (List.Mem.tail _ (List.Mem.tail _ (List.Mem.tail _ (List.Mem.head _))))) 0 I vc (by omega) ⟨h1, 0, none⟩ (Or.inr rfl)
            rw [List.drop_zero] at fV1
            have FV := Lib.hid (p := ∀ w', Kept (fun _ => False) xK2 w' → From w' (.slice (some AV) (n - (I + 1)) (vc - (I + 1))) (n - (I + 1)) ((vs.map (Value.int .i64)).drop (I + 1))) (fun w' k => by
              have := (S7.out.kept k).from (List.Mem.tail _ (List.Mem.tail _ (List.Mem.tail _ (List.Mem.tail _ (List.Mem.head _))))) (I + 1) (n - (I + 1)) (vc - (I + 1)) (by omega) AV (HAV.out)
              rwa [List.take_of_length_le (by rw [List.length_drop, List.length_map, HV.out]; exact Nat.le_refl _)] at this)
            have KV := Lib.hid kV1
            have OV := Lib.hid oV1
            have GV := Lib.hid fV1
            clear kV1 oV1 fV1
            go_wp2_with fail
            go_region_held3 (fun _ => True) (exact trivial) (first
              | (refine step_chain (w0 := xK2) rfl (.tmp 126) (.tmp 129) 27 rfl insI_und hiI hzI hsI hbI rfl _ _ 0 I [] _ (by simp [Act.eval]) (by simp [Act.eval]) KV.out OV.out GV.out (fun u hu => (oneVSI vs) u (List.mem_of_mem_take hu)) (by unfold maxLen; omega) (by omega) ?_; intro vV1 xV1 kkV1 ooV1 ggV1 nnV1; have KKV := Lib.hid kkV1; have OOV := Lib.hid ooV1; have NNV := Lib.hid nnV1; clear kkV1 ooV1 ggV1 nnV1)
              | (refine step_chain (w0 := xK2) rfl (.tmp 130) (.tmp 134) 27 rfl insI_und hiI hzI hsI hbI rfl _ _ (0 + I) (n - (I + 1)) _ _ (by simp [Act.eval]) (by simp [Act.eval]) KKV.out OOV.out (FV.out _ KKV.out) (fun u hu => (oneVSI vs) u (List.mem_of_mem_drop hu)) (by unfold maxLen; omega) (by omega) ?_; intro vV2 xV2 kkV2 ooV2 ggV2 nnV2; have KLV := Lib.hid kkV2; have OLV := Lib.hid ooV2; have NLV := Lib.hid nnV2; clear kkV2 ooV2 ggV2 nnV2))
            obtain ⟨h2, d2, rfl⟩ := own_shown OLV.out (NLV.out (by simpa using NNV.out))
            have S8 := Lib.hid (S7.out.pushOwn KLV.out OLV.out)
            go_wp2
            go_meet
            case rel =>
              have e1 : 0 + I + (n - (I + 1)) = n - 1 := by omega
              have e2 : I + (n - (I + 1)) = n - 1 := by omega
              have S9 := S8.out
              rw [e1] at S9
              refine ⟨p, _, n - 1, c2, _, d2, rfl, by rw [e2], by rw [e1], by omega, Lib.hid ⟨ks.eraseIdx I, vs.eraseIdx I, ?_, rising_erase HT.out.1 I, by rw [List.length_eraseIdx, if_pos (by rw [HT.out.2.1]; exact hin), HT.out.2.1], by omega, Or.inr ⟨_, _, rfl, rfl⟩⟩⟩
              have eK : (ks.eraseIdx I).map Value.string = [] ++ List.take I (ks.map Value.string) ++ List.drop (I + 1) (ks.map Value.string) := by simp [List.eraseIdx_eq_take_drop_succ, List.map_take, List.map_drop]
              have eV : (vs.eraseIdx I).map (Value.int .i64) = [] ++ List.take I (vs.map (Value.int .i64)) ++ List.drop (I + 1) (vs.map (Value.int .i64)) := by simp [List.eraseIdx_eq_take_drop_succ, List.map_take, List.map_drop]
              rw [eK, eV]
              exact Sep.front (os := [_, _, _]) S9.third.third.swap
          | false =>
            as_aux_lemma =>
            have cdr := sDropSI y S5.out.third.third hn1 HT.out.1
            have e1 : dropK lsS ks y = ks := by unfold dropK; rw [if_neg (by rw [HB.out]; simp)]
            have e2 : dropV lsS ks vs y = vs := by unfold dropV; rw [if_neg (by rw [HB.out]; simp)]
            rw [e1, e2, HB.out] at cdr
            clear e1 e2
            go_wp2_with fail
            go_at_call 8
            refine cdr.mono ?_
            clear cdr
            rintro e w5 ⟨rfl, S⟩
            have S6 := Lib.hid S
            have c1 := S.blk (j := 0) (u := .int .i64 2) (List.Mem.tail _ (List.Mem.tail _ (List.Mem.head _))) rfl
            clear S S5 b0 b1 b2
            go_wp2
            go_meet
            case rel => exact ⟨p, ka, n, kc, va, vc, rfl, rfl, rfl, by omega, Lib.hid ⟨ks, vs, S6.out.third.tail', HT.out.1, HT.out.2.1, by omega, HT.out.2.2⟩⟩
        by_cases o3 : op = 3
        · subst o3
          as_aux_lemma =>
          go_wp2_with fail
          go_at_call 9
          refine (sTwinSI S5.out (List.Mem.tail _ (List.Mem.head _)) hn1).mono ?_
          rintro e w5 ⟨t, rfl, S⟩
          have S6 := Lib.hid S.third
          clear S S5 b0 b1 b2
          go_wp2_with fail
          go_at_call 7
          refine (sPutSI _ 1 S6.out hn1 HT.out.1).mono ?_
          rintro e w6 ⟨rfl, S⟩
          have S7 := Lib.hid S
          have c1 := S.blk (j := 1) (u := .string y) (List.Mem.tail _ (List.Mem.tail _ (List.Mem.head _))) rfl
          have c2 := S.blk (j := 2) (u := .int .i64 v) (List.Mem.tail _ (List.Mem.tail _ (List.Mem.head _))) rfl
          clear S S6
          go_wp2_with fail
          go_at_call 7
          refine (sPutSI y _ S7.out (by have := length_putK_le (less := lsS) ks ⟨#[122, 122]⟩; have := HT.out.2.1; omega) (rising_putK strictS HT.out.1 _)).mono ?_
          rintro e w7 ⟨rfl, S⟩
          have S8 := Lib.hid S
          clear S S7 c1 c2
          go_wp2
          go_meet
          case rel => exact ⟨t, ka, n, kc, va, vc, rfl, rfl, rfl, by omega, Lib.hid ⟨ks, vs, S8.out.tail.swap.tail, HT.out.1, HT.out.2.1, by omega, HT.out.2.2⟩⟩
        as_aux_lemma =>
        have o1' : (op == 1) = false := by simpa using o1
        have o2' : (op == 2) = false := by simpa using o2
        have o3' : (op == 3) = false := by simpa using o3
        clear b0 b1 b2
        go_wp2
        go_meet
        case rel => exact ⟨p, ka, n, kc, va, vc, rfl, rfl, rfl, by omega, Lib.hid ⟨ks, vs, S5.out.tail, HT.out.1, HT.out.2.1, by omega, HT.out.2.2⟩⟩
      case rest =>
        as_aux_lemma =>
        obtain ⟨p', ka', n', kc', va', vc', rfl, rfl, rfl, hn', T⟩ := hcut
        clear S5 HT HI HB HC HZ
        obtain ⟨ks2, vs2, S, hr2, hkn2, hn2, hb2⟩ := T.out
        have hvl := ObSI.len S (List.Mem.head _)
        have HT2 := Lib.hid (p := Rising lsS ks2 ∧ ks2.length = n' ∧ Both2 ka' va' n' kc' vc' ∧ vs2.length = n') ⟨hr2, hkn2, hb2, by rw [hvl, hkn2]⟩
        have S6 := Lib.hid S
        clear S hr2 hkn2 hn2 hb2 hvl T
        have K1 := sKeysSI S6.out (List.Mem.head _) (by rw [HT2.out.2.1]; omega)
        rw [HT2.out.2.1] at K1
        go_wp2_with fail
        go_at_call 10
        refine K1.mono ?_
        clear K1
        rintro e w5 ⟨g, cx, rfl, S⟩
        have S7 := Lib.hid S
        have L1 := sLenSI S (List.Mem.tail _ (List.Mem.head _))
        rw [HT2.out.2.1] at L1
        clear S S6
        go_wp2_with (go_at_call 11; refine L1.mono ?_; rintro e w6 ⟨rfl, rfl⟩)
        clear L1
        go_loopg [16] n' (fun g2 s16 wx => ∃ j : Nat, s16 = .int .i64 j ∧ j ≤ n' ∧ n' - j ≤ g2 ∧ Hid (Sep W wx [RowOb 9 (.slice (some ⟨g, 0, none⟩) n' cx) n' (ks2.map Value.string), ObSI p' ks2 vs2, RowOb 9 (.slice ka' n' kc') n' (ks2.map Value.string), RowOb 3 (.slice va' n' vc') n' (vs2.map (Value.int .i64))]))
        case atStart => exact ⟨0, rfl, Nat.zero_le _, by omega, S7⟩
        case round =>
          obtain ⟨j, rfl, hj, hg2, S8⟩ := hrel
          clear S7
          by_cases hjn : j < n'
          · as_aux_lemma =>
            have hn0 : ¬ n' = 0 := by omega
            obtain ⟨g1, h1, rfl, rfl⟩ := HT2.out.2.2.1.resolve_left (fun h => hn0 h.2.2.1)
            have hx : ks2[j]? = some (ks2[j]'(by rw [HT2.out.2.1]; exact hjn)) := List.getElem?_eq_getElem _
            have hz : vs2[j]? = some (vs2[j]'(by rw [HT2.out.2.2.2]; exact hjn)) := List.getElem?_eq_getElem _
            generalize ks2[j]'(by rw [HT2.out.2.1]; exact hjn) = x at hx
            generalize vs2[j]'(by rw [HT2.out.2.2.2]; exact hjn) = z at hz
            have HG := Lib.hid (p := ∀ w', Sep W w' [RowOb 9 (.slice (some ⟨g, 0, none⟩) n' cx) n' (ks2.map Value.string), ObSI p' ks2 vs2, RowOb 9 (.slice (some ⟨g1, 0, none⟩) n' kc') n' (ks2.map Value.string), RowOb 3 (.slice (some ⟨h1, 0, none⟩) n' vc') n' (vs2.map (Value.int .i64))] → w'.cell? ⟨g, j, none⟩ = some (.string x) ∧ w'.cell? ⟨g1, j, none⟩ = some (.string x) ∧ w'.cell? ⟨h1, j, none⟩ = some (.int .i64 z)) (fun w' S =>
              ⟨S.cell (List.Mem.head _) (by rw [List.getElem?_map, hx]; rfl), S.cell (List.Mem.tail _ (List.Mem.tail _ (List.Mem.head _))) (by rw [List.getElem?_map, hx]; rfl), S.cell (List.Mem.tail _ (List.Mem.tail _ (List.Mem.tail _ (List.Mem.head _)))) (by rw [List.getElem?_map, hz]; rfl)⟩)
            have GE := Lib.hid (sGetSI (x := x) (v := z) S8.out (List.Mem.tail _ (List.Mem.head _)) (by rw [HT2.out.2.1]; omega) HT2.out.1 (List.mem_of_getElem? hx) (by rw [pos_of_at strictS HT2.out.1 hx]; exact hz))
            obtain ⟨e1, e2, e3⟩ := HG.out _ S8.out
            clear hx hz
            go_wp2_with fail
            go_at_call 12
            refine GE.out.mono ?_
            rintro e w6 ⟨rfl, S⟩
            have S9 := Lib.hid S
            clear e1 e2 e3
            obtain ⟨e1, e2, e3⟩ := HG.out _ S
            clear S S8 GE
            go_wp2_with fail
            go_quiet (fail)
            go_wp2
            go_roundg (n' - (j + 1))
            case measure => omega
            case rel => exact ⟨j + 1, by go_num, by omega, Nat.le_refl _, Lib.hid (S9.out.drewN _)⟩
          · obtain rfl : j = n' := by omega
            go_wp2
            go_roundg (len - (k + 1))
            case measure => omega
            case rel => exact ⟨k + 1, p', ka', j, kc', va', vc', rfl, rfl, rfl, by go_num, by omega, Nat.le_refl _, hn', Lib.hid ⟨ks2, vs2, S8.out.tail, HT2.out.1, HT2.out.2.1, hn', HT2.out.2.2.1⟩⟩
    · as_aux_lemma =>
      obtain rfl : k = len := by omega
      obtain ⟨ks, vs, S, hr, hkn, hn2, hb2⟩ := T.out
      have hvl := ObSI.len S (List.Mem.head _)
      have HT := Lib.hid (p := Rising lsS ks ∧ ks.length = n ∧ Both2 ka va n kc vc) ⟨hr, hkn, hb2⟩
      have S3 := Lib.hid S
      have hvn : vs.length = n := by rw [hvl, hkn]
      have HVN := Lib.hid hvn
      clear S hr hkn hn2 hb2 hvl T HC HZ hvn
      by_cases hin : 0 ≤ i ∧ i < (n : Int)
      · obtain ⟨j, rfl⟩ : ∃ j : Nat, i = (j : Int) := ⟨i.toNat, by omega⟩
        obtain ⟨hin1, hin2⟩ := hin
        obtain ⟨g1, h1, rfl, rfl⟩ := HT.out.2.2.resolve_left (fun h => by have := h.2.2.1; omega)
        have hx : ks[j]? = some (ks[j]'(by rw [HT.out.2.1]; omega)) := List.getElem?_eq_getElem _
        have hz : vs[j]? = some (vs[j]'(by rw [HVN.out]; omega)) := List.getElem?_eq_getElem _
        obtain ⟨x, hx2⟩ : ∃ x, ks[j]? = some x := ⟨_, hx⟩
        obtain ⟨z, hz2⟩ : ∃ z, vs[j]? = some z := ⟨_, hz⟩
        have cat := sAtSI (k := x) (v := z) S3.out (List.Mem.head _) (by rw [HT.out.2.1]; omega) hx2 hz2
        have HXZ := Lib.hid (And.intro hx2 hz2)
        have i3 : decide ((j : Int) < (n : Int)) = true := decide_eq_true hin2
        have i4 : decide (j < n) = true := decide_eq_true (by omega)
        have i5 : decide ((0 : Int) ≤ (j : Int)) = true := decide_eq_true hin1
        clear hx hz hx2 hz2
        go_wp2_with fail
        go_at_call 13
        refine cat.mono ?_
        clear cat
        rintro e w7 ⟨rfl, S⟩
        have S4 := Lib.hid S
        have cx := S.cell (j := j) (u := .string x) (List.Mem.tail _ (List.Mem.head _)) (by rw [List.getElem?_map, HXZ.out.1]; rfl)
        have cz := S.cell (j := j) (u := .int .i64 z) (List.Mem.tail _ (List.Mem.tail _ (List.Mem.head _))) (by rw [List.getElem?_map, HXZ.out.2]; rfl)
        clear S S3
        obtain ⟨I, hI⟩ : ∃ I, pos lsS ks q = I := ⟨_, rfl⟩
        obtain ⟨B, hB⟩ : ∃ B, has ks q = B := ⟨_, rfl⟩
        have HII := Lib.hid hI
        have hIn : I ≤ n := by rw [← hI, ← HT.out.2.1]; exact pos_le _ _
        cases B with
        | true =>
          have HM := Lib.hid ((has_iff ks q).1 hB)
          have hC := (mem_iff_pos strictS HT.out.1).1 HM.out
          rw [hI] at hC
          have HXci := Lib.hid hC
          have hIn2 : I < n := by have := (List.getElem?_eq_some_iff.1 hC).1; rw [HT.out.2.1] at this; exact this
          have hF : belowK lsS ks q = some q := by unfold belowK; rw [if_pos hB]
          have i0 : (0 : Int) ≤ (I : Int) := by omega
          have i1 : (I : Int) < (n : Int) := by omega
          have i2 : decide ((0 : Int) ≤ (I : Int)) = true := decide_eq_true i0
          have i6 : decide (I < n) = true := decide_eq_true hIn2
          as_aux_lemma =>
            have cat := at_any q _ (by omega) (S4.out.row (List.Mem.tail _ (List.Mem.head _))) HT.out.1
            rw [hI, hB] at cat
            clear hB
            have hN1 : ks.length ≤ 1000000 := by rw [HT.out.2.1]; omega
            go_wp2_with fail
            go_at_call 6
            refine cat.mono ?_
            clear cat
            rintro e w8 ⟨rfl, q8, rfl⟩
            have S5 := Lib.hid (S4.out.drewN q8)
            have cfl := sFloorSI (x := q) S5.out (List.Mem.head _) hN1 HT.out.1
            rw [hF] at cfl
            dsimp only at cfl
            clear S4 hF
            go_wp2_with fail
            go_at_call 14
            refine cfl.mono ?_
            clear cfl
            rintro e w9 ⟨rfl, S⟩
            have S6 := Lib.hid S
            clear S S5
            have cce := sCeilSI (x := q) S6.out (List.Mem.head _) hN1 HT.out.1
            rw [hI, hC] at cce
            dsimp only at cce
            clear hI hC
            go_wp2_with fail
            go_at_call 15
            refine cce.mono ?_
            clear cce
            rintro e w10 ⟨rfl, S⟩
            have S7 := Lib.hid S
            clear S S6
            have ci := S7.out.cell (j := I) (u := .string q) (List.Mem.tail _ (List.Mem.head _)) (by rw [List.getElem?_map, HXci.out]; rfl)
            have GT := Lib.hid (sGetSI (x := q) (v := vs[I]'(by rw [HVN.out]; exact hIn2)) S7.out (List.Mem.head _) hN1 HT.out.1 HM.out (by rw [HII.out]; exact List.getElem?_eq_getElem _))
            clear hN1
            go_wp2_with (go_at_call 12; refine GT.out.mono ?_; rintro e w11 ⟨rfl, S⟩; have S8 := Lib.hid S; clear S)
            go_ret
            exact ⟨rfl, S8.out.1⟩
        | false =>
          have hm : q ∉ ks := fun h => by rw [(has_iff ks q).2 h] at hB; cases hB
          have HM := Lib.hid hm
          clear hm
          rcases Nat.eq_zero_or_pos I with rfl | hpos
          · have hF : belowK lsS ks q = Option.none := by unfold belowK; rw [if_neg (by rw [hB]; simp), if_pos hI]
            by_cases hIn2 : 0 < n
            · skip
              obtain ⟨x0, hC⟩ : ∃ x, ks[0]? = some x := ⟨_, List.getElem?_eq_getElem (by rw [HT.out.2.1]; exact hIn2)⟩
              have HXci := Lib.hid hC
              have i6 : decide (0 < n) = true := decide_eq_true hIn2
              as_aux_lemma =>
                have cat := at_any q _ (by omega) (S4.out.row (List.Mem.tail _ (List.Mem.head _))) HT.out.1
                rw [hI, hB] at cat
                clear hB
                have hN1 : ks.length ≤ 1000000 := by rw [HT.out.2.1]; omega
                go_wp2_with fail
                go_at_call 6
                refine cat.mono ?_
                clear cat
                rintro e w8 ⟨rfl, q8, rfl⟩
                have S5 := Lib.hid (S4.out.drewN q8)
                have cfl := sFloorSI (x := q) S5.out (List.Mem.head _) hN1 HT.out.1
                rw [hF] at cfl
                dsimp only at cfl
                clear S4 hF
                go_wp2_with fail
                go_at_call 14
                refine cfl.mono ?_
                clear cfl
                rintro e w9 ⟨rfl, S⟩
                have S6 := Lib.hid S
                clear S S5
                have cce := sCeilSI (x := q) S6.out (List.Mem.head _) hN1 HT.out.1
                rw [hI, hC] at cce
                dsimp only at cce
                clear hI hC
                go_wp2_with fail
                go_at_call 15
                refine cce.mono ?_
                clear cce
                rintro e w10 ⟨rfl, S⟩
                have S7 := Lib.hid S
                clear S S6
                have ci := S7.out.cell (j := 0) (u := .string x0) (List.Mem.tail _ (List.Mem.head _)) (by rw [List.getElem?_map, HXci.out]; rfl)
                have GT := Lib.hid (sGetOutSI (x := q) S7.out (List.Mem.head _) hN1 HT.out.1 HM.out)
                clear hN1
                go_wp2_with (go_at_call 12; refine GT.out.mono ?_; rintro e w11 ⟨rfl, S⟩; have S8 := Lib.hid S; clear S)
                go_ret
                exact ⟨rfl, S8.out.1⟩
            · exfalso; omega
          · obtain ⟨j0, rfl⟩ : ∃ j, I = j + 1 := ⟨I - 1, by omega⟩
            skip
            obtain ⟨f, hf⟩ : ∃ f, ks[j0]? = some f := ⟨_, List.getElem?_eq_getElem (by rw [HT.out.2.1]; omega)⟩
            have HXcf := Lib.hid hf
            have hF : belowK lsS ks q = some f := by unfold belowK; rw [if_neg (by rw [hB]; simp), if_neg (by rw [hI]; omega), hI]; exact hf
            clear hf
            have j1 : (0 : Int) ≤ (j0 : Int) := by omega
            have j2 : (j0 : Int) < (n : Int) := by omega
            have j3 : decide ((0 : Int) ≤ (j0 : Int)) = true := decide_eq_true j1
            by_cases hIn2 : j0 + 1 < n
            · obtain ⟨x0, hC⟩ : ∃ x, ks[j0 + 1]? = some x := ⟨_, List.getElem?_eq_getElem (by rw [HT.out.2.1]; exact hIn2)⟩
              have HXci := Lib.hid hC
              have i0 : (0 : Int) ≤ (j0 : Int) + 1 := by omega
              have i1 : (j0 : Int) + 1 < (n : Int) := by omega
              have i6 : decide (j0 + 1 < n) = true := decide_eq_true hIn2
              have i7 : decide ((j0 : Int) + 1 < (n : Int)) = true := decide_eq_true i1
              as_aux_lemma =>
                have cat := at_any q _ (by omega) (S4.out.row (List.Mem.tail _ (List.Mem.head _))) HT.out.1
                rw [hI, hB] at cat
                clear hB
                have hN1 : ks.length ≤ 1000000 := by rw [HT.out.2.1]; omega
                go_wp2_with fail
                go_at_call 6
                refine cat.mono ?_
                clear cat
                rintro e w8 ⟨rfl, q8, rfl⟩
                have S5 := Lib.hid (S4.out.drewN q8)
                have cfl := sFloorSI (x := q) S5.out (List.Mem.head _) hN1 HT.out.1
                rw [hF] at cfl
                dsimp only at cfl
                clear S4 hF
                go_wp2_with fail
                go_at_call 14
                refine cfl.mono ?_
                clear cfl
                rintro e w9 ⟨rfl, S⟩
                have S6 := Lib.hid S
                clear S S5
                have cce := sCeilSI (x := q) S6.out (List.Mem.head _) hN1 HT.out.1
                rw [hI, hC] at cce
                dsimp only at cce
                clear hI hC
                go_wp2_with fail
                go_at_call 15
                refine cce.mono ?_
                clear cce
                rintro e w10 ⟨rfl, S⟩
                have S7 := Lib.hid S
                clear S S6
                have ci := S7.out.cell (j := j0 + 1) (u := .string x0) (List.Mem.tail _ (List.Mem.head _)) (by rw [List.getElem?_map, HXci.out]; rfl)
                have cf := S7.out.cell (j := j0) (u := .string f) (List.Mem.tail _ (List.Mem.head _)) (by rw [List.getElem?_map, HXcf.out]; rfl)
                have GT := Lib.hid (sGetOutSI (x := q) S7.out (List.Mem.head _) hN1 HT.out.1 HM.out)
                clear hN1
                go_wp2_with (go_at_call 12; refine GT.out.mono ?_; rintro e w11 ⟨rfl, S⟩; have S8 := Lib.hid S; clear S)
                go_ret
                exact ⟨rfl, S8.out.1⟩
            · obtain rfl : n = j0 + 1 := by omega
              have hC : ks[j0 + 1]? = Option.none := List.getElem?_eq_none (by rw [HT.out.2.1]; omega)
              as_aux_lemma =>
                have cat := at_any q _ (by omega) (S4.out.row (List.Mem.tail _ (List.Mem.head _))) HT.out.1
                rw [hI, hB] at cat
                clear hB
                have hN1 : ks.length ≤ 1000000 := by rw [HT.out.2.1]; omega
                go_wp2_with fail
                go_at_call 6
                refine cat.mono ?_
                clear cat
                rintro e w8 ⟨rfl, q8, rfl⟩
                have S5 := Lib.hid (S4.out.drewN q8)
                have cfl := sFloorSI (x := q) S5.out (List.Mem.head _) hN1 HT.out.1
                rw [hF] at cfl
                dsimp only at cfl
                clear S4 hF
                go_wp2_with fail
                go_at_call 14
                refine cfl.mono ?_
                clear cfl
                rintro e w9 ⟨rfl, S⟩
                have S6 := Lib.hid S
                clear S S5
                have cce := sCeilSI (x := q) S6.out (List.Mem.head _) hN1 HT.out.1
                rw [hI, hC] at cce
                dsimp only at cce
                clear hI hC
                go_wp2_with fail
                go_at_call 15
                refine cce.mono ?_
                clear cce
                rintro e w10 ⟨rfl, S⟩
                have S7 := Lib.hid S
                clear S S6
                have cf := S7.out.cell (j := j0) (u := .string f) (List.Mem.tail _ (List.Mem.head _)) (by rw [List.getElem?_map, HXcf.out]; rfl)
                have GT := Lib.hid (sGetOutSI (x := q) S7.out (List.Mem.head _) hN1 HT.out.1 HM.out)
                clear hN1
                go_wp2_with (go_at_call 12; refine GT.out.mono ?_; rintro e w11 ⟨rfl, S⟩; have S8 := Lib.hid S; clear S)
                go_ret
                exact ⟨rfl, S8.out.1⟩
      · have cat := sAtOutSI (i := i) S3.out (List.Mem.head _) (by rw [HT.out.2.1]; omega) (by rw [HT.out.2.1]; omega)
        by_cases hi0 : 0 ≤ i
        · have hi1 : ¬ i < (n : Int) := fun h => hin ⟨hi0, h⟩
          have i3 : decide (i < (n : Int)) = false := decide_eq_false hi1
          have i5 : decide ((0 : Int) ≤ i) = true := decide_eq_true hi0
          clear hin
          go_wp2_with fail
          go_at_call 13
          refine cat.mono ?_
          clear cat
          rintro e w7 ⟨rfl, S⟩
          have S4 := Lib.hid S
          clear S S3
          obtain ⟨I, hI⟩ : ∃ I, pos lsS ks q = I := ⟨_, rfl⟩
          obtain ⟨B, hB⟩ : ∃ B, has ks q = B := ⟨_, rfl⟩
          have HII := Lib.hid hI
          have hIn : I ≤ n := by rw [← hI, ← HT.out.2.1]; exact pos_le _ _
          cases B with
          | true =>
            have HM := Lib.hid ((has_iff ks q).1 hB)
            have hC := (mem_iff_pos strictS HT.out.1).1 HM.out
            rw [hI] at hC
            have HXci := Lib.hid hC
            have hIn2 : I < n := by have := (List.getElem?_eq_some_iff.1 hC).1; rw [HT.out.2.1] at this; exact this
            obtain ⟨g1, h1, rfl, rfl⟩ := HT.out.2.2.resolve_left (fun h => by have := h.2.2.1; omega)
            have hF : belowK lsS ks q = some q := by unfold belowK; rw [if_pos hB]
            have i0 : (0 : Int) ≤ (I : Int) := by omega
            have i1 : (I : Int) < (n : Int) := by omega
            have i2 : decide ((0 : Int) ≤ (I : Int)) = true := decide_eq_true i0
            have i6 : decide (I < n) = true := decide_eq_true hIn2
            as_aux_lemma =>
              have cat := at_any q _ (by omega) (S4.out.row (List.Mem.tail _ (List.Mem.head _))) HT.out.1
              rw [hI, hB] at cat
              clear hB
              have hN1 : ks.length ≤ 1000000 := by rw [HT.out.2.1]; omega
              go_wp2_with fail
              go_at_call 6
              refine cat.mono ?_
              clear cat
              rintro e w8 ⟨rfl, q8, rfl⟩
              have S5 := Lib.hid (S4.out.drewN q8)
              have cfl := sFloorSI (x := q) S5.out (List.Mem.head _) hN1 HT.out.1
              rw [hF] at cfl
              dsimp only at cfl
              clear S4 hF
              go_wp2_with fail
              go_at_call 14
              refine cfl.mono ?_
              clear cfl
              rintro e w9 ⟨rfl, S⟩
              have S6 := Lib.hid S
              clear S S5
              have cce := sCeilSI (x := q) S6.out (List.Mem.head _) hN1 HT.out.1
              rw [hI, hC] at cce
              dsimp only at cce
              clear hI hC
              go_wp2_with fail
              go_at_call 15
              refine cce.mono ?_
              clear cce
              rintro e w10 ⟨rfl, S⟩
              have S7 := Lib.hid S
              clear S S6
              have ci := S7.out.cell (j := I) (u := .string q) (List.Mem.tail _ (List.Mem.head _)) (by rw [List.getElem?_map, HXci.out]; rfl)
              have GT := Lib.hid (sGetSI (x := q) (v := vs[I]'(by rw [HVN.out]; exact hIn2)) S7.out (List.Mem.head _) hN1 HT.out.1 HM.out (by rw [HII.out]; exact List.getElem?_eq_getElem _))
              clear hN1
              go_wp2_with (go_at_call 12; refine GT.out.mono ?_; rintro e w11 ⟨rfl, S⟩; have S8 := Lib.hid S; clear S)
              go_ret
              exact ⟨rfl, S8.out.1⟩
          | false =>
            have hm : q ∉ ks := fun h => by rw [(has_iff ks q).2 h] at hB; cases hB
            have HM := Lib.hid hm
            clear hm
            rcases Nat.eq_zero_or_pos I with rfl | hpos
            · have hF : belowK lsS ks q = Option.none := by unfold belowK; rw [if_neg (by rw [hB]; simp), if_pos hI]
              by_cases hIn2 : 0 < n
              · obtain ⟨g1, h1, rfl, rfl⟩ := HT.out.2.2.resolve_left (fun h => by have := h.2.2.1; omega)
                obtain ⟨x0, hC⟩ : ∃ x, ks[0]? = some x := ⟨_, List.getElem?_eq_getElem (by rw [HT.out.2.1]; exact hIn2)⟩
                have HXci := Lib.hid hC
                have i6 : decide (0 < n) = true := decide_eq_true hIn2
                as_aux_lemma =>
                  have cat := at_any q _ (by omega) (S4.out.row (List.Mem.tail _ (List.Mem.head _))) HT.out.1
                  rw [hI, hB] at cat
                  clear hB
                  have hN1 : ks.length ≤ 1000000 := by rw [HT.out.2.1]; omega
                  go_wp2_with fail
                  go_at_call 6
                  refine cat.mono ?_
                  clear cat
                  rintro e w8 ⟨rfl, q8, rfl⟩
                  have S5 := Lib.hid (S4.out.drewN q8)
                  have cfl := sFloorSI (x := q) S5.out (List.Mem.head _) hN1 HT.out.1
                  rw [hF] at cfl
                  dsimp only at cfl
                  clear S4 hF
                  go_wp2_with fail
                  go_at_call 14
                  refine cfl.mono ?_
                  clear cfl
                  rintro e w9 ⟨rfl, S⟩
                  have S6 := Lib.hid S
                  clear S S5
                  have cce := sCeilSI (x := q) S6.out (List.Mem.head _) hN1 HT.out.1
                  rw [hI, hC] at cce
                  dsimp only at cce
                  clear hI hC
                  go_wp2_with fail
                  go_at_call 15
                  refine cce.mono ?_
                  clear cce
                  rintro e w10 ⟨rfl, S⟩
                  have S7 := Lib.hid S
                  clear S S6
                  have ci := S7.out.cell (j := 0) (u := .string x0) (List.Mem.tail _ (List.Mem.head _)) (by rw [List.getElem?_map, HXci.out]; rfl)
                  have GT := Lib.hid (sGetOutSI (x := q) S7.out (List.Mem.head _) hN1 HT.out.1 HM.out)
                  clear hN1
                  go_wp2_with (go_at_call 12; refine GT.out.mono ?_; rintro e w11 ⟨rfl, S⟩; have S8 := Lib.hid S; clear S)
                  go_ret
                  exact ⟨rfl, S8.out.1⟩
              · obtain rfl : n = 0 := by omega
                have hC : ks[0]? = Option.none := List.getElem?_eq_none (by rw [HT.out.2.1]; exact Nat.le_refl 0)
                as_aux_lemma =>
                  have cat := at_any q _ (by omega) (S4.out.row (List.Mem.tail _ (List.Mem.head _))) HT.out.1
                  rw [hI, hB] at cat
                  clear hB
                  have hN1 : ks.length ≤ 1000000 := by rw [HT.out.2.1]; omega
                  go_wp2_with fail
                  go_at_call 6
                  refine cat.mono ?_
                  clear cat
                  rintro e w8 ⟨rfl, q8, rfl⟩
                  have S5 := Lib.hid (S4.out.drewN q8)
                  have cfl := sFloorSI (x := q) S5.out (List.Mem.head _) hN1 HT.out.1
                  rw [hF] at cfl
                  dsimp only at cfl
                  clear S4 hF
                  go_wp2_with fail
                  go_at_call 14
                  refine cfl.mono ?_
                  clear cfl
                  rintro e w9 ⟨rfl, S⟩
                  have S6 := Lib.hid S
                  clear S S5
                  have cce := sCeilSI (x := q) S6.out (List.Mem.head _) hN1 HT.out.1
                  rw [hI, hC] at cce
                  dsimp only at cce
                  clear hI hC
                  go_wp2_with fail
                  go_at_call 15
                  refine cce.mono ?_
                  clear cce
                  rintro e w10 ⟨rfl, S⟩
                  have S7 := Lib.hid S
                  clear S S6
                  have GT := Lib.hid (sGetOutSI (x := q) S7.out (List.Mem.head _) hN1 HT.out.1 HM.out)
                  clear hN1
                  go_wp2_with (go_at_call 12; refine GT.out.mono ?_; rintro e w11 ⟨rfl, S⟩; have S8 := Lib.hid S; clear S)
                  go_ret
                  exact ⟨rfl, S8.out.1⟩
            · obtain ⟨j0, rfl⟩ : ∃ j, I = j + 1 := ⟨I - 1, by omega⟩
              obtain ⟨g1, h1, rfl, rfl⟩ := HT.out.2.2.resolve_left (fun h => by have := h.2.2.1; omega)
              obtain ⟨f, hf⟩ : ∃ f, ks[j0]? = some f := ⟨_, List.getElem?_eq_getElem (by rw [HT.out.2.1]; omega)⟩
              have HXcf := Lib.hid hf
              have hF : belowK lsS ks q = some f := by unfold belowK; rw [if_neg (by rw [hB]; simp), if_neg (by rw [hI]; omega), hI]; exact hf
              clear hf
              have j1 : (0 : Int) ≤ (j0 : Int) := by omega
              have j2 : (j0 : Int) < (n : Int) := by omega
              have j3 : decide ((0 : Int) ≤ (j0 : Int)) = true := decide_eq_true j1
              by_cases hIn2 : j0 + 1 < n
              · obtain ⟨x0, hC⟩ : ∃ x, ks[j0 + 1]? = some x := ⟨_, List.getElem?_eq_getElem (by rw [HT.out.2.1]; exact hIn2)⟩
                have HXci := Lib.hid hC
                have i0 : (0 : Int) ≤ (j0 : Int) + 1 := by omega
                have i1 : (j0 : Int) + 1 < (n : Int) := by omega
                have i6 : decide (j0 + 1 < n) = true := decide_eq_true hIn2
                have i7 : decide ((j0 : Int) + 1 < (n : Int)) = true := decide_eq_true i1
                as_aux_lemma =>
                  have cat := at_any q _ (by omega) (S4.out.row (List.Mem.tail _ (List.Mem.head _))) HT.out.1
                  rw [hI, hB] at cat
                  clear hB
                  have hN1 : ks.length ≤ 1000000 := by rw [HT.out.2.1]; omega
                  go_wp2_with fail
                  go_at_call 6
                  refine cat.mono ?_
                  clear cat
                  rintro e w8 ⟨rfl, q8, rfl⟩
                  have S5 := Lib.hid (S4.out.drewN q8)
                  have cfl := sFloorSI (x := q) S5.out (List.Mem.head _) hN1 HT.out.1
                  rw [hF] at cfl
                  dsimp only at cfl
                  clear S4 hF
                  go_wp2_with fail
                  go_at_call 14
                  refine cfl.mono ?_
                  clear cfl
                  rintro e w9 ⟨rfl, S⟩
                  have S6 := Lib.hid S
                  clear S S5
                  have cce := sCeilSI (x := q) S6.out (List.Mem.head _) hN1 HT.out.1
                  rw [hI, hC] at cce
                  dsimp only at cce
                  clear hI hC
                  go_wp2_with fail
                  go_at_call 15
                  refine cce.mono ?_
                  clear cce
                  rintro e w10 ⟨rfl, S⟩
                  have S7 := Lib.hid S
                  clear S S6
                  have ci := S7.out.cell (j := j0 + 1) (u := .string x0) (List.Mem.tail _ (List.Mem.head _)) (by rw [List.getElem?_map, HXci.out]; rfl)
                  have cf := S7.out.cell (j := j0) (u := .string f) (List.Mem.tail _ (List.Mem.head _)) (by rw [List.getElem?_map, HXcf.out]; rfl)
                  have GT := Lib.hid (sGetOutSI (x := q) S7.out (List.Mem.head _) hN1 HT.out.1 HM.out)
                  clear hN1
                  go_wp2_with (go_at_call 12; refine GT.out.mono ?_; rintro e w11 ⟨rfl, S⟩; have S8 := Lib.hid S; clear S)
                  go_ret
                  exact ⟨rfl, S8.out.1⟩
              · obtain rfl : n = j0 + 1 := by omega
                have hC : ks[j0 + 1]? = Option.none := List.getElem?_eq_none (by rw [HT.out.2.1]; omega)
                as_aux_lemma =>
                  have cat := at_any q _ (by omega) (S4.out.row (List.Mem.tail _ (List.Mem.head _))) HT.out.1
                  rw [hI, hB] at cat
                  clear hB
                  have hN1 : ks.length ≤ 1000000 := by rw [HT.out.2.1]; omega
                  go_wp2_with fail
                  go_at_call 6
                  refine cat.mono ?_
                  clear cat
                  rintro e w8 ⟨rfl, q8, rfl⟩
                  have S5 := Lib.hid (S4.out.drewN q8)
                  have cfl := sFloorSI (x := q) S5.out (List.Mem.head _) hN1 HT.out.1
                  rw [hF] at cfl
                  dsimp only at cfl
                  clear S4 hF
                  go_wp2_with fail
                  go_at_call 14
                  refine cfl.mono ?_
                  clear cfl
                  rintro e w9 ⟨rfl, S⟩
                  have S6 := Lib.hid S
                  clear S S5
                  have cce := sCeilSI (x := q) S6.out (List.Mem.head _) hN1 HT.out.1
                  rw [hI, hC] at cce
                  dsimp only at cce
                  clear hI hC
                  go_wp2_with fail
                  go_at_call 15
                  refine cce.mono ?_
                  clear cce
                  rintro e w10 ⟨rfl, S⟩
                  have S7 := Lib.hid S
                  clear S S6
                  have cf := S7.out.cell (j := j0) (u := .string f) (List.Mem.tail _ (List.Mem.head _)) (by rw [List.getElem?_map, HXcf.out]; rfl)
                  have GT := Lib.hid (sGetOutSI (x := q) S7.out (List.Mem.head _) hN1 HT.out.1 HM.out)
                  clear hN1
                  go_wp2_with (go_at_call 12; refine GT.out.mono ?_; rintro e w11 ⟨rfl, S⟩; have S8 := Lib.hid S; clear S)
                  go_ret
                  exact ⟨rfl, S8.out.1⟩
        · have i5 : decide ((0 : Int) ≤ i) = false := decide_eq_false hi0
          clear hin
          go_wp2_with fail
          go_at_call 13
          refine cat.mono ?_
          clear cat
          rintro e w7 ⟨rfl, S⟩
          have S4 := Lib.hid S
          clear S S3
          obtain ⟨I, hI⟩ : ∃ I, pos lsS ks q = I := ⟨_, rfl⟩
          obtain ⟨B, hB⟩ : ∃ B, has ks q = B := ⟨_, rfl⟩
          have HII := Lib.hid hI
          have hIn : I ≤ n := by rw [← hI, ← HT.out.2.1]; exact pos_le _ _
          cases B with
          | true =>
            have HM := Lib.hid ((has_iff ks q).1 hB)
            have hC := (mem_iff_pos strictS HT.out.1).1 HM.out
            rw [hI] at hC
            have HXci := Lib.hid hC
            have hIn2 : I < n := by have := (List.getElem?_eq_some_iff.1 hC).1; rw [HT.out.2.1] at this; exact this
            obtain ⟨g1, h1, rfl, rfl⟩ := HT.out.2.2.resolve_left (fun h => by have := h.2.2.1; omega)
            have hF : belowK lsS ks q = some q := by unfold belowK; rw [if_pos hB]
            have i0 : (0 : Int) ≤ (I : Int) := by omega
            have i1 : (I : Int) < (n : Int) := by omega
            have i2 : decide ((0 : Int) ≤ (I : Int)) = true := decide_eq_true i0
            have i6 : decide (I < n) = true := decide_eq_true hIn2
            as_aux_lemma =>
              have cat := at_any q _ (by omega) (S4.out.row (List.Mem.tail _ (List.Mem.head _))) HT.out.1
              rw [hI, hB] at cat
              clear hB
              have hN1 : ks.length ≤ 1000000 := by rw [HT.out.2.1]; omega
              go_wp2_with fail
              go_at_call 6
              refine cat.mono ?_
              clear cat
              rintro e w8 ⟨rfl, q8, rfl⟩
              have S5 := Lib.hid (S4.out.drewN q8)
              have cfl := sFloorSI (x := q) S5.out (List.Mem.head _) hN1 HT.out.1
              rw [hF] at cfl
              dsimp only at cfl
              clear S4 hF
              go_wp2_with fail
              go_at_call 14
              refine cfl.mono ?_
              clear cfl
              rintro e w9 ⟨rfl, S⟩
              have S6 := Lib.hid S
              clear S S5
              have cce := sCeilSI (x := q) S6.out (List.Mem.head _) hN1 HT.out.1
              rw [hI, hC] at cce
              dsimp only at cce
              clear hI hC
              go_wp2_with fail
              go_at_call 15
              refine cce.mono ?_
              clear cce
              rintro e w10 ⟨rfl, S⟩
              have S7 := Lib.hid S
              clear S S6
              have ci := S7.out.cell (j := I) (u := .string q) (List.Mem.tail _ (List.Mem.head _)) (by rw [List.getElem?_map, HXci.out]; rfl)
              have GT := Lib.hid (sGetSI (x := q) (v := vs[I]'(by rw [HVN.out]; exact hIn2)) S7.out (List.Mem.head _) hN1 HT.out.1 HM.out (by rw [HII.out]; exact List.getElem?_eq_getElem _))
              clear hN1
              go_wp2_with (go_at_call 12; refine GT.out.mono ?_; rintro e w11 ⟨rfl, S⟩; have S8 := Lib.hid S; clear S)
              go_ret
              exact ⟨rfl, S8.out.1⟩
          | false =>
            have hm : q ∉ ks := fun h => by rw [(has_iff ks q).2 h] at hB; cases hB
            have HM := Lib.hid hm
            clear hm
            rcases Nat.eq_zero_or_pos I with rfl | hpos
            · have hF : belowK lsS ks q = Option.none := by unfold belowK; rw [if_neg (by rw [hB]; simp), if_pos hI]
              by_cases hIn2 : 0 < n
              · obtain ⟨g1, h1, rfl, rfl⟩ := HT.out.2.2.resolve_left (fun h => by have := h.2.2.1; omega)
                obtain ⟨x0, hC⟩ : ∃ x, ks[0]? = some x := ⟨_, List.getElem?_eq_getElem (by rw [HT.out.2.1]; exact hIn2)⟩
                have HXci := Lib.hid hC
                have i6 : decide (0 < n) = true := decide_eq_true hIn2
                as_aux_lemma =>
                  have cat := at_any q _ (by omega) (S4.out.row (List.Mem.tail _ (List.Mem.head _))) HT.out.1
                  rw [hI, hB] at cat
                  clear hB
                  have hN1 : ks.length ≤ 1000000 := by rw [HT.out.2.1]; omega
                  go_wp2_with fail
                  go_at_call 6
                  refine cat.mono ?_
                  clear cat
                  rintro e w8 ⟨rfl, q8, rfl⟩
                  have S5 := Lib.hid (S4.out.drewN q8)
                  have cfl := sFloorSI (x := q) S5.out (List.Mem.head _) hN1 HT.out.1
                  rw [hF] at cfl
                  dsimp only at cfl
                  clear S4 hF
                  go_wp2_with fail
                  go_at_call 14
                  refine cfl.mono ?_
                  clear cfl
                  rintro e w9 ⟨rfl, S⟩
                  have S6 := Lib.hid S
                  clear S S5
                  have cce := sCeilSI (x := q) S6.out (List.Mem.head _) hN1 HT.out.1
                  rw [hI, hC] at cce
                  dsimp only at cce
                  clear hI hC
                  go_wp2_with fail
                  go_at_call 15
                  refine cce.mono ?_
                  clear cce
                  rintro e w10 ⟨rfl, S⟩
                  have S7 := Lib.hid S
                  clear S S6
                  have ci := S7.out.cell (j := 0) (u := .string x0) (List.Mem.tail _ (List.Mem.head _)) (by rw [List.getElem?_map, HXci.out]; rfl)
                  have GT := Lib.hid (sGetOutSI (x := q) S7.out (List.Mem.head _) hN1 HT.out.1 HM.out)
                  clear hN1
                  go_wp2_with (go_at_call 12; refine GT.out.mono ?_; rintro e w11 ⟨rfl, S⟩; have S8 := Lib.hid S; clear S)
                  go_ret
                  exact ⟨rfl, S8.out.1⟩
              · obtain rfl : n = 0 := by omega
                have hC : ks[0]? = Option.none := List.getElem?_eq_none (by rw [HT.out.2.1]; exact Nat.le_refl 0)
                as_aux_lemma =>
                  have cat := at_any q _ (by omega) (S4.out.row (List.Mem.tail _ (List.Mem.head _))) HT.out.1
                  rw [hI, hB] at cat
                  clear hB
                  have hN1 : ks.length ≤ 1000000 := by rw [HT.out.2.1]; omega
                  go_wp2_with fail
                  go_at_call 6
                  refine cat.mono ?_
                  clear cat
                  rintro e w8 ⟨rfl, q8, rfl⟩
                  have S5 := Lib.hid (S4.out.drewN q8)
                  have cfl := sFloorSI (x := q) S5.out (List.Mem.head _) hN1 HT.out.1
                  rw [hF] at cfl
                  dsimp only at cfl
                  clear S4 hF
                  go_wp2_with fail
                  go_at_call 14
                  refine cfl.mono ?_
                  clear cfl
                  rintro e w9 ⟨rfl, S⟩
                  have S6 := Lib.hid S
                  clear S S5
                  have cce := sCeilSI (x := q) S6.out (List.Mem.head _) hN1 HT.out.1
                  rw [hI, hC] at cce
                  dsimp only at cce
                  clear hI hC
                  go_wp2_with fail
                  go_at_call 15
                  refine cce.mono ?_
                  clear cce
                  rintro e w10 ⟨rfl, S⟩
                  have S7 := Lib.hid S
                  clear S S6
                  have GT := Lib.hid (sGetOutSI (x := q) S7.out (List.Mem.head _) hN1 HT.out.1 HM.out)
                  clear hN1
                  go_wp2_with (go_at_call 12; refine GT.out.mono ?_; rintro e w11 ⟨rfl, S⟩; have S8 := Lib.hid S; clear S)
                  go_ret
                  exact ⟨rfl, S8.out.1⟩
            · obtain ⟨j0, rfl⟩ : ∃ j, I = j + 1 := ⟨I - 1, by omega⟩
              obtain ⟨g1, h1, rfl, rfl⟩ := HT.out.2.2.resolve_left (fun h => by have := h.2.2.1; omega)
              obtain ⟨f, hf⟩ : ∃ f, ks[j0]? = some f := ⟨_, List.getElem?_eq_getElem (by rw [HT.out.2.1]; omega)⟩
              have HXcf := Lib.hid hf
              have hF : belowK lsS ks q = some f := by unfold belowK; rw [if_neg (by rw [hB]; simp), if_neg (by rw [hI]; omega), hI]; exact hf
              clear hf
              have j1 : (0 : Int) ≤ (j0 : Int) := by omega
              have j2 : (j0 : Int) < (n : Int) := by omega
              have j3 : decide ((0 : Int) ≤ (j0 : Int)) = true := decide_eq_true j1
              by_cases hIn2 : j0 + 1 < n
              · obtain ⟨x0, hC⟩ : ∃ x, ks[j0 + 1]? = some x := ⟨_, List.getElem?_eq_getElem (by rw [HT.out.2.1]; exact hIn2)⟩
                have HXci := Lib.hid hC
                have i0 : (0 : Int) ≤ (j0 : Int) + 1 := by omega
                have i1 : (j0 : Int) + 1 < (n : Int) := by omega
                have i6 : decide (j0 + 1 < n) = true := decide_eq_true hIn2
                have i7 : decide ((j0 : Int) + 1 < (n : Int)) = true := decide_eq_true i1
                as_aux_lemma =>
                  have cat := at_any q _ (by omega) (S4.out.row (List.Mem.tail _ (List.Mem.head _))) HT.out.1
                  rw [hI, hB] at cat
                  clear hB
                  have hN1 : ks.length ≤ 1000000 := by rw [HT.out.2.1]; omega
                  go_wp2_with fail
                  go_at_call 6
                  refine cat.mono ?_
                  clear cat
                  rintro e w8 ⟨rfl, q8, rfl⟩
                  have S5 := Lib.hid (S4.out.drewN q8)
                  have cfl := sFloorSI (x := q) S5.out (List.Mem.head _) hN1 HT.out.1
                  rw [hF] at cfl
                  dsimp only at cfl
                  clear S4 hF
                  go_wp2_with fail
                  go_at_call 14
                  refine cfl.mono ?_
                  clear cfl
                  rintro e w9 ⟨rfl, S⟩
                  have S6 := Lib.hid S
                  clear S S5
                  have cce := sCeilSI (x := q) S6.out (List.Mem.head _) hN1 HT.out.1
                  rw [hI, hC] at cce
                  dsimp only at cce
                  clear hI hC
                  go_wp2_with fail
                  go_at_call 15
                  refine cce.mono ?_
                  clear cce
                  rintro e w10 ⟨rfl, S⟩
                  have S7 := Lib.hid S
                  clear S S6
                  have ci := S7.out.cell (j := j0 + 1) (u := .string x0) (List.Mem.tail _ (List.Mem.head _)) (by rw [List.getElem?_map, HXci.out]; rfl)
                  have cf := S7.out.cell (j := j0) (u := .string f) (List.Mem.tail _ (List.Mem.head _)) (by rw [List.getElem?_map, HXcf.out]; rfl)
                  have GT := Lib.hid (sGetOutSI (x := q) S7.out (List.Mem.head _) hN1 HT.out.1 HM.out)
                  clear hN1
                  go_wp2_with (go_at_call 12; refine GT.out.mono ?_; rintro e w11 ⟨rfl, S⟩; have S8 := Lib.hid S; clear S)
                  go_ret
                  exact ⟨rfl, S8.out.1⟩
              · obtain rfl : n = j0 + 1 := by omega
                have hC : ks[j0 + 1]? = Option.none := List.getElem?_eq_none (by rw [HT.out.2.1]; omega)
                as_aux_lemma =>
                  have cat := at_any q _ (by omega) (S4.out.row (List.Mem.tail _ (List.Mem.head _))) HT.out.1
                  rw [hI, hB] at cat
                  clear hB
                  have hN1 : ks.length ≤ 1000000 := by rw [HT.out.2.1]; omega
                  go_wp2_with fail
                  go_at_call 6
                  refine cat.mono ?_
                  clear cat
                  rintro e w8 ⟨rfl, q8, rfl⟩
                  have S5 := Lib.hid (S4.out.drewN q8)
                  have cfl := sFloorSI (x := q) S5.out (List.Mem.head _) hN1 HT.out.1
                  rw [hF] at cfl
                  dsimp only at cfl
                  clear S4 hF
                  go_wp2_with fail
                  go_at_call 14
                  refine cfl.mono ?_
                  clear cfl
                  rintro e w9 ⟨rfl, S⟩
                  have S6 := Lib.hid S
                  clear S S5
                  have cce := sCeilSI (x := q) S6.out (List.Mem.head _) hN1 HT.out.1
                  rw [hI, hC] at cce
                  dsimp only at cce
                  clear hI hC
                  go_wp2_with fail
                  go_at_call 15
                  refine cce.mono ?_
                  clear cce
                  rintro e w10 ⟨rfl, S⟩
                  have S7 := Lib.hid S
                  clear S S6
                  have cf := S7.out.cell (j := j0) (u := .string f) (List.Mem.tail _ (List.Mem.head _)) (by rw [List.getElem?_map, HXcf.out]; rfl)
                  have GT := Lib.hid (sGetOutSI (x := q) S7.out (List.Mem.head _) hN1 HT.out.1 HM.out)
                  clear hN1
                  go_wp2_with (go_at_call 12; refine GT.out.mono ?_; rintro e w11 ⟨rfl, S⟩; have S8 := Lib.hid S; clear S)
                  go_ret
                  exact ⟨rfl, S8.out.1⟩

end Go.Proofs.Ytbabkdeppcfcnaa
