/-
 No statement: what AggEvalCard needs, of the texts OW2.
-/
import Derived.Test.YtapcjnoaofmmiaaGreatDoorVE16
namespace Go.Proofs.YtapcjnoaofmmiaaGreatDoor.Wr
section
section
open Go.RowKit
set_option maxRecDepth 100000 in
set_option maxHeartbeats 2000000 in
theorem cY (k n : Int) (s : ByteArray) (hm : s.size <= 281474976710656) (a : Option Addr) (len cap : Nat) (z : Nat -> Int) (w : World) (hr : Reads w a len z) :
 Calls Tryz.prog 125 #[val k n s (.slice a len cap)] w fun e w' => e = .returned (.int .i64 (tI k s len z)) /\ Below w.heap.size w w' := by
 unfold val
 by_cases h1 : k = 1
 · subst h1
   go_enter Tryz.func125, Tryz.ntmps125
   go_wp2_with fail
   go_ret;exact ⟨rfl, (Below.refl _ _).alloc (Nat.le_refl _) _⟩
 have h1' : (k == 1) = false := by simpa using h1
 by_cases h2 : k = 2
 · subst h2
   have hlen : s.data.toList.length = s.size := by simp
   rw [show tI 2 s len z = Fh s.data.toList from rfl]
   by_cases hl : 64 < s.size
   · have R := aA (show Fh s.data.toList = 4 by unfold Fh; rw [hlen, if_pos hl])
     clear hr hlen h1 h1'
     go_enter Tryz.func125, Tryz.ntmps125
     go_wp2
     go_ret;exact ⟨cD R.out.symm, (Below.refl _ _).alloc (Nat.le_refl _) _⟩
   · have R := aA (show Fh s.data.toList = if s.data.toList.any tU then 2 else 0 by unfold Fh; rw [hlen, if_neg hl])
     clear hlen hr h1 h1'
     go_enter Tryz.func125, Tryz.ntmps125
     go_wp2
     go_loop [3] (fun i => ∃ k : Nat, k <= s.size /\ i = .int .i64 k /\ Hid (∀ j (hj : j < s.size), j < k -> tU s[j] = false)) (fun i => s.size - (intOf i).toNat)
     case atStart => exact ⟨0, Nat.zero_le _, rfl, aA (fun j _ h => by omega)⟩
     case round =>
      obtain ⟨k, hk, rfl, hok⟩ := hrel
      by_cases hlt : k < s.size
      · obtain ⟨c, hc⟩ : ∃ c : Int, (s[k].toNat : Int) = c := ⟨_, rfl⟩
        have hb : tU s[k] = (decide (c < 32) || decide (126 < c) || decide (c = 34)) := by unfold tU; rw [hc]
        have hcase : c < 32 \/ 126 < c \/ c = 34 \/ (32 <= c /\ c <= 126 /\ ¬ c = 34) := by omega
        rcases hcase with h1 | h1 | h1 | ⟨h1, h2, h3⟩
        · have h2 := h1
          have R2 := aA (R.out.trans (by rw [if_pos (tY hlt (by rw [hb]; first | (simp; done) | (simp; omega)))]));clear hb R hok
          go_wp2
          go_ret;exact ⟨cD R2.out.symm, (Below.refl _ _).alloc (Nat.le_refl _) _⟩
        · have h2 : ¬ c < 32 := by omega
          have R2 := aA (R.out.trans (by rw [if_pos (tY hlt (by rw [hb]; first | (simp; done) | (simp; omega)))]));clear hb R hok
          go_wp2
          go_ret;exact ⟨cD R2.out.symm, (Below.refl _ _).alloc (Nat.le_refl _) _⟩
        · subst h1
          have R2 := aA (R.out.trans (by rw [if_pos (tY hlt (by rw [hb]; first | (simp; done) | (simp; omega)))]));clear hb R hok
          go_wp2
          go_ret;exact ⟨cD R2.out.symm, (Below.refl _ _).alloc (Nat.le_refl _) _⟩
        · have hok1 := aA (show ∀ j (hj : j < s.size), j < k + 1 -> tU s[j] = false from fun j hj hjk => by
           by_cases e : j = k
           · subst e; rw [hb]; simp; omega
           · exact hok.out j hj (by omega))
          have h4 : (c == 34) = false := by simpa using h3
          clear hb h3
          go_wp2
          go_round
          case rel => exact ⟨k + 1, by omega, by go_num, hok1⟩
          case measure => simp [intOf]; omega
      · go_wp2
        go_ret;exact ⟨cD (by rw [R.out, LA fun j hj => hok.out j hj (by omega)]; rfl), (Below.refl _ _).alloc (Nat.le_refl _) _⟩
 have h2' : (k == 2) = false := by simpa using h2
 by_cases h3 : k = 3
 · subst h3
   rw [show tI 3 s len z = Fi (fW z len) from rfl];obtain ⟨hmax, hr⟩ := hr;unfold maxLen at hmax;have hlen := kE z len
   by_cases hl : 16 < len
   · have R := aA (show Fi (fW z len) = 4 by unfold Fi; rw [hlen, if_pos hl])
     clear hr hlen h1 h1' h2 h2'
     go_enter Tryz.func125, Tryz.ntmps125
     go_wp2
     go_ret;exact ⟨cD R.out.symm, (Below.refl _ _).alloc (Nat.le_refl _) _⟩
   · have R := aA (show Fi (fW z len) = if lG (fW z len) then 0 else 2 by unfold Fi; rw [hlen, if_neg hl])
     clear hlen h1 h1' h2 h2';obtain ⟨W0, hW0⟩ : ∃ W0, w.alloc (.cells #[.int .i64 3, .int .i64 n, .string s, .slice a len cap] 56) = W0 := ⟨_, rfl⟩;have hbl : Below w.heap.size w W0 := by rw [<- hW0]; exact (Below.refl _ _).alloc (Nat.le_refl _) _
     have BL := aA hbl
     rcases hr with rfl | ⟨b, off, rfl, hc⟩
     · clear hbl hW0
       go_enter Tryz.func125, Tryz.ntmps125
       go_wp2
       go_loop [4] (fun i => i = .int .i64 1) (fun _ => 0)
       case atStart => rfl
       case round =>
        subst hrel
        go_wp2
        go_ret;exact ⟨cD (by rw [R.out]; rfl), (Below.refl _ _).alloc (Nat.le_refl _) _⟩
     · have hcc := aA (show ∀ j, j < len -> W0.cell? ⟨b, off + j, none⟩ = some (.int .i64 (z j)) from fun j hj => (hbl.cell (p := ⟨b, off + j, none⟩) (World.block_lt_of_cell? w _ (hc j hj))).trans (hc j hj))
       subst hW0;clear hc hbl
       go_enter Tryz.func125, Tryz.ntmps125
       go_wp2
       go_loopw [4] (fun i wr => ∃ k : Nat, 1 <= k /\ (k <= len \/ k = 1) /\ i = .int .i64 k /\ Hid (∀ j, j + 1 < k -> j + 1 < len -> z j < z (j + 1)) /\ Hid (∃ n0, wr = (w.alloc (.cells #[.int .i64 3, .int .i64 n, .string s, .slice (some ⟨b, off, none⟩) len cap] 56)).drewN n0)) (fun i _ => len - (intOf i).toNat)
       case atStart => exact ⟨1, Nat.le_refl _, .inr rfl, rfl, aA (fun j h => by omega), aA ⟨0, rfl⟩⟩
       case round =>
        obtain ⟨k, h1, hk, rfl, hok, hw⟩ := hrel;obtain ⟨n0, rfl⟩ := hw.out
        by_cases hlt : k < len
        · have c1 := hcc.out k hlt
          have c0 := hcc.out (k - 1) (by omega);have e1 : IntKind.i64.wrap ((k : Int) - 1) = (k : Int) - 1 := IntWalk.i64_in _ (by omega);have e2 : 0 <= (k : Int) - 1 := by omega
          have e3 : ((k : Int) - 1).toNat = k - 1 := by omega
          have e4 : (k : Int) - 1 < len := by omega
          by_cases hz : z k <= z (k - 1)
          · have hno := aA (show ¬ lG (fW z len) = true from fun h => by
             have := sL.1 h (k - 1) (by omega);rw [show k - 1 + 1 = k by omega] at this;omega)
            go_wp2
            go_quiet (fail)
            clear e1 e2 e3 e4
            go_wp2
            go_ret;exact ⟨cD (by rw [R.out, if_neg hno.out]), BL.out.trans ⟨rfl, rfl, rfl, Nat.le_refl _, fun _ _ => rfl⟩⟩
          · have hok1 := aA (show ∀ j, j + 1 < k + 1 -> j + 1 < len -> z j < z (j + 1) from fun j hj hl => by
             by_cases e : j + 1 = k
             · rw [e, show j = k - 1 by omega]; omega
             · exact hok.out j (by omega) hl)
            go_wp2
            go_quiet (fail)
            clear e1 e2 e3 e4
            go_wp2
            go_roundw
            case rel => exact ⟨k + 1, by omega, .inl (by omega), by go_num, hok1, aA ⟨_, rfl⟩⟩
            case measure => simp [intOf]; omega
        · go_wp2
          go_ret;exact ⟨cD (by rw [R.out, if_pos (sL.2 fun j hj => hok.out j (by omega) hj)]), BL.out.trans ⟨rfl, rfl, rfl, Nat.le_refl _, fun _ _ => rfl⟩⟩
 have h3' : (k == 3) = false := by simpa using h3
 have R := aA (show tI k s len z = 7 by unfold tI; rw [if_neg h1, if_neg h2, if_neg h3]);clear h1 h2 h3 hr
 go_enter Tryz.func125, Tryz.ntmps125
 go_wp2_with fail
 go_ret;exact ⟨cD R.out.symm, (Below.refl _ _).alloc (Nat.le_refl _) _⟩
end
section
open Go.RowKit
abbrev tv (l : List UInt8) : Value := .string ⟨l.toArray⟩
theorem I2 {w : World} {e : TypeId} {B g n c : Nat} {xs : List Value} (h : w.ownsRow B e 1 (.slice (some ⟨g, 0, none⟩) n c) n xs) (i : Nat) (_hi : i < n) (u : Value) :
 (w.setCell ⟨g, i, none⟩ u).ownsRow B e 1 (.slice (some ⟨g, 0, none⟩) n c) n (xs.set i u) /\ B <= g := by
 refine ⟨⟨by rw [List.length_set]; exact h.1, ?_⟩, ?_⟩
 · rcases h.2 with ⟨h1, _⟩ | ⟨g', cap', cur, h1, hb, hg, hn, hm, hs, ht⟩
   · simp at h1
   · simp only [Value.slice.injEq, Option.some.injEq, Addr.mk.injEq] at h1
     obtain ⟨⟨rfl, -⟩, -, rfl⟩ := h1;refine .inr ⟨g, c, cur.setIfInBounds i u, rfl, hb, heap_setCell_same w g i cur e u hg, hn, hm, by simpa using hs, ?_⟩;rw [<- ht];simp [List.take_set]
 · rcases h.2 with ⟨h1, _⟩ | ⟨g', cap', cur, h1, hb, _⟩
   · simp at h1
   · simp only [Value.slice.injEq, Option.some.injEq, Addr.mk.injEq] at h1
     obtain ⟨⟨rfl, -⟩, -, rfl⟩ := h1;exact hb
theorem Aj {w : World} {e : TypeId} {B g n c : Nat} {xs : List Value} (h : w.ownsRow B e 1 (.slice (some ⟨g, 0, none⟩) n c) n xs) {j : Nat} {v : Value} (hj : xs[j]? = some v) : w.cell? ⟨g, j, none⟩ = some v /\ w.frozen? ⟨g, j, none⟩ = false := by
 rcases h.2 with ⟨h1, _⟩ | ⟨g', cap', cur, h1, hb, hg, hn, hm, hs, ht⟩
 · simp at h1
 · simp only [Value.slice.injEq, Option.some.injEq, Addr.mk.injEq] at h1
   obtain ⟨⟨rfl, -⟩, -, rfl⟩ := h1;rw [Nat.mul_one] at ht;exact ⟨eM hg ht hj, frozen_of_row w g j _ _ hg⟩
theorem bW {W : World} {base : Nat} {e : TypeId} {size : Nat} {v : Value} {k : Nat} {xs : List Value} (h : W.ownsRow base e size v k xs) : ∃ a cap, v = .slice a k cap := by
 rcases h.2 with ⟨rfl, rfl⟩ | ⟨g, cap, _, rfl, _⟩
 · exact ⟨_, _, rfl⟩
 · exact ⟨_, _, rfl⟩
theorem Ju : (Tryz.prog.info? 9).map (fun i => (i.zero, i.size, i.bytes)) = some (some (.string ⟨#[]⟩), 1, 16) := by kernel_rfl
theorem Dv (a : List UInt8) (s : ByteArray) (k : Nat) (hk : k < s.size) : (⟨a.toArray⟩ : ByteArray) ++ s.extract k (k + 1) = ⟨(a ++ [s[k]]).toArray⟩ := by
 apply iV
 have h : (s.extract k (k + 1)).data.toList = [s[k]] := by
  rw [ByteArray.data_extract, Array.toList_extract];show (s.data.toList.drop k).take (k + 1 - k) = _;rw [List.drop_eq_getElem_cons (by simpa using hk), show k + 1 - k = 1 by omega];rfl
 show (_ ++ _ : ByteArray).data.toList = _;rw [ByteArray.data_append, Array.toList_append, h]
end
section
open Go.RowKit
theorem uT : ∀ l : List UInt8, ∃ q a, fT l = q ++ [a] /\ fT (l ++ [47]) = q ++ [a] ++ [[]] /\ ∀ c, ¬ c = 47 -> fT (l ++ [c]) = q ++ [a ++ [c]]
 | [] => ⟨[], [], rfl, rfl, fun c hc => by rw [List.nil_append, fB hc [] (a := []) (b := []) rfl]; rfl⟩
 | d :: l => by
   obtain ⟨q, a, h0, h1, h2⟩ := uT l
   by_cases hd : d = 47
   · subst hd
     refine ⟨[] :: q, a, ?_, ?_, fun c hc => ?_⟩
     · rw [gX, h0]; rfl
     · rw [List.cons_append, gX, h1]; rfl
     · rw [List.cons_append, gX, h2 c hc]; rfl
   · cases q with
     | nil =>
       refine ⟨[], d :: a, ?_, ?_, fun c hc => ?_⟩
       · rw [fB hd l h0]; rfl
       · rw [List.cons_append, fB hd _ h1]; rfl
       · rw [List.cons_append, fB hd _ (h2 c hc)]; rfl
     | cons b q =>
       refine ⟨(d :: b) :: q, a, ?_, ?_, fun c hc => ?_⟩
       · rw [fB hd l h0]; rfl
       · rw [List.cons_append, fB hd _ h1]; rfl
       · rw [List.cons_append, fB hd _ (h2 c hc)]; rfl
theorem kK : ∀ (l : List UInt8), ∀ x ∈ fT l, x.length <= l.length
 | [], x, h => by simp [fT] at h; subst h; simp
 | c :: l, x, h => by
   by_cases hc : c = 47
   · subst hc
     rw [gX] at h
     rcases List.mem_cons.1 h with rfl | h
     · simp
     · have := kK l x h; simp; omega
   · obtain ⟨a, q, e⟩ := Cv l
     rw [fB hc l e] at h
     rcases List.mem_cons.1 h with rfl | h
     · have := kK l a (by rw [e]; simp); simp; omega
     · have := kK l x (by rw [e]; simp [h]); simp; omega
theorem zI (l : List UInt8) : (fT l).length <= l.length + 1 := by
 induction l with
 | nil => simp [fT]
 | cons c l ih =>
   by_cases h : c = 47
   · subst h; rw [gX]; simp; omega
   · obtain ⟨a, q, e⟩ := Cv l
     rw [fB h l e];rw [e] at ih;simp at ih |-; omega
def pW (l : List UInt8) : List Value := (fT l).map tv
set_option maxRecDepth 100000 in
set_option maxHeartbeats 2000000 in
theorem Gp (s : ByteArray) (h1 : 2 <= s.size) (h0 : s[0] = 47) (hm : s.size <= 1000) (w : World) : Calls Tryz.prog 224 #[.string s] w fun e w' => (∃ v, e = .returned (.tuple #[v, .bool true]) /\ w'.ownsRow w.heap.size 9 1 v (pW (s.data.toList.drop 1)).length (pW (s.data.toList.drop 1))) /\ Below w.heap.size w w' := by
 have e0 : ((s[0].toNat : Int) != 47) = false := by rw [h0]; decide
 have e1 := uZ (s := s) (by omega);have e2 := I9 h1 47;have e3 : (s.toList == (⟨#[47]⟩ : ByteArray).toList) = false := by simpa [Lib.toList_data] using e2
 obtain ⟨B, hB⟩ : ∃ B, w.heap.size = B := ⟨_, rfl⟩;obtain ⟨i0, hi0, hz0, hz1, hz2⟩ := info_parts Ju
 have own0 : (w.alloc (.cells #[.string ⟨#[]⟩] 9)).ownsRow B 9 1 (.slice (some ⟨B, 0, none⟩) 1 1) (pW ((s.data.toList.take 1).drop 1)).length (pW ((s.data.toList.take 1).drop 1)) := by
  rw [show (s.data.toList.take 1).drop 1 = [] by simp];refine ⟨rfl, .inr ⟨B, 1, #[.string ⟨#[]⟩], rfl, by omega, by rw [<- hB]; exact World.alloc_heap_new w _, Nat.le_refl _, by unfold maxLen; omega, rfl, rfl⟩⟩
 have O := aA own0;have BL := aA (show Below B w (w.alloc (.cells #[.string ⟨#[]⟩] 9)) from (Below.refl _ _).alloc (by omega) _);clear h0 own0;rw [hB]
 go_enter Tryz.func224, Tryz.ntmps224
 go_wp2_with fail
 go_loopw [4, 5] (fun v i wr => ∃ k : Nat, 1 <= k /\ k <= s.size /\ i = .int .i64 k /\ Hid (wr.ownsRow B 9 1 v (pW ((s.data.toList.take k).drop 1)).length (pW ((s.data.toList.take k).drop 1))) /\ Hid (Below B w wr)) (fun _ i _ => s.size - (intOf i).toNat)
 case atStart => exact ⟨1, Nat.le_refl _, by omega, rfl, O, BL⟩
 case round =>
  obtain ⟨k, hk1, hk, rfl, ho, hb⟩ := hrel;have hbs : B <= wr.heap.size := by have := hb.out.size; omega
  by_cases hlt : k < s.size
  · obtain ⟨q, a, g0, g1, g2⟩ := uT ((s.data.toList.take k).drop 1)
    have hnx : (s.data.toList.take (k + 1)).drop 1 = (s.data.toList.take k).drop 1 ++ [s[k]] := by
     have hk' : k < s.data.toList.length := by simpa using hlt
     rw [List.take_succ_eq_append_getElem hk', List.drop_append_of_le_length (by simp; omega)];rfl
    have hql : q.length <= 1000 := by
     have := zI ((s.data.toList.take k).drop 1);rw [g0] at this;simp at this; omega
    have hal : a.length <= 1000 := by
     have h := kK ((s.data.toList.take k).drop 1) a (by rw [g0]; simp);simp at h; omega
    have hoo := ho.out;obtain ⟨Q, hQ⟩ : ∃ Q, q.map tv = Q := ⟨_, rfl⟩;have hQl : Q.length <= 1000 := by rw [<- hQ, List.length_map]; exact hql
    have hseg : pW ((s.data.toList.take k).drop 1) = Q ++ [tv a] := by unfold pW; rw [g0, List.map_append, hQ]; rfl
    rw [hseg] at hoo;obtain ⟨N, hN⟩ : ∃ N, Q.length = N := ⟨_, rfl⟩;rw [List.length_append, hN, show [tv a].length = 1 from rfl] at hoo;obtain ⟨g, cap, rfl⟩ := ownsRow_succ hoo;have HO := aA hoo;rw [hN] at hQl
    by_cases hc : s[k] = 47
    · have hnew := aA (show pW ((s.data.toList.take (k + 1)).drop 1) = Q ++ [tv a] ++ [.string ⟨#[]⟩] by unfold pW; rw [hnx, hc, g1, List.map_append, List.map_append, hQ]; rfl)
      have hml := aA (show N + 1 + 1 <= maxLen by unfold maxLen; omega);have hlen := aA (show (Q ++ [tv a] ++ [Value.string ⟨#[]⟩]).length = N + 1 + 1 by simp [hN]);have q47 : ((s[k].toNat : Int) == 47) = true := by rw [hc]; decide
      clear hoo g0 g1 g2 hnx hseg hQ hN hc hql ho
      go_wp2_with (at_builtin; refine wpList_append_own _ rfl _ _ 118 rfl B 9 i0 (.string ⟨#[]⟩) 1 16 Tryz.underlying118 hi0 hz0 hz1 hz2 rfl (by decide) _ _ _ rfl (HO.out.alloc _) ⟨wr.heap.size, 0, none⟩ 1 1 [.string ⟨#[]⟩] rfl rfl (cell_one_new _ _ _) (by simp [Value.oneCell']) hml.out (by omega) (by simp; omega) ?_; intro v2 w2 hown2 hgrow2 _; have O2 := aA hown2; have G2 := aA hgrow2; clear hown2 hgrow2)
      have hb2 := aA ((hb.out.alloc hbs _).grown G2.out (by simp; omega) (fun j e => by
       rcases HO.out.2 with ⟨h1, _⟩ | ⟨g, cap, cur, h1, hg, _⟩
       · rw [h1] at e; cases e
       · rw [h1] at e; cases e; exact hg))
      go_roundw
      case rel => exact ⟨k + 1, by omega, by omega, by go_num, aA (by rw [hnew.out, hlen.out]; exact O2.out), hb2⟩
      case measure => simp [intOf]; omega
    · have hnew := aA (show pW ((s.data.toList.take (k + 1)).drop 1) = (Q ++ [tv a]).set N (.string (⟨a.toArray⟩ ++ s.extract k (k + 1))) by
       unfold pW;rw [hnx, g2 _ hc, List.map_append, hQ, Dv a s k hlt, List.set_append_right _ _ (by omega), hN, Nat.sub_self];rfl)
      have hlen := aA (show ((Q ++ [tv a]).set N (.string (⟨a.toArray⟩ ++ s.extract k (k + 1)))).length = N + 1 by simp [hN])
      have q47 : ((s[k].toNat : Int) == 47) = false := by
       rw [beq_eq_false_iff_ne]; intro e; apply hc
       apply UInt8.toNat_inj.1
       have : s[k].toNat = 47 := by omega
       rw [this]; rfl
      obtain ⟨c1, c2⟩ := Aj HO.out (j := N) (v := tv a) (by rw [List.getElem?_append_right (by omega), hN, Nat.sub_self]; rfl);obtain ⟨O2, hBg⟩ := I2 HO.out N (by omega) (.string (⟨a.toArray⟩ ++ s.extract k (k + 1)));have O2 := aA O2;obtain ⟨T, hT⟩ : ∃ T : ByteArray, ⟨a.toArray⟩ = T := ⟨_, rfl⟩;have hTs : T.size <= 1000 := by rw [<- hT]; show a.toArray.size <= 1000; simpa using hal
      have hb2 := aA (hb.out.setCell (p := ⟨g, N, none⟩) hBg (.string (⟨a.toArray⟩ ++ s.extract k (k + 1))));unfold tv at c1;rw [hT] at c1 O2 hb2 hnew hlen;clear hoo g0 g1 g2 hnx hseg hQ hN hc hql ho hal hT
      go_wp2_with fail
      have j1 : IntKind.i64.wrap (N : Int) = (N : Int) := IntWalk.i64_in _ (by omega);have j2 : IntKind.i64.wrap ((k : Int) + 1) = (k : Int) + 1 := IntWalk.i64_in _ (by omega);have j3 : (0 : Int) <= (k : Int) + 1 := by omega
      have j4 : ((k : Int) + 1).toNat = k + 1 := by omega
      have j5 : (0 : Int) <= (N : Int) := by omega
      have j6 : (N : Int) < (N : Int) + 1 := by omega
      have j7 : N < N + 1 := by omega
      have j8 : ((N : Int)).toNat = N := by omega
      have j9 : (N : Int) < ((N + 1 : Nat) : Int) := by omega
      have j10 : (k : Int) <= (k : Int) + 1 := by omega
      have j11 : (k : Int) + 1 <= (s.size : Int) := by omega
      have j12 : k <= k + 1 := by omega
      have j13 : k + 1 <= s.size := by omega
      have j14 : (0 : Int) <= (k : Int) := by omega
      have j15 : ((k : Int)).toNat = k := by omega
      obtain ⟨E, hE⟩ : ∃ E, s.extract k (k + 1) = E := ⟨_, rfl⟩;have hEs : E.size <= 1 := by rw [<- hE]; simp; omega
      rw [hE] at O2 hb2 hnew hlen;have j16 : (9223372036854775807 < T.size + E.size) = False := by simp; omega
      go_still_tail 17, (by kernel_rfl)
      change wpList _ _ _ _ _ wr.drew
      go_wp2_with fail
      exact ⟨⟨k + 1, by omega, by omega, by go_num, aA (by rw [hnew.out, hlen.out]; exact Gt O2.out), aA hb2.out.drew⟩, by simp [intOf]; omega⟩
  · obtain rfl : k = s.size := by omega
    rw [show (s.data.toList.take s.size).drop 1 = s.data.toList.drop 1 by rw [List.take_of_length_le (by simp)]] at ho;obtain ⟨a1, cap1, rfl⟩ := bW ho.out
    go_wp2_with fail
    go_ret2;exact ⟨⟨_, rfl, ho.out⟩, hb.out⟩
end
section
open Go.RowKit
theorem Ja {s : ByteArray} (h : 1 <= s.size) (h0 : s[0] = 47) : l4 s.data.toList = ((fT (s.data.toList.drop 1)).all cK && decide ((fT (s.data.toList.drop 1)).length <= 4)) := by
 have hl : s.data.toList.length = s.size := by simp
 have h00 : s.data.toList[0]? = some s[0] := List.getElem?_eq_getElem (by omega);cases e : s.data.toList with
 | nil => rw [e] at hl; simp at hl; omega
 | cons c r =>
   rw [e] at h00;have : c = s[0] := by simpa using h00
   rw [h0] at this;subst this;unfold l4;rw [vA, List.drop_one, List.tail_cons];simp
def iI (s : ByteArray) (x : Int) : Prop := x = 0 ↔ l4 s.data.toList = true
set_option maxRecDepth 100000 in
set_option maxHeartbeats 2000000 in
theorem Bf (s : ByteArray) (h1 : 2 <= s.size) (h0 : s[0] = 47) (hm : s.size <= 1000) (w : World) : Calls Tryz.prog 203 #[.string s] w fun e w' => (∃ v x, e = .returned (.tuple #[v, .int .i64 x]) /\ iI s x) /\ Below w.heap.size w w' := by
 have R := Ja (s := s) (by omega) h0;have hlen := zI (s.data.toList.drop 1);have hsz : (s.data.toList.drop 1).length <= 1000 := by simp; omega
 have heach := kK (s.data.toList.drop 1);have hcut := fun w => Gp s h1 h0 hm w
 unfold pW at hcut;obtain ⟨L, hL⟩ : ∃ L, fT (s.data.toList.drop 1) = L := ⟨_, rfl⟩
 have hne : 1 <= L.length := by
  rw [<- hL];have := Cu (s.data.toList.drop 1);cases e : fT (s.data.toList.drop 1) with
  | nil => exact absurd e this
  | cons a b => simp
 rw [hL] at R hlen hcut heach;have hLl : L.length <= 1001 := by omega
 have C := aA hcut;have R := aA R;have E := aA (show ∀ x ∈ L, x.length <= 1000 from fun x hx => Nat.le_trans (heach x hx) hsz);clear hL hlen hsz heach hcut h0;obtain ⟨M, hM⟩ : ∃ M, (L.map tv).length = M + 1 := ⟨L.length - 1, by rw [List.length_map]; omega⟩;have hM' : L.length = M + 1 := by rw [<- hM, List.length_map]
 go_enter Tryz.func203, Tryz.ntmps203
 go_wp2_with fail
 refine (C.out _).mono ?_;rintro e w1 ⟨⟨v, rfl, ho⟩, hb⟩;rw [hM] at ho;obtain ⟨g, cap, rfl⟩ := ownsRow_succ ho;have HO := aA ho;have HB := aA hb;have HM := aA hM';have hMb : M <= 1000 := by omega
 clear ho hb C hM hM'
 go_wp2_with fail
 go_loop [6] (fun i => ∃ k : Nat, k <= M + 1 /\ i = .int .i64 k /\ Hid (∀ j x, j < k -> L[j]? = some x -> cK x = true)) (fun i => M + 1 - (intOf i).toNat)
 case atStart => exact ⟨0, Nat.zero_le _, rfl, aA (fun j x h => by omega)⟩
 case round =>
  obtain ⟨k, hk, rfl, hok⟩ := hrel
  by_cases hlt : k < M + 1
  · obtain ⟨x, hx⟩ : ∃ x, L[k]? = some x := ⟨L[k]'(by rw [HM.out]; exact hlt), List.getElem?_eq_getElem _⟩
    obtain ⟨c1, -⟩ := Aj HO.out (j := k) (v := tv x) (by rw [List.getElem?_map, hx]; rfl);have hxs : x.length <= 1000 := E.out x (List.mem_of_getElem? hx);obtain ⟨T, hT⟩ : ∃ T : ByteArray, ⟨x.toArray⟩ = T := ⟨_, rfl⟩;have hTx : T.data.toList = x := by rw [<- hT]
    have hTs : T.size <= 1000 := by rw [<- hT]; show x.toArray.size <= 1000; simpa using hxs
    unfold tv at c1;rw [hT] at c1;have N := fun w => nC T (by omega) w
    rw [hTx] at N;clear hT hTx hxs;cases hg : cK x with
    | true =>
      rw [hg] at N;have N := aA N
      have hok1 := aA (show ∀ j y, j < k + 1 -> L[j]? = some y -> cK y = true from fun j y hj hy => by
       by_cases e : j = k
       · subst e; rw [hx] at hy; cases hy; exact hg
       · exact hok.out j y (by omega) hy)
      clear hx hg
      go_wp2_with fail
      refine (N.out _).mono ?_;rintro e w2 ⟨rfl, rfl⟩
      go_wp2_with fail
      go_round
      case rel => exact ⟨k + 1, by omega, by go_num, hok1⟩
      case measure => simp [intOf]; omega
    | false =>
      rw [hg] at N;have N := aA N
      have P := aA (show iI s 2 from by
       refine ⟨fun h => absurd h (by decide), fun h => ?_⟩;rw [R.out, Bool.and_eq_true, List.all_eq_true] at h;have := h.1 x (List.mem_of_getElem? hx);rw [hg] at this; cases this)
      clear hx hg
      go_wp2_with fail
      refine (N.out _).mono ?_;rintro e w2 ⟨rfl, rfl⟩
      go_wp2_with fail
      go_ret2;exact ⟨⟨_, _, rfl, P.out⟩, HB.out⟩
  · have hall : L.all cK = true := by
     rw [List.all_eq_true];intro x hx;obtain ⟨j, hj, rfl⟩ := List.mem_iff_getElem.1 hx;exact hok.out j _ (by rw [HM.out] at hj; omega) (List.getElem?_eq_getElem hj)
    by_cases h4 : M + 1 <= 4
    · have P := aA (show iI s 0 from ⟨fun _ => by rw [R.out, hall, HM.out, decide_eq_true h4]; rfl, fun _ => rfl⟩)
      clear hall
      go_wp2_with fail
      go_ret2;exact ⟨⟨_, _, rfl, P.out⟩, HB.out⟩
    · have P := aA (show iI s 4 from by
       refine ⟨fun h => absurd h (by decide), fun h => ?_⟩;rw [R.out, hall, HM.out, decide_eq_false h4] at h; cases h)
      clear hall
      go_wp2_with fail
      go_ret2;exact ⟨⟨_, _, rfl, P.out⟩, HB.out⟩
theorem F8 {s : ByteArray} (h : s.size = 0) : s = ⟨#[]⟩ := by
 cases s with | mk d => simp [ByteArray.size] at h; simp [h]
theorem Gx {s : ByteArray} (h : s.size = 0 \/ ∃ h : 0 < s.size, ¬ s[0] = 47) : l4 s.data.toList = false := by
 have hl : s.data.toList.length = s.size := by simp
 cases e : s.data.toList with
 | nil => rfl
 | cons c r =>
   rcases h with h | ⟨h, h'⟩
   · rw [e] at hl; simp at hl; omega
   · have h00 : s.data.toList[0]? = some s[0] := List.getElem?_eq_getElem (by omega)
     rw [e] at h00;have : c = s[0] := by simpa using h00
     subst this;unfold l4;rw [vA, decide_eq_false h']; rfl
theorem Bm {c : UInt8} (h : ¬ c = 47) : ((c.toNat : Int) != 47) = true := by
 rw [bne_iff_ne]; intro e; apply h
 apply UInt8.toNat_inj.1
 have : c.toNat = 47 := by omega
 rw [this]; rfl
theorem DS (s : ByteArray) (h : s.size = 0 \/ ∃ h : 0 < s.size, ¬ s[0] = 47) (hm : s.size <= 1000) (w : World) : Calls Tryz.prog 224 #[.string s] w fun e w' => e = .returned (.tuple #[.slice none 0 0, .bool false]) /\ w = w' := by
 rcases h with h | ⟨h, h'⟩
 · obtain rfl := F8 h
   clear h hm
   go_enter Tryz.func224, Tryz.ntmps224
   go_wp2_with fail
   go_ret2;exact ⟨rfl, rfl⟩
 · have e1 := uZ (s := s) (by omega)
   have e0 := Bm h';clear h'
   go_enter Tryz.func224, Tryz.ntmps224
   go_wp2_with fail
   go_ret2;exact ⟨rfl, rfl⟩
theorem DR (w : World) : Calls Tryz.prog 224 #[.string ⟨#[47]⟩] w fun e w' => e = .returned (.tuple #[.slice none 0 0, .bool true]) /\ w = w' := by
 go_enter Tryz.func224, Tryz.ntmps224
 go_wp2_with fail
 go_ret2;exact ⟨rfl, rfl⟩
theorem zW (s : ByteArray) (h : s.size = 0 \/ ∃ h : 0 < s.size, ¬ s[0] = 47) (hm : s.size <= 1000) (w : World) : Calls Tryz.prog 203 #[.string s] w fun e w' => (∃ v x, e = .returned (.tuple #[v, .int .i64 x]) /\ iI s x) /\ Below w.heap.size w w' := by
 have P := aA (show iI s 2 from by
  refine ⟨fun h => absurd h (by decide), fun hn => ?_⟩;rw [Gx h] at hn; cases hn)
 have C := aA (DS s h hm);clear h
 go_enter Tryz.func203, Tryz.ntmps203
 go_wp2_with fail
 refine (C.out _).mono ?_;rintro e w1 ⟨rfl, rfl⟩
 go_wp2_with fail
 go_ret2;exact ⟨⟨_, _, rfl, P.out⟩, Below.refl _ _⟩
theorem zV (w : World) : Calls Tryz.prog 203 #[.string ⟨#[47]⟩] w fun e w' => (∃ v, e = .returned (.tuple #[v, .int .i64 0])) /\ w = w' := by
 go_enter Tryz.func203, Tryz.ntmps203
 go_wp2_with fail
 refine (DR _).mono ?_;rintro e w1 ⟨rfl, rfl⟩
 go_wp2_with fail
 go_loop [6] (fun i => i = .int .i64 0) (fun _ => 0)
 case atStart => rfl
 case round =>
  subst hrel
  go_wp2_with fail
  go_ret2;exact ⟨⟨_, rfl⟩, rfl⟩
theorem Be (s : ByteArray) (hs : ¬ s = ⟨#[47]⟩) (hm : s.size <= 1000) (w : World) : Calls Tryz.prog 182 #[.string s] w fun e w' => e = .returned (.bool (l4 s.data.toList)) /\ Below w.heap.size w w' := by
 have C : ∀ w, Calls Tryz.prog 203 #[.string s] w fun e w' => (∃ v x, e = .returned (.tuple #[v, .int .i64 x]) /\ iI s x) /\ Below w.heap.size w w' := by
  intro w
  by_cases h : s.size = 0 \/ ∃ h : 0 < s.size, ¬ s[0] = 47
  · exact zW s h hm w
  · have h0 : ¬ s.size = 0 := fun e => h (.inl e)
    have h47 : s[0]'(by omega) = 47 := Classical.byContradiction fun e => h (.inr ⟨by omega, e⟩)
    by_cases h2 : 2 <= s.size
    · exact Bf s h2 h47 hm w
    · exfalso; apply hs
      apply iV
      have hl : s.data.toList.length = s.size := by simp
      apply List.ext_getElem
      · simp; omega
      · intro i hi hi'
        have : i = 0 := by simp at hi'; exact hi'
        subst this;exact h47
 have C := aA C;clear hs
 go_enter Tryz.func182, Tryz.ntmps182
 go_wp2_with fail
 refine (C.out _).mono ?_;rintro e w1 ⟨⟨v, x, rfl, hp⟩, hb⟩;have HB := aA hb;have HP := aA hp;clear hb hp
 go_wp2_with fail
 go_ret;refine ⟨dE (a := (x == 0)) ?_, HB.out⟩;have := HP.out;unfold iI at this;cases hn : l4 s.data.toList with
 | true => exact beq_iff_eq.2 (this.2 hn)
 | false =>
   rw [beq_eq_false_iff_ne];intro e;rw [this.1 e] at hn; cases hn
theorem Bc (w : World) : Calls Tryz.prog 182 #[.string ⟨#[47]⟩] w fun e w' => e = .returned (.bool true) /\ w = w' := by
 go_enter Tryz.func182, Tryz.ntmps182
 go_wp2_with fail
 refine (zV _).mono ?_;rintro e w1 ⟨⟨v, rfl⟩, rfl⟩
 go_wp2_with fail
 go_ret;exact ⟨rfl, rfl⟩
theorem DM (s : ByteArray) (hm : s.size <= 1000) (w : World) : Calls Tryz.prog 158 #[.string s] w fun e w' => e = .returned (.bool (l4 s.data.toList)) /\ Below w.heap.size w w' := by
 by_cases hs : s = ⟨#[47]⟩
 · subst hs
   rw [show l4 (⟨#[47]⟩ : ByteArray).data.toList = false from rfl]
   go_enter Tryz.func158, Tryz.ntmps158
   go_wp2_with fail
   refine (Bc _).mono ?_;rintro e w1 ⟨rfl, rfl⟩
   go_wp2_with fail
   go_ret;exact ⟨rfl, Below.refl _ _⟩
 · have C := Be s hs hm
   have q : (s.toList == [47]) = false := by
    rw [beq_eq_false_iff_ne, Lib.toList_data]; intro e; exact hs (iV e)
   obtain ⟨b, hb⟩ : ∃ b, l4 s.data.toList = b := ⟨_, rfl⟩;rw [hb] at C |-
   have C := aA C;clear hb hs;cases b with
   | true =>
     go_enter Tryz.func158, Tryz.ntmps158
     go_wp2_with fail
     refine (C.out _).mono ?_;rintro e w1 ⟨rfl, hb⟩;have HB := aA hb;clear hb
     go_wp2_with fail
     go_ret;exact ⟨rfl, HB.out⟩
   | false =>
     go_enter Tryz.func158, Tryz.ntmps158
     go_wp2_with fail
     refine (C.out _).mono ?_;rintro e w1 ⟨rfl, hb⟩;have HB := aA hb;clear hb
     go_wp2_with fail
     go_ret;exact ⟨rfl, HB.out⟩
end
section
open Go.RowKit
set_option maxHeartbeats 1000000 in
theorem i7 (a b : Int) (w : World) : Calls Tryz.prog 74 #[.int .i64 a, .int .i64 b] w fun e w' => e = .returned (.int .i64 (cmpI a b)) /\ w = w' := by
 have hc : a < b \/ b < a \/ a = b := by omega
 rcases hc with h | h | rfl
 · rw [show cmpI a b = -1 by unfold cmpI; rw [if_pos h]]
   go_enter Tryz.func74, Tryz.ntmps74
   go_wp2
   go_ret;exact ⟨rfl, rfl⟩
 · rw [show cmpI a b = 1 by unfold cmpI; rw [if_neg (by omega), if_pos h]]
   go_enter Tryz.func74, Tryz.ntmps74
   go_wp2
   go_ret;exact ⟨rfl, rfl⟩
 · rw [kZ]
   go_enter Tryz.func74, Tryz.ntmps74
   go_wp2
   go_ret;exact ⟨rfl, rfl⟩
set_option maxHeartbeats 1000000 in
theorem uH (a b : ByteArray) (w : World) : Calls Tryz.prog 75 #[.string a, .string b] w fun e w' => e = .returned (.int .i64 (cmpS a b)) /\ w = w' := by
 by_cases h : Op.bytesLess a.toList b.toList = true
 · rw [show cmpS a b = -1 by unfold cmpS; rw [if_pos h]]
   go_enter Tryz.func75, Tryz.ntmps75
   go_wp2
   go_ret;exact ⟨rfl, rfl⟩
 · have h' : Op.bytesLess a.toList b.toList = false := by simpa using h
   by_cases k : Op.bytesLess b.toList a.toList = true
   · rw [show cmpS a b = 1 by unfold cmpS; rw [if_neg h, if_pos k]]
     have q : (a.toList == b.toList) = false := by
      rw [beq_eq_false_iff_ne]; intro e;rw [e, gO] at k; cases k
     clear h
     go_enter Tryz.func75, Tryz.ntmps75
     go_wp2
     go_ret;exact ⟨rfl, rfl⟩
   · have k' : Op.bytesLess b.toList a.toList = false := by simpa using k
     rw [show cmpS a b = 0 by unfold cmpS; rw [if_neg h, if_neg k]];obtain rfl : a = b := mO (iN _ _ h' k');clear h k k'
     go_enter Tryz.func75, Tryz.ntmps75
     go_wp2
     go_ret;exact ⟨rfl, rfl⟩
set_option maxHeartbeats 1000000 in
theorem of_any (k n : Int) (s : ByteArray) (a : Option Addr) (len cap : Nat) (w : World) : Calls Tryz.prog 24 #[val k n s (.slice a len cap)] w fun e w' => e = .returned (val k n s (.slice a len cap)) /\ Below w.heap.size w w' := by
 unfold val
 go_enter Tryz.func24, Tryz.ntmps24
 go_wp2
 exact bodyPost_ret (v := .agg #[.int .i64 k, .int .i64 n, .string s, .slice a len cap]) (by simp [results, Tryz.results24, go_sem]) rfl ⟨rfl, ((Below.refl _ _).alloc (Nat.le_refl _) _).alloc (by simp) _⟩
end
section
open Go.RowKit
set_option maxHeartbeats 1000000 in
theorem rH (t i q : Int) (o : ByteArray) (hm : o.size <= 1000) (w : World) : Calls Tryz.prog 124 #[stp t i q o] w fun e w' => e = .returned (.int .i64 (Ay t i q o)) /\ Below w.heap.size w w' := by
 have C1 := fun w => wS t w
 have C2 := fun w => wS i w
 have C3 := fun w => wS q w
 have C4 := fun w => DM o (by omega) w
 obtain ⟨b1, h1⟩ : ∃ b, lV t = b := ⟨_, rfl⟩;obtain ⟨b2, h2⟩ : ∃ b, lV i = b := ⟨_, rfl⟩;obtain ⟨b3, h3⟩ : ∃ b, lV q = b := ⟨_, rfl⟩;obtain ⟨b4, h4⟩ : ∃ b, l4 o.data.toList = b := ⟨_, rfl⟩;unfold Ay;rw [h1] at C1 |-
 rw [h2] at C2 |-
 rw [h3] at C3 |-
 rw [h4] at C4 |-
 clear h1 h2 h3 h4;have D1 := aA C1;have D2 := aA C2;have D3 := aA C3;have D4 := aA C4;clear C1 C2 C3 C4;unfold stp;cases b1 with
 | false =>
   go_enter Tryz.func124, Tryz.ntmps124
   go_wp2_with fail
   refine (D1.out _).mono ?_;rintro e w1 ⟨rfl, rfl⟩
   go_wp2_with fail
   go_ret;exact ⟨rfl, (Below.refl _ _).alloc (Nat.le_refl _) _⟩
 | true =>
   cases b2 with
   | false =>
     go_enter Tryz.func124, Tryz.ntmps124
     go_wp2_with fail
     refine (D1.out _).mono ?_;rintro e w1 ⟨rfl, rfl⟩
     go_wp2_with fail
     refine (D2.out _).mono ?_;rintro e w1 ⟨rfl, rfl⟩
     go_wp2_with fail
     go_ret;exact ⟨rfl, (Below.refl _ _).alloc (Nat.le_refl _) _⟩
   | true =>
     cases b3 with
     | false =>
       go_enter Tryz.func124, Tryz.ntmps124
       go_wp2_with fail
       refine (D1.out _).mono ?_;rintro e w1 ⟨rfl, rfl⟩
       go_wp2_with fail
       refine (D2.out _).mono ?_;rintro e w1 ⟨rfl, rfl⟩
       go_wp2_with fail
       refine (D3.out _).mono ?_;rintro e w1 ⟨rfl, rfl⟩
       go_wp2_with fail
       go_ret;exact ⟨rfl, (Below.refl _ _).alloc (Nat.le_refl _) _⟩
     | true =>
       cases b4 with
       | false =>
         go_enter Tryz.func124, Tryz.ntmps124
         go_wp2_with fail
         refine (D1.out _).mono ?_;rintro e w1 ⟨rfl, rfl⟩
         go_wp2_with fail
         refine (D2.out _).mono ?_;rintro e w1 ⟨rfl, rfl⟩
         go_wp2_with fail
         refine (D3.out _).mono ?_;rintro e w1 ⟨rfl, rfl⟩
         go_wp2_with fail
         refine (D4.out _).mono ?_;rintro e w1 ⟨rfl, hb⟩;have HB := aA hb;clear hb
         go_wp2_with fail
         go_ret;exact ⟨rfl, ((Below.refl _ _).alloc (Nat.le_refl _) _).trans (HB.out.mono (by simp))⟩
       | true =>
         go_enter Tryz.func124, Tryz.ntmps124
         go_wp2_with fail
         refine (D1.out _).mono ?_;rintro e w1 ⟨rfl, rfl⟩
         go_wp2_with fail
         refine (D2.out _).mono ?_;rintro e w1 ⟨rfl, rfl⟩
         go_wp2_with fail
         refine (D3.out _).mono ?_;rintro e w1 ⟨rfl, rfl⟩
         go_wp2_with fail
         refine (D4.out _).mono ?_;rintro e w1 ⟨rfl, hb⟩;have HB := aA hb;clear hb
         go_wp2_with fail
         go_ret;exact ⟨rfl, ((Below.refl _ _).alloc (Nat.le_refl _) _).trans (HB.out.mono (by simp))⟩
end
section
open Go.RowKit
def oC (A : Nat -> AD) (k : Nat) : ByteArray := if k = 0 then ⟨#[]⟩ else (A (k - 1)).m
structure XcK (w0 : World) (x : RD) (a : Option Addr) (c : Nat) (w : World) : Prop where
 box : w.heap[w0.heap.size]? = some (.cells #[.string x.key, .int .i64 x.t, .int .i64 x.i, .int .i64 x.q, .string x.o, .slice a x.len c] 156 (0, 0))
 bel : Below w0.heap.size w0 w
theorem XcK.kept {w0 w w' : World} {x : RD} {a : Option Addr} {c : Nat} (h : XcK w0 x a c w) (hb : Below w.heap.size w w') : XcK w0 x a c w' :=
 ⟨(hb.block _ (lt_of_block h.box)).trans h.box, h.bel.trans (hb.mono (by have := lt_of_block h.box; omega))⟩
theorem XcK.drewN {w0 w : World} {x : RD} {a : Option Addr} {c : Nat} (h : XcK w0 x a c w) (n : Nat) : XcK w0 x a c (w.drewN n) :=
 h.kept ⟨rfl, rfl, rfl, Nat.le_refl _, fun _ _ => rfl⟩
set_option maxRecDepth 100000 in
set_option maxHeartbeats 4000000 in
theorem AR (x : RD) (a : Option Addr) (c : Nat) (hk : x.key.size <= 1000) (ho : x.o.size <= 1000) (hA : ∀ j, j < x.len -> (x.A j).m.size <= 1000 /\ (x.A j).s.size <= 1000) (w : World) (hr : ReadsA w a x.len x.A) :
 Calls Tryz.prog 79 #[.agg #[.string x.key, .int .i64 x.t, .int .i64 x.i, .int .i64 x.q, .string x.o, .slice a x.len c]] w fun e w' => e = .returned (.int .i64 (Az x)) /\ Below w.heap.size w w' := by
 have R := aA hr;have N := aA (fun w => nC x.key (by omega) w);have HA := aA hA;have hm := hr.1;unfold maxLen at hm;have BX := aA (show ∀ o, o = Obj.cells #[.string x.key, .int .i64 x.t, .int .i64 x.i, .int .i64 x.q, .string x.o, .slice a x.len c] 156 -> XcK w x a c (w.alloc o) from fun o h => by subst h; exact ⟨heap_alloc_new w _, (Below.refl _ _).alloc (Nat.le_refl _) _⟩);clear hr hA;cases hg : cK x.key.data.toList with
 | false =>
   have E := aA (show Az x = 5 by unfold Az; rw [if_pos hg]);have N1 := aA (p := ∀ w, Calls Tryz.prog 123 #[.string x.key] w fun e w' => e = .returned (.bool false) /\ w = w') (fun w => by have := N.out w; rwa [hg] at this);clear N hg
   go_enter Tryz.func79, Tryz.ntmps79
   go_wp2_with fail
   refine (N1.out _).mono ?_;rintro e w1 ⟨rfl, rfl⟩
   go_wp2_with fail
   go_ret;exact ⟨cD E.out.symm, (BX.out _ rfl).bel⟩
 | true =>
   have N1 := aA (p := ∀ w, Calls Tryz.prog 123 #[.string x.key] w fun e w' => e = .returned (.bool true) /\ w = w') (fun w => by have := N.out w; rwa [hg] at this);obtain ⟨es, hes⟩ : ∃ es, Ay x.t x.i x.q x.o = es := ⟨_, rfl⟩;have C := aA (p := ∀ w, Calls Tryz.prog 124 #[.agg #[.int .i64 x.t, .int .i64 x.i, .int .i64 x.q, .string x.o]] w fun e w' => e = .returned (.int .i64 es) /\ Below w.heap.size w w') (fun w => by have := rH x.t x.i x.q x.o ho w; rwa [hes] at this);have E0 : Az x = if es = 0 then (if 32 < x.len then 4 else fC ⟨#[]⟩ (fromA x.A x.len 0)) else es := by unfold Az; rw [if_neg (by rw [hg]; simp), hes]
   clear N hg hes
   by_cases h0 : es = 0
   · subst h0
     rw [if_pos rfl] at E0
     by_cases h32 : 32 < x.len
     · rw [if_pos h32] at E0
       have E := aA E0;clear E0
       go_enter Tryz.func79, Tryz.ntmps79
       go_wp2_with fail
       refine (N1.out _).mono ?_;rintro e w1 ⟨rfl, rfl⟩
       go_wp2_with fail
       refine (C.out _).mono ?_;rintro e w1 ⟨rfl, hb⟩;have K1 := aA ((BX.out _ rfl).kept hb);clear hb;obtain ⟨x0, x1, x2, x3, x4, x5⟩ := six K1.out.box
       go_wp2_with fail
       go_ret;exact ⟨cD E.out.symm, K1.out.bel⟩
     · rw [if_neg h32] at E0
       have E := aA E0;clear E0
       go_enter Tryz.func79, Tryz.ntmps79
       go_wp2_with fail
       refine (N1.out _).mono ?_;rintro e w1 ⟨rfl, rfl⟩
       go_wp2_with fail
       refine (C.out _).mono ?_;rintro e w1 ⟨rfl, hb⟩;have K1 := aA ((BX.out _ rfl).kept hb);clear hb;obtain ⟨x0, x1, x2, x3, x4, x5⟩ := six K1.out.box
       go_wp2_with fail
       go_loopw [3, 4] (fun e i wr => ∃ (k : Nat) (v : Int), e = .int .i64 v /\ i = .int .i64 k /\ k <= x.len /\ Hid (fC ⟨#[]⟩ (fromA x.A x.len 0) = fC (oC x.A k) (fromA x.A x.len k)) /\ Hid (XcK w x a c wr)) (fun _ i _ => x.len - (intOf i).toNat)
       case atStart => exact ⟨0, 0, rfl, rfl, Nat.zero_le _, aA rfl, K1⟩
       case round =>
        obtain ⟨k, v, rfl, rfl, hk', hE, hK⟩ := hrel;clear K1 x0 x1 x2 x3 x4 x5;obtain ⟨x0, x1, x2, x3, x4, x5⟩ := six hK.out.box
        by_cases hlt : k < x.len
        · obtain ⟨-, hc⟩ := R.out
          obtain ⟨b, off, hab, hcs⟩ := hc.resolve_left (by omega);obtain ⟨y, cy, h50, hrd⟩ := hcs k hlt;have h5 := h50.kept hK.out.bel;obtain ⟨hm1, hs1⟩ := HA.out k hlt;have hE2 : fC (oC x.A k) (fromA x.A x.len k) = if kD (oC x.A k) (x.A k) = 0 then fC (x.A k).m (fromA x.A x.len (k + 1)) else kD (oC x.A k) (x.A k) := by rw [tC x.A hlt]; rfl
          have hnx : oC x.A (k + 1) = (x.A k).m := by unfold oC; rw [if_neg (by omega)]; rfl
          obtain ⟨u, hu⟩ : ∃ u, x.A k = u := ⟨_, rfl⟩;rw [hu] at h5 h50 hrd hm1 hs1 hE2 hnx;have HE := aA (hE.out.trans hE2);have NX := aA hnx;have CV := aA (p := ∀ w', Below w.heap.size w w' -> Calls Tryz.prog 125 #[.agg #[.int .i64 u.k, .int .i64 u.n, .string u.s, .slice y u.len cy]] w' fun e w'' => e = .returned (.int .i64 (tI u.k u.s u.len u.z)) /\ Below w'.heap.size w' w'') (fun w' hb => cY u.k u.n u.s (by omega) y u.len cy u.z w' (hrd.kept hb));have H5 := aA (p := ∀ w', Below w.heap.size w w' -> iP w' b (off + k * 5) u y cy) (fun w' hb => h50.kept hb);have NM := aA (fun w => nC u.m (by omega) w)
          have HP := aA (p := 0 < k -> ∀ w', Below w.heap.size w w' -> w'.cell? ⟨b, off + (k - 1) * 5, none⟩ = some (.string (oC x.A k))) (fun h w' hb => by
           obtain ⟨y', cy', g5, _⟩ := hcs (k - 1) (by omega);have e : oC x.A k = (x.A (k - 1)).m := by unfold oC; rw [if_neg (by omega)]
           rw [e]; exact (g5.kept hb).1)
          obtain ⟨p0, hp0⟩ : ∃ p, oC x.A k = p := ⟨_, rfl⟩;have HP0 := aA (p := k = 0 -> p0 = ⟨#[]⟩) (fun h => by rw [<- hp0, h]; rfl);rw [hp0] at HE HP;obtain ⟨ev, hev⟩ : ∃ ev, tI u.k u.s u.len u.z = ev := ⟨_, rfl⟩;have HA2 : kD p0 u = if cK u.m.data.toList = false then 5 else if lsS p0 u.m = false then 6 else ev := by unfold kD; rw [hev]
          obtain ⟨g, hg⟩ : ∃ g, cK u.m.data.toList = g := ⟨_, rfl⟩;have HG := aA hg;rw [hg] at HA2 NM;rw [HA2] at HE;rw [hev] at CV;obtain ⟨d0, d1, d2, d3, d4⟩ := h5;clear hE hE2 hnx hcs hrd h50 hu hp0 hev HA2 hc hg;rw [hab] at x5;have hab' := aA hab;clear hab
          go_wp2_with fail
          refine (CV.out _ hK.out.bel).mono ?_;rintro e w2 ⟨rfl, hb⟩;have K2 := aA (hK.out.kept hb);clear hb hK x0 x1 x2 x3 x4 x5 d0 d1 d2 d3 d4;obtain ⟨x0, x1, x2, x3, x4, x5⟩ := six K2.out.box;rw [hab'.out] at x5;obtain ⟨d0, d1, d2, d3, d4⟩ := H5.out _ K2.out.bel;cases g with
          | false =>
            have HE1 := aA (p := fC ⟨#[]⟩ (fromA x.A x.len 0) = 5) (by have := HE.out; simpa using this);clear HE HG
            go_wp2_with fail
            refine (NM.out _).mono ?_;rintro e w3 ⟨rfl, rfl⟩
            go_wp2_with fail
            go_ret;exact ⟨cD (by rw [E.out, HE1.out]), K2.out.bel⟩
          | true =>
            have HE1 := aA (p := fC ⟨#[]⟩ (fromA x.A x.len 0) = if (if lsS p0 u.m = false then 6 else ev) = 0 then fC u.m (fromA x.A x.len (k + 1)) else (if lsS p0 u.m = false then 6 else ev)) (by have := HE.out; simpa using this);clear HE
            go_wp2_with fail
            refine (NM.out _).mono ?_;rintro e w3 ⟨rfl, rfl⟩
            by_cases hk0 : k = 0
            · subst hk0
              have hl : lsS p0 u.m = true := by rw [HP0.out rfl]; exact vC HG.out
              have HE2 := aA (p := fC ⟨#[]⟩ (fromA x.A x.len 0) = if ev = 0 then fC u.m (fromA x.A x.len (0 + 1)) else ev) (by have := HE1.out; rw [hl] at this; simpa using this);clear hl HE1 HP HP0
              go_wp2_with fail
              go_quiet (fail)
              by_cases he : ev = 0
              · subst he
                have HE3 := aA (HE2.out.trans (if_pos rfl));clear HE2
                go_wp2_with fail
                go_roundw
                case rel => exact ⟨0 + 1, 0, rfl, by go_num, by omega, aA (by rw [HE3.out, NX.out]), aA (K2.out.drewN _)⟩
                case measure => simp [intOf]; omega
              · have HE3 := aA (HE2.out.trans (if_neg he))
                have he' : (ev == 0) = false := by simpa using he
                clear HE2 he
                go_wp2_with fail
                go_ret;exact ⟨cD (by rw [E.out, HE3.out]), (K2.out.drewN _).bel⟩
            · have e0 : 0 < k := by omega
              have dp := HP.out e0 _ K2.out.bel;have e1 : IntKind.i64.wrap ((k : Int) - 1) = (k : Int) - 1 := IntWalk.i64_in _ (by omega);have e2 : 0 <= (k : Int) - 1 := by omega
              have e3 : ((k : Int) - 1).toNat = k - 1 := by omega
              have e4 : (k : Int) - 1 < x.len := by omega
              cases hl : lsS p0 u.m with
              | false =>
                have HE2 := aA (p := fC ⟨#[]⟩ (fromA x.A x.len 0) = 6) (by have := HE1.out; rw [hl] at this; simpa using this);have l1 := GN hl;have l2 : Op.bytesLess p0.toList u.m.toList = false := hl;clear hl HE1 HP HP0
                go_wp2_with fail
                go_quiet (fail)
                clear e1 e2 e3 e4
                go_wp2_with fail
                go_ret;exact ⟨cD (by rw [E.out, HE2.out]), (K2.out.drewN _).bel⟩
              | true =>
                have HE2 := aA (p := fC ⟨#[]⟩ (fromA x.A x.len 0) = if ev = 0 then fC u.m (fromA x.A x.len (k + 1)) else ev) (by have := HE1.out; rw [hl] at this; simpa using this);obtain ⟨l1, l2⟩ := Je hl;have l3 : Op.bytesLess p0.toList u.m.toList = true := hl;clear hl HE1 HP HP0
                go_wp2_with fail
                go_quiet (fail)
                clear e1 e2 e3 e4
                by_cases he : ev = 0
                · subst he
                  have HE3 := aA (HE2.out.trans (if_pos rfl));clear HE2
                  go_wp2_with fail
                  go_roundw
                  case rel => exact ⟨k + 1, 0, rfl, by go_num, by omega, aA (by rw [HE3.out, NX.out]), aA (K2.out.drewN _)⟩
                  case measure => simp [intOf]; omega
                · have HE3 := aA (HE2.out.trans (if_neg he))
                  have he' : (ev == 0) = false := by simpa using he
                  clear HE2 he
                  go_wp2_with fail
                  go_ret;exact ⟨cD (by rw [E.out, HE3.out]), (K2.out.drewN _).bel⟩
        · go_wp2_with fail
          go_ret;exact ⟨cD (by rw [E.out, hE.out, vP x.A (by omega)]; rfl), hK.out.bel⟩
   · rw [if_neg h0] at E0
     have E := aA E0;have h0' : (es == 0) = false := by simpa using h0
     clear E0 h0
     go_enter Tryz.func79, Tryz.ntmps79
     go_wp2_with fail
     refine (N1.out _).mono ?_;rintro e w1 ⟨rfl, rfl⟩
     go_wp2_with fail
     refine (C.out _).mono ?_;rintro e w1 ⟨rfl, hb⟩;have K1 := aA ((BX.out _ rfl).kept hb);clear hb
     go_wp2_with fail
     go_ret;exact ⟨cD E.out.symm, K1.out.bel⟩
end
section
open Go.RowKit
theorem tP {z1 z2 : Nat -> Int} {n1 n2 k : Nat} (h : ∀ j, j < k -> z1 j = z2 j) (h1 : k <= n1) (h2 : k <= n2) (he : ¬ (k < n1 /\ k < n2)) : cmpL (fW z1 n1) (fW z2 n2) = cmpI n1 n2 := by
 rw [Hs h h1 h2]
 by_cases e1 : k < n1
 · rw [mR z1 e1, pU z2 (by omega), cmpL]
   unfold cmpI; rw [if_neg (by omega), if_pos (by omega)]
 · rw [pU z1 (by omega)]
   by_cases e2 : k < n2
   · rw [mR z2 e2, cmpL]
     unfold cmpI; rw [if_pos (by omega)]
   · rw [pU z2 (by omega), cmpL]
     unfold cmpI; rw [if_neg (by omega), if_neg (by omega)]
theorem Fs {z1 z2 : Nat -> Int} {n1 n2 k : Nat} (h : ∀ j, j < k -> z1 j = z2 j) (h1 : k < n1) (h2 : k < n2) (hne : ¬ z1 k = z2 k) : cmpL (fW z1 n1) (fW z2 n2) = cmpI (z1 k) (z2 k) := by
 rw [Hs h (by omega) (by omega), mR z1 h1, mR z2 h2, cmpL, if_neg (JK hne)]
set_option maxRecDepth 100000 in
set_option maxHeartbeats 4000000 in
theorem wT (m1 : Int) (s1 : ByteArray) (a1 : Option Addr) (l1 c1 : Nat) (z1 : Nat -> Int) (m2 : Int) (s2 : ByteArray) (a2 : Option Addr) (l2 c2 : Nat) (z2 : Nat -> Int) (w : World) (h1 : Reads w a1 l1 z1) (h2 : Reads w a2 l2 z2) :
 Calls Tryz.prog 23 #[.agg #[.int .i64 3, .int .i64 m1, .string s1, .slice a1 l1 c1], .agg #[.int .i64 3, .int .i64 m2, .string s2, .slice a2 l2 c2]] w fun e w' => e = .returned (.int .i64 (cmpL (fW z1 l1) (fW z2 l2))) /\ Below w.heap.size w w' := by
 have M1 := h1.1;have M2 := h2.1;unfold maxLen at M1 M2;obtain ⟨o1, ho1⟩ : ∃ o, Obj.cells #[.int .i64 3, .int .i64 m1, .string s1, .slice a1 l1 c1] 56 = o := ⟨_, rfl⟩;obtain ⟨o2, ho2⟩ : ∃ o, Obj.cells #[.int .i64 3, .int .i64 m2, .string s2, .slice a2 l2 c2] 56 = o := ⟨_, rfl⟩;have bl : Below w.heap.size w ((w.alloc o1).alloc o2) := ((Below.refl _ _).alloc (Nat.le_refl _) _).alloc (by simp) _;have R1 := aA (h1.kept bl).2;have R2 := aA (h2.kept bl).2;have BL := aA bl;subst ho1; subst ho2;clear h1 h2 bl
 go_enter Tryz.func23, Tryz.ntmps23
 go_wp2
 go_loopw [5] (fun i wr => ∃ k : Nat, k <= l1 /\ k <= l2 /\ i = .int .i64 k /\ Hid (∀ j, j < k -> z1 j = z2 j) /\ Hid (∃ n0, wr = ((w.alloc (.cells #[.int .i64 3, .int .i64 m1, .string s1, .slice a1 l1 c1] 56)).alloc (.cells #[.int .i64 3, .int .i64 m2, .string s2, .slice a2 l2 c2] 56)).drewN n0)) (fun i _ => l1 - (intOf i).toNat)
 case atStart => exact ⟨0, Nat.zero_le _, Nat.zero_le _, rfl, aA (fun j h => by omega), aA ⟨0, rfl⟩⟩
 case round =>
  obtain ⟨k, hk1, hk2, rfl, he, hw⟩ := hrel;obtain ⟨n0, rfl⟩ := hw.out
  by_cases e1 : k < l1
  · rcases R1.out with h0 | ⟨b1, f1, rfl, hc1⟩
    · omega
    · by_cases e2 : k < l2
      · rcases R2.out with h0 | ⟨b2, f2, rfl, hc2⟩
        · omega
        · have g1 := hc1 k e1
          have g2 := hc2 k e2;clear hc1 hc2
          by_cases hz : z1 k = z2 k
          · have he2 := aA (show ∀ j, j < k + 1 -> z1 j = z2 j from fun j hj => by
             by_cases e : j = k
             · subst e; exact hz
             · exact he.out j (by omega))
            obtain ⟨x, hx⟩ : ∃ x, z2 k = x := ⟨_, rfl⟩;rw [hz, hx] at g1;rw [hx] at g2;clear hx hz he
            go_wp2
            go_quiet (fail)
            go_wp2
            go_roundw
            case rel => exact ⟨k + 1, by omega, by omega, by go_num, he2, aA ⟨_, rfl⟩⟩
            case measure => simp [intOf]; omega
          · have R3 := aA (Fs he.out e1 e2 hz)
            obtain ⟨x, hx⟩ : ∃ x, z1 k = x := ⟨_, rfl⟩;obtain ⟨y, hy⟩ : ∃ x, z2 k = x := ⟨_, rfl⟩;rw [hx, hy] at R3;rw [hx] at g1 hz;rw [hy] at g2 hz;have q1 : (x == y) = false := by simpa using hz
            have q2 : (x != y) = true := by simpa using hz
            have C : ∀ w, Calls Tryz.prog 74 #[.int .i64 x, .int .i64 y] w fun e w' => e = .returned (.int .i64 (cmpI x y)) /\ w' = w := fun w => (i7 x y w).mono fun _ _ h => ⟨h.1, h.2.symm⟩
            obtain ⟨v, hv⟩ : ∃ v, cmpI x y = v := ⟨_, rfl⟩;rw [hv] at C R3;have C1 := aA C;clear C hv hx hy hz he
            go_wp2
            go_quiet (fail)
            go_wp2
            go_quiet ((refine (C1.out _).mono ?_; rintro e w' ⟨he, hw⟩; exact ⟨he, _, hw⟩))
            go_wp2
            go_ret;exact ⟨cD R3.out.symm, BL.out.trans ⟨rfl, rfl, rfl, Nat.le_refl _, fun _ _ => rfl⟩⟩
      · have e3 : l2 <= k := by omega
        have R3 := aA (tP he.out hk1 hk2 (by omega));have C := aA (fun w => i7 (l1 : Int) (l2 : Int) w)
        go_wp2_with (go_at_call 74; refine (C.out _).mono ?_; rintro e w' ⟨rfl, rfl⟩)
        go_ret;exact ⟨cD R3.out.symm, BL.out.trans ⟨rfl, rfl, rfl, Nat.le_refl _, fun _ _ => rfl⟩⟩
  · by_cases e2 : k < l2
    · have R3 := aA (tP he.out hk1 hk2 (by omega))
      have C := aA (fun w => i7 (l1 : Int) (l2 : Int) w)
      go_wp2_with (go_at_call 74; refine (C.out _).mono ?_; rintro e w' ⟨rfl, rfl⟩)
      go_ret;exact ⟨cD R3.out.symm, BL.out.trans ⟨rfl, rfl, rfl, Nat.le_refl _, fun _ _ => rfl⟩⟩
    · have e3 : l2 <= k := by omega
      have R3 := aA (tP he.out hk1 hk2 (by omega));have C := aA (fun w => i7 (l1 : Int) (l2 : Int) w)
      go_wp2_with (go_at_call 74; refine (C.out _).mono ?_; rintro e w' ⟨rfl, rfl⟩)
      go_ret;exact ⟨cD R3.out.symm, BL.out.trans ⟨rfl, rfl, rfl, Nat.le_refl _, fun _ _ => rfl⟩⟩
set_option maxRecDepth 100000 in
set_option maxHeartbeats 2000000 in
theorem rCompare_any (k1 n1 : Int) (s1 : ByteArray) (a1 : Option Addr) (l1 c1 : Nat) (z1 : Nat -> Int) (k2 n2 : Int) (s2 : ByteArray) (a2 : Option Addr) (l2 c2 : Nat) (z2 : Nat -> Int) (w : World) (h1 : Reads w a1 l1 z1) (h2 : Reads w a2 l2 z2) :
 Calls Tryz.prog 23 #[val k1 n1 s1 (.slice a1 l1 c1), val k2 n2 s2 (.slice a2 l2 c2)] w fun e w' => e = .returned (.int .i64 (cmpV k1 n1 s1 l1 z1 k2 n2 s2 l2 z2)) /\ Below w.heap.size w w' := by
 unfold val
 by_cases hk : k1 = k2
 · subst hk
   have R : cmpV k1 n1 s1 l1 z1 k1 n2 s2 l2 z2 = if k1 = 1 then cmpI n1 n2 else if k1 = 2 then cmpS s1 s2 else if k1 = 3 then cmpL (fW z1 l1) (fW z2 l2) else 0 := by unfold cmpV; rw [if_pos rfl]
   rw [R];clear R
   by_cases e1 : k1 = 1
   · subst e1; rw [if_pos rfl]
     clear h1 h2
     go_enter Tryz.func23, Tryz.ntmps23
     go_wp2_with (go_at_call 74; refine (i7 _ _ _).mono ?_; rintro e w' ⟨rfl, rfl⟩)
     go_ret;exact ⟨rfl, (((Below.refl _ _).alloc (Nat.le_refl _) _).alloc (by simp) _)⟩
   have q1 : (k1 == 1) = false := by simpa using e1
   rw [if_neg e1]
   by_cases e2 : k1 = 2
   · subst e2; rw [if_pos rfl]
     clear h1 h2
     go_enter Tryz.func23, Tryz.ntmps23
     go_wp2_with (go_at_call 75; refine (uH _ _ _).mono ?_; rintro e w' ⟨rfl, rfl⟩)
     go_ret;exact ⟨rfl, (((Below.refl _ _).alloc (Nat.le_refl _) _).alloc (by simp) _)⟩
   have q2 : (k1 == 2) = false := by simpa using e2
   rw [if_neg e2]
   by_cases e3 : k1 = 3
   · subst e3; rw [if_pos rfl]
     exact wT n1 s1 a1 l1 c1 z1 n2 s2 a2 l2 c2 z2 w h1 h2
   have q3 : (k1 == 3) = false := by simpa using e3
   rw [if_neg e3];clear e1 e2 e3 h1 h2
   go_enter Tryz.func23, Tryz.ntmps23
   go_wp2_with fail
   go_ret;exact ⟨rfl, (((Below.refl _ _).alloc (Nat.le_refl _) _).alloc (by simp) _)⟩
 · have R : cmpV k1 n1 s1 l1 z1 k2 n2 s2 l2 z2 = cmpI k1 k2 := by unfold cmpV; rw [if_neg hk]
   rw [R];have q : (k1 == k2) = false := by simpa using hk
   have q' : (k1 != k2) = true := by simpa using hk
   clear R hk h1 h2
   go_enter Tryz.func23, Tryz.ntmps23
   go_wp2_with (go_at_call 74; refine (i7 _ _ _).mono ?_; rintro e w' ⟨rfl, rfl⟩)
   go_ret;exact ⟨rfl, (((Below.refl _ _).alloc (Nat.le_refl _) _).alloc (by simp) _)⟩
end
end
end Go.Proofs.YtapcjnoaofmmiaaGreatDoor.Wr
