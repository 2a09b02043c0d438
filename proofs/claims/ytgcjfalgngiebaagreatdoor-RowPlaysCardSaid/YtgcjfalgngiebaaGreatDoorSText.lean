/-
  No statement: the contract of Text of package stamp.
-/
import Derived.Test.YtgcjfalgngiebaaGreatDoorVText
import Derived.Test.YtgcjfalgngiebaaGreatDoorSCheck
import Derived.Test.YtgcjfalgngiebaaGreatDoorApp
import Derived.Deep.RegionHeld3
namespace Go.Proofs.YtgcjfalgngiebaaGreatDoor
open Go.RowKit

/-- What Text answers of a stamp. -/
def textSt (t i q : Int) (o : ByteArray) : List UInt8 := ((Lib.itoa t ++ [46] ++ Lib.itoa i) ++ [46] ++ Lib.itoa q) ++ [64] ++ o.data.toList

set_option maxRecDepth 100000 in
set_option maxHeartbeats 4000000 in
theorem stampText_any (t i q : Int) (o : ByteArray) (ht : In64 t) (hi : In64 i) (hq : In64 q) (hm : o.size ≤ 1000) (w : World) (hw : LaidT w) :
    Calls Tryz.prog 44 #[stp t i q o] w fun e w' => e = .returned (.string ⟨(textSt t i q o).toArray⟩) ∧ Below w.heap.size w w' := by
  unfold stp
  obtain ⟨i0, hi0, hz0, hz1, hz2⟩ := info_parts infoB
  obtain ⟨B, hB⟩ : ∃ B, w.heap.size + 1 = B := ⟨_, rfl⟩
  obtain ⟨ob, hob⟩ : ∃ x, Obj.cells #[.int .i64 t, .int .i64 i, .int .i64 q, .string o] 53 = x := ⟨_, rfl⟩
  obtain ⟨W, hW⟩ : ∃ W, w.alloc ob = W := ⟨_, rfl⟩
  have hs : W.heap.size = B := by rw [← hW, ← hB]; simp
  have c0 : W.heap[w.heap.size]? = some (.cells #[.int .i64 t, .int .i64 i, .int .i64 q, .string o] 53 (0, 0)) := by
    rw [← hW, hob]; exact World.alloc_heap_new w ob
  have bl : Below w.heap.size w W := by rw [← hW]; exact (Below.refl _ _).alloc (Nat.le_refl _) _
  have L0 := Lib.hid (hw.below bl hw.has)
  have BL := Lib.hid bl
  have C0 := Lib.hid c0
  have hB8 : 1 < B := by have := hw.has; omega
  have HT := Lib.hid ht
  have HI := Lib.hid hi
  have HQ := Lib.hid hq
  have l1 := Lib.hid (Lib.itoa_length_le t ht.1 ht.2)
  have l2 := Lib.hid (Lib.itoa_length_le i hi.1 hi.2)
  have l3 := Lib.hid (Lib.itoa_length_le q hq.1 hq.2)
  obtain ⟨p1, hp1⟩ : ∃ p, Lib.itoa t = p := ⟨_, rfl⟩
  obtain ⟨p2, hp2⟩ : ∃ p, Lib.itoa i = p := ⟨_, rfl⟩
  obtain ⟨p3, hp3⟩ : ∃ p, Lib.itoa q = p := ⟨_, rfl⟩
  have R := Lib.hid (show textSt t i q o = ((p1 ++ [46] ++ p2) ++ [46] ++ p3) ++ [64] ++ o.data.toList by unfold textSt; rw [hp1, hp2, hp3])
  rw [hp1] at l1; rw [hp2] at l2; rw [hp3] at l3
  have A1 := Lib.hid (fun w h1 h2 => append_any B 0 t HT.out (.slice none 0 0) [] w ⟨rfl, .inl ⟨rfl, rfl⟩⟩ h1 (by omega) h2 hB8)
  have A2 := Lib.hid (fun n sv xs w h0 h1 h2 h3 => append_any B n i HI.out sv xs w h0 h1 h2 h3 hB8)
  have A3 := Lib.hid (fun n sv xs w h0 h1 h2 h3 => append_any B n q HQ.out sv xs w h0 h1 h2 h3 hB8)
  simp only [hp1] at A1; simp only [hp2] at A2; simp only [hp3] at A3
  clear hp1 hp2 hp3 ht hi hq bl hw
  obtain ⟨⟨x0, x1, x2, x3⟩, xf0, xf1, xf2, xf3⟩ := four c0
  go_enter Tryz.func44, Tryz.ntmps44
  go_wp2_with fail
  refine (A1.out W (Nat.le_of_eq hs.symm) L0.out).mono ?_
  rintro e w1 ⟨v1, rfl, o1, b1⟩
  rw [Nat.zero_add, List.nil_append] at o1
  have o1 := Lib.hid o1
  have b1 := Lib.hid b1
  clear x0 x1 x2 x3
  obtain ⟨⟨x0, x1, x2, x3⟩, -, -, -, -⟩ := four ((b1.out.block w.heap.size (by omega)).trans C0.out)
  obtain ⟨a1, cap1, rfl⟩ := row_slice o1.out
  have hml := Lib.hid (show (p1).length + 1 ≤ maxLen by (try simp only [List.length_append, List.length_cons, List.length_nil]); have := l1.out; have := l2.out; have := l3.out; (try unfold maxLen); omega)
  have sz1 : B ≤ w1.heap.size := Nat.le_trans (Nat.le_of_eq hs.symm) b1.out.size
  go_wp2_with fail
  go_region_held3 (fun w' => w'.cell? ⟨w.heap.size, 1, none⟩ = some (.int .i64 i)) (first | assumption | (go_keep; done)) (first
    | (refine step_append_from rfl (.tmp 7) (.tmp 8) 85 rfl Tryz.underlying85 hi0 hz0 hz1 hz2 rfl (.slice a1 (p1).length cap1) (.slice (some ⟨w1.heap.size, 0, none⟩) 1 1) (p1).length 1 (Lib.byteCells (p1)) [.int .u8 46] (by first | (simp [Act.eval]; done) | fail) (by first | (simp [Act.eval]; done) | fail) (ownsDrew (World.ownsRow.alloc o1.out _)) (from_one (by first | (simp; done) | fail)) (by simp [Value.oneCell']) hml.out (by (try simp only [List.length_append, List.length_cons, List.length_nil]); have := l1.out; have := l2.out; have := l3.out; (try unfold maxLen); omega) (by show _ ≤ (World.alloc _ _).heap.size; simp; omega) ?_
       intro v2 w2 hown2 hgrow2 _
       have bb : Below B W w2 := (b1.out.alloc sz1 _).drew.grown hgrow2 (by show _ ≤ (World.alloc _ _).heap.size; simp; omega) (fun j e => by
         rcases o1.out.2 with ⟨h1, _⟩ | ⟨g, cap, cur, h1, hg, _⟩
         · rw [h1] at e; cases e
         · rw [h1] at e; cases e; exact hg)
       have cc : w2.cell? ⟨w.heap.size, 1, none⟩ = some (.int .i64 i) := (four ((bb.block w.heap.size (by omega)).trans C0.out)).1.2.1
       have o2 : w2.ownsRow B 5 1 v2 (p1 ++ [46]).length (Lib.byteCells (p1 ++ [46])) := by
         rw [List.length_append, Lib.byteCells_append]; exact hown2
       have O3 := Lib.hid o2
       have B3 := Lib.hid bb
       clear hown2 hgrow2 bb o2)
    | (go_at_call 65
       refine (A2.out _ _ (p1 ++ [46]) _ O3.out (Nat.le_trans (Nat.le_of_eq hs.symm) B3.out.size) (by (try simp only [List.length_append, List.length_cons, List.length_nil]); have := l1.out; have := l2.out; have := l3.out; (try unfold maxLen); omega) (L0.out.below B3.out (by omega))).mono ?_
       rintro e w3 ⟨v3, rfl, o3, b3⟩
       rw [← List.length_append] at o3
       have o3 := Lib.hid o3
       have b3 := Lib.hid (B3.out.trans b3)
       have cc := (four ((b3.out.block w.heap.size (by omega)).trans C0.out)).1.2.1
       clear O3 B3))
  clear x0 x1 x2 x3
  obtain ⟨⟨x0, x1, x2, x3⟩, -, -, -, -⟩ := four ((b3.out.block w.heap.size (by omega)).trans C0.out)
  obtain ⟨a3, cap3, rfl⟩ := row_slice o3.out
  have hml := Lib.hid (show (p1 ++ [46] ++ p2).length + 1 ≤ maxLen by (try simp only [List.length_append, List.length_cons, List.length_nil]); have := l1.out; have := l2.out; have := l3.out; (try unfold maxLen); omega)
  have sz3 : B ≤ w3.heap.size := Nat.le_trans (Nat.le_of_eq hs.symm) b3.out.size
  go_wp2_with fail
  go_region_held3 (fun w' => w'.cell? ⟨w.heap.size, 2, none⟩ = some (.int .i64 q)) (first | assumption | (go_keep; done)) (first
    | (refine step_append_from rfl (.tmp 13) (.tmp 14) 85 rfl Tryz.underlying85 hi0 hz0 hz1 hz2 rfl (.slice a3 (p1 ++ [46] ++ p2).length cap3) (.slice (some ⟨w3.heap.size, 0, none⟩) 1 1) (p1 ++ [46] ++ p2).length 1 (Lib.byteCells (p1 ++ [46] ++ p2)) [.int .u8 46] (by first | (simp [Act.eval]; done) | fail) (by first | (simp [Act.eval]; done) | fail) (ownsDrew (World.ownsRow.alloc o3.out _)) (from_one (by first | (simp; done) | fail)) (by simp [Value.oneCell']) hml.out (by (try simp only [List.length_append, List.length_cons, List.length_nil]); have := l1.out; have := l2.out; have := l3.out; (try unfold maxLen); omega) (by show _ ≤ (World.alloc _ _).heap.size; simp; omega) ?_
       intro v2 w2 hown2 hgrow2 _
       have bb : Below B W w2 := (b3.out.alloc sz3 _).drew.grown hgrow2 (by show _ ≤ (World.alloc _ _).heap.size; simp; omega) (fun j e => by
         rcases o3.out.2 with ⟨h1, _⟩ | ⟨g, cap, cur, h1, hg, _⟩
         · rw [h1] at e; cases e
         · rw [h1] at e; cases e; exact hg)
       have cc : w2.cell? ⟨w.heap.size, 2, none⟩ = some (.int .i64 q) := (four ((bb.block w.heap.size (by omega)).trans C0.out)).1.2.2.1
       have o2 : w2.ownsRow B 5 1 v2 (p1 ++ [46] ++ p2 ++ [46]).length (Lib.byteCells (p1 ++ [46] ++ p2 ++ [46])) := by
         rw [List.length_append, Lib.byteCells_append]; exact hown2
       have O3 := Lib.hid o2
       have B3 := Lib.hid bb
       clear hown2 hgrow2 bb o2)
    | (go_at_call 65
       refine (A3.out _ _ (p1 ++ [46] ++ p2 ++ [46]) _ O3.out (Nat.le_trans (Nat.le_of_eq hs.symm) B3.out.size) (by (try simp only [List.length_append, List.length_cons, List.length_nil]); have := l1.out; have := l2.out; have := l3.out; (try unfold maxLen); omega) (L0.out.below B3.out (by omega))).mono ?_
       rintro e w5 ⟨v5, rfl, o5, b5⟩
       rw [← List.length_append] at o5
       have o5 := Lib.hid o5
       have b5 := Lib.hid (B3.out.trans b5)
       have cc := (four ((b5.out.block w.heap.size (by omega)).trans C0.out)).1.2.2.1
       clear O3 B3))
  clear x0 x1 x2 x3
  obtain ⟨⟨x0, x1, x2, x3⟩, -, -, -, -⟩ := four ((b5.out.block w.heap.size (by omega)).trans C0.out)
  obtain ⟨a5, cap5, rfl⟩ := row_slice o5.out
  have hcv : (convert 85 9 (.slice a5 (p1 ++ [46] ++ p2 ++ [46] ++ p3).length cap5)).run Tryz.prog w5 = .ok (.string ⟨(p1 ++ [46] ++ p2 ++ [46] ++ p3).toArray⟩) w5 := by
    obtain ⟨n, hn⟩ : ∃ n, (p1 ++ [46] ++ p2 ++ [46] ++ p3).length = n + 1 := ⟨(p1 ++ [46] ++ p2 ++ [46] ++ p3).length - 1, by simp; omega⟩
    have ho := o5.out
    rw [hn] at ho ⊢
    obtain ⟨g2, cap2, hg⟩ := ownsRow_succ ho
    rw [hg] at ho ⊢
    exact convert_owned ho hn
  have hls : (⟨(p1 ++ [46] ++ p2 ++ [46] ++ p3).toArray⟩ : ByteArray).size ≤ 100 := by
    show (p1 ++ [46] ++ p2 ++ [46] ++ p3).toArray.size ≤ 100
    have := l1.out; have := l2.out; have := l3.out; simp; omega
  obtain ⟨T, hT⟩ : ∃ T : ByteArray, ⟨(p1 ++ [46] ++ p2 ++ [46] ++ p3).toArray⟩ = T := ⟨_, rfl⟩
  have R2 := Lib.hid (show textSt t i q o = T.data.toList ++ [64] ++ o.data.toList by rw [R.out, ← hT])
  rw [hT] at hcv hls
  clear hT
  obtain ⟨N, hN⟩ : ∃ N, (p1 ++ [46] ++ p2 ++ [46] ++ p3).length = N := ⟨_, rfl⟩
  rw [hN] at hcv
  simp only [hN]
  clear hN
  go_wp2_with fail
  go_ret
  refine ⟨ret_str ?_, BL.out.trans (b5.out.mono (by omega))⟩
  rw [R2.out]
  simp

end Go.Proofs.YtgcjfalgngiebaaGreatDoor
