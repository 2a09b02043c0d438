/-
 No statement: what AggEvalCard needs, of the texts OE3, OE4, OE6.
-/
import Derived.Test.YtapcjnoaofmmiaaGreatDoorVE3
namespace Go.Proofs.YtapcjnoaofmmiaaGreatDoor
section
section
open Go.RowKit
def eH (G : Nat -> Prop) (w : World) : F -> Nat -> Nat -> Prop
 | .nil, _, _ => True
 | .cons o m n ks r, b, off => G b /\ b < w.heap.size /\ (∃ (a : Option Addr) (c : Nat), (w.cell? ⟨b, off, none⟩ = some (.string o) /\ w.cell? ⟨b, off + 1, none⟩ = some (.string m) /\ w.cell? ⟨b, off + 2, none⟩ = some (.int .i64 n) /\ w.cell? ⟨b, off + 3, none⟩ = some (.slice a ks.len c)) /\
  (ks = .nil \/ ∃ b' off', a = some ⟨b', off', none⟩ /\ eH G w ks b' off')) /\ eH G w r b (off + 4)
def aH (G : Nat -> Prop) (w : World) (a : Option Addr) (ks : F) : Prop := ks = .nil \/ ∃ b off, a = some ⟨b, off, none⟩ /\ eH G w ks b off
abbrev cI (lo : Nat) (w : World) (a : Option Addr) (ks : F) : Prop := aH (fun b => lo <= b) w a ks
abbrev cH (o m : ByteArray) (n : Int) (a : Option Addr) (l c : Nat) : Value := .agg #[.string o, .string m, .int .i64 n, .slice a l c]
theorem eH.imp {G H : Nat -> Prop} {w : World} (hG : ∀ b, b < w.heap.size -> G b -> H b) : ∀ {f : F} {b off : Nat}, eH G w f b off -> eH H w f b off
 | .nil, _, _, _ => trivial
 | .cons _ _ _ _ _, _, _, ⟨h1, h2, ⟨a, c, hc, hk⟩, hr⟩ => ⟨hG _ h2 h1, h2, ⟨a, c, hc, hk.imp id fun ⟨b', off', e, h⟩ => ⟨b', off', e, h.imp hG⟩⟩, hr.imp hG⟩
theorem eH.keptS {S G : Nat -> Prop} {w w' : World} (hk : aG S w w') (hS : ∀ k, S k -> ¬ G k) : ∀ {f : F} {b off : Nat}, eH G w f b off -> eH G w' f b off
 | .nil, _, _, _ => trivial
 | .cons _ _ _ _ _, b, _, ⟨h1, h2, ⟨a, c, ⟨c0, c1, c2, c3⟩, hks⟩, hr⟩ => by
   have hb : ¬ S b := fun hs => hS b hs h1
   exact ⟨h1, Nat.lt_of_lt_of_le h2 hk.size, ⟨a, c, ⟨hk.cell c0 hb, hk.cell c1 hb, hk.cell c2 hb, hk.cell c3 hb⟩, hks.imp id fun ⟨b', off', e, h⟩ => ⟨b', off', e, h.keptS hk hS⟩⟩, hr.keptS hk hS⟩
theorem aF {w w' : World} (hb : Below w.heap.size w w') (S : Nat -> Prop) : aG S w w' := ⟨hb.os, hb.tape, hb.output, hb.size, fun k hk _ => hb.block k hk⟩
theorem eH.kept {G : Nat -> Prop} {w w' : World} (hb : Below w.heap.size w w') {f : F} {b off : Nat} (h : eH G w f b off) : eH G w' f b off :=
 h.keptS (S := fun _ => False) (aF hb _) (fun _ h => h.elim)
theorem aH.imp {G H : Nat -> Prop} {w : World} {a : Option Addr} {ks : F} (h : aH G w a ks) (hG : ∀ b, b < w.heap.size -> G b -> H b) : aH H w a ks :=
 Or.imp id (fun ⟨b, off, e, h⟩ => ⟨b, off, e, h.imp hG⟩) h
theorem aH.keptS {S G : Nat -> Prop} {w w' : World} {a : Option Addr} {ks : F} (h : aH G w a ks) (hk : aG S w w') (hS : ∀ k, S k -> ¬ G k) : aH G w' a ks :=
 Or.imp id (fun ⟨b, off, e, h⟩ => ⟨b, off, e, h.keptS hk hS⟩) h
theorem aH.kept {G : Nat -> Prop} {w w' : World} {a : Option Addr} {ks : F} (h : aH G w a ks) (hb : Below w.heap.size w w') : aH G w' a ks :=
 Or.imp id (fun ⟨b, off, e, h⟩ => ⟨b, off, e, h.kept hb⟩) h
theorem cI.keptS {S : Nat -> Prop} {lo : Nat} {w w' : World} {a : Option Addr} {ks : F} (h : cI lo w a ks) (hk : aG S w w') (hS : ∀ k, S k -> k < lo) : cI lo w' a ks :=
 aH.keptS h hk (fun k hk h => by have := hS k hk; omega)
theorem cI.kept {lo : Nat} {w w' : World} {a : Option Addr} {ks : F} (h : cI lo w a ks) (hb : Below w.heap.size w w') : cI lo w' a ks := aH.kept h hb
theorem cI.mono {lo lo' : Nat} {w : World} {a : Option Addr} {ks : F} (h : cI lo w a ks) (hlo : lo' <= lo) : cI lo' w a ks := aH.imp h (fun _ _ h => Nat.le_trans hlo h)
theorem eH.drop {G : Nat -> Prop} {w : World} : ∀ {f : F} {b off : Nat} (j : Nat), eH G w f b off -> eH G w (f.drop j) b (off + j * 4)
 | f, _, off, 0, h => by rw [F.drop_zero, Nat.zero_mul, Nat.add_zero]; exact h
 | .nil, _, _, _ + 1, _ => trivial
 | .cons _ _ _ _ _, _, off, j + 1, ⟨_, _, _, hr⟩ => by
   have := hr.drop j;rw [show off + 4 + j * 4 = off + (j + 1) * 4 by omega] at this;exact this
def IsR (w : World) (b : Nat) (a : Option Addr) (l c : Nat) (s : RS) : Prop := w.heap[b]? = some (.cells #[.slice a l c, .int .i64 s.pos, .int .i64 s.cnt, .int .i64 s.bad, .int .i64 s.whr] 83 (0, 0))
end
section
open Go.RowKit
theorem C9 {L : List Tk} {y : List UInt8} {p : Nat} (h : L.length <= p) : isS L y p = false := by
 unfold isS; rw [List.getElem?_eq_none h]
def bY : F -> Nat
 | .nil => 0
 | .cons _ _ _ ks r => 1 + bY ks + bY r
def aQ (t : TN) : Nat := 1 + bY t.ks
theorem oJ (t : TN) : bY t.f = aQ t := by unfold TN.f aQ; rw [bY, bY, Nat.add_zero]
theorem qM : ∀ (f : F) (l : Int), gN f l <= l
 | .nil, l => Int.le_refl _
 | .cons _ _ _ ks r, l => by
   rw [gN]
   split
   · exact Int.le_refl _
   · have := qM ks (l - 1)
     have := qM r (gN ks (l - 1));omega
theorem pQ : ∀ (f : F) (l : Int), (bY f : Int) <= l -> gN f l = l - bY f
 | .nil, l, _ => by rw [gN, bY]; omega
 | .cons _ _ _ ks r, l, h => by
   rw [bY] at h;rw [gN, if_neg (by omega), pQ ks (l - 1) (by omega), pQ r _ (by omega), bY];omega
theorem tO : ∀ (f : F) (l : Int), 0 <= l -> l < bY f -> gN f l < 0
 | .nil, l, h0, h => by rw [bY] at h; omega
 | .cons _ _ _ ks r, l, h0, h => by
   rw [bY] at h;rw [gN, if_neg (by omega)]
   by_cases h1 : (bY ks : Int) <= l - 1
   · rw [pQ ks _ h1]
     exact tO r _ (by omega) (by omega)
   · by_cases h2 : 0 <= l - 1
     · have := tO ks (l - 1) h2 (by omega)
       have := qM r (gN ks (l - 1));omega
     · have := qM ks (l - 1)
       have := qM r (gN ks (l - 1));omega
theorem Dm (t : TN) : gN t.ks 31 < 0 ↔ 32 < aQ t := by
 unfold aQ
 by_cases h : (bY t.ks : Int) <= 31
 · rw [pQ _ _ h]; omega
 · have := tO t.ks 31 (by omega) (by omega)
   omega
def eN (t : Tk) : Prop := (t.kind = 1 /\ cK t.text = true) \/ (t.kind = 2 /\ 0 <= t.num /\ t.num <= 9223372036854775807) \/ t.kind = 3
theorem Eb {l : List UInt8} {n : Nat} {k v : Int} {c : UInt8} {r : List UInt8} (hl : l = c :: r) (hc : cU c = true) (h : oE l = .tok k n v) : k = 1 /\ cK (l.take n) = true := by
 unfold oE at h
 split at h
 · cases h
 · rename_i h8
   cases h;refine ⟨rfl, ?_⟩;have hp : 1 <= cP bM l := by rw [hl]; exact rJ (by unfold bM; rw [hc]; rfl)
   have hall : ∀ d ∈ l.take (cP bM l), bM d = true := by
    rw [zB];exact fun d hd => List.all_eq_true.1 List.all_takeWhile d hd
   have hlen : (l.take (cP bM l)).length <= 8 := by rw [List.length_take]; omega
   rw [hl] at hall hlen |-
   obtain ⟨m, hm⟩ : ∃ m, cP bM (c :: r) = m + 1 := ⟨cP bM (c :: r) - 1, by rw [hl] at hp; omega⟩;rw [hm] at hall hlen |-
   rw [List.take_succ_cons] at hall hlen |-
   rw [nQ, hc, decide_eq_true (by simpa using hlen), Bool.true_and, Bool.true_and, List.all_eq_true];exact fun d hd => hall d (by simp [hd])
theorem BR {l : List UInt8} {n : Nat} {k v : Int} (p : Nat) (h : dJ l = .tok k n v) : eN ⟨k, l.take n, v, p⟩ := by
 have hf := vS h;cases l with
 | nil => cases h
 | cons c r =>
   simp only [dJ] at h
   split at h
   · rename_i hc
     obtain ⟨rfl, hg⟩ := Eb rfl hc h;exact .inl ⟨rfl, hg⟩
   · split at h
     · unfold xC at h
       split at h
       · cases h
       · split at h
         · cases h
         · cases h; exact .inr (.inl ⟨rfl, hf.2.2⟩)
     · unfold oA at h
       split at h
       · cases h
       · cases h; exact .inr (.inr rfl)
theorem GJ (l : List UInt8) (p : Nat) : ∀ ts, dX l p = .ok ts -> ∀ t ∈ ts, eN t := by
 refine lP (C := fun l p => ∀ ts, dX l p = .ok ts -> ∀ t ∈ ts, eN t) ?_ ?_ ?_ ?_ l.length l p (Nat.le_refl _)
 · intro p ts h
   rw [iX] at h; cases h;intro t ht; cases ht
 · intro r p ih ts h
   rw [dC] at h;exact ih ts h
 · intro l p e h1 h0 hf ts h
   rw [pJ h0 h1 hf] at h; cases h
 · intro l p k n v h1 h0 hf hn hl ih ts h
   rw [nI h1 hn hf] at h;obtain ⟨ts', h', rfl⟩ := t6 h;intro t ht
   rcases List.mem_cons.1 ht with rfl | ht
   · exact BR p hf
   · exact ih ts' h' t ht
theorem Eh {l : List UInt8} {ts : List Tk} (h : jL l = .ok ts) : ∀ t ∈ ts, eN t := by
 unfold jL at h
 split at h
 · cases h
 · exact GJ _ _ _ h
def OkT (t : TN) : Prop := bC t.f = 0
def r9 (o : List UInt8) : Prop := o = [43] \/ o = [45] \/ o = [42] \/ o = [47] \/ o = [37]
theorem opM {L : List Tk} {p : Nat} (h : isM L p = true) : r9 (gD L p) := by
 unfold isM isS at h;unfold gD;cases e : L[p]? with
 | none => rw [e] at h; simp at h
 | some t =>
   rw [e] at h;simp only [Bool.or_eq_true, Bool.and_eq_true, beq_iff_eq] at h
   rcases h with (⟨_, h⟩ | ⟨_, h⟩) | ⟨_, h⟩
   · exact .inr (.inr (.inl h))
   · exact .inr (.inr (.inr (.inl h)))
   · exact .inr (.inr (.inr (.inr h)))
theorem opA {L : List Tk} {p : Nat} (h : isA L p = true) : r9 (gD L p) := by
 unfold isA isS at h;unfold gD;cases e : L[p]? with
 | none => rw [e] at h; simp at h
 | some t =>
   rw [e] at h;simp only [Bool.or_eq_true, Bool.and_eq_true, beq_iff_eq] at h
   rcases h with ⟨_, h⟩ | ⟨_, h⟩
   · exact .inl h
   · exact .inr (.inl h)
theorem fK (L : List Tk) : ∀ (f : Nat) (md : Md) (s : RS), ¬ s.bad = 0 -> (pr L f md s).2 = s
 | 0, _, _, _ => rfl
 | f + 1, .fac, s, h => by rw [pr, if_neg h]
 | f + 1, .prod, s, h => by rw [pr, fK L f .fac s h, fK L f _ s h]
 | f + 1, .prodL n, s, h => by rw [pr, if_neg (by simp [h])]
 | f + 1, .sum, s, h => by rw [pr, fK L f .prod s h, fK L f _ s h]
 | f + 1, .sumL n, s, h => by rw [pr, if_neg (by simp [h])]
end
section
open Go.RowKit
theorem eX {B : Nat} {a w : World} (h : Below B a w) (n : Nat) : Below B a (w.drewN n) := ⟨h.os, h.tape, h.output, h.size, h.block⟩
end
section
open Go.RowKit
def yG (lim : Nat) (w : World) (a : Option Addr) (ts : List Tk) : Prop :=
 ts = [] \/ ∃ b off, a = some ⟨b, off, none⟩ /\ b < lim /\ ∀ j (h : j < ts.length), w.cell? ⟨b, off + j * 4, none⟩ = some (.int .i64 ts[j].kind) /\ w.cell? ⟨b, off + j * 4 + 1, none⟩ = some (.string ⟨ts[j].text.toArray⟩) /\
  w.cell? ⟨b, off + j * 4 + 2, none⟩ = some (.int .i64 ts[j].num) /\ w.cell? ⟨b, off + j * 4 + 3, none⟩ = some (.int .i64 ts[j].place)
theorem yG.kept {lim : Nat} {S : Nat -> Prop} {w w' : World} {a : Option Addr} {ts : List Tk} (h : yG lim w a ts) (hk : aG S w w') (hS : ∀ k, S k -> lim <= k) : yG lim w' a ts := by
 rcases h with h | ⟨b, off, rfl, hlt, hc⟩
 · exact .inl h
 · have hb : ¬ S b := fun hs => by have := hS b hs; omega
   refine .inr ⟨b, off, rfl, hlt, fun j hj => ?_⟩;obtain ⟨c0, c1, c2, c3⟩ := hc j hj;exact ⟨hk.cell c0 hb, hk.cell c1 hb, hk.cell c2 hb, hk.cell c3 hb⟩
theorem Cq {w : World} {a : Option Addr} {ts : List Tk} (h : gQ w a ts) : yG w.heap.size w a ts := h.imp id fun ⟨b, off, e, hlt, hc⟩ => ⟨b, off, e, hlt, hc⟩
def Lq (n : Nat) (s : RS) : Prop := (s.bad = 0 -> s.pos <= n) /\ s.pos <= 2 * n + 1 /\ s.cnt <= 33 /\ n <= 100000
structure PW (ts : List Tk) (rb : Nat) (a : Option Addr) (c : Nat) (s : RS) (w : World) : Prop where
 r : IsR w rb a ts.length c s
 t : yG rb w a ts
 f : Lq ts.length s
theorem LC {w : World} {b : Nat} {v0 v1 v2 v3 v4 : Value} {t : TypeId} (h : w.heap[b]? = some (.cells #[v0, v1, v2, v3, v4] t (0, 0))) (o : Nat) (v : Value) :
 (w.setCell ⟨b, o, none⟩ v).heap[b]? = some (.cells ((#[v0, v1, v2, v3, v4] : Array Value).setIfInBounds o v) t (0, 0)) := heap_setCell_same w b o _ t v h
theorem pK {rb : Nat} {w0 w : World} (h : aG (· = rb) w0 w) (o : Nat) (v : Value) : aG (· = rb) w0 (w.setCell ⟨rb, o, none⟩ v) := h.setCell (p := ⟨rb, o, none⟩) (.inl rfl) v
theorem uR {ts : List Tk} {rb : Nat} {a : Option Addr} {w : World} (h : yG rb w a ts) {p : Nat} (hp : p < ts.length) : ∃ b off, a = some ⟨b, off, none⟩ /\ b < rb /\ w.cell? ⟨b, off + p * 4, none⟩ = some (.int .i64 ts[p].kind) /\ w.cell? ⟨b, off + p * 4 + 1, none⟩ = some (.string ⟨ts[p].text.toArray⟩) /\
 w.cell? ⟨b, off + p * 4 + 2, none⟩ = some (.int .i64 ts[p].num) /\ w.cell? ⟨b, off + p * 4 + 3, none⟩ = some (.int .i64 ts[p].place) := by
 rcases h with h | ⟨b, off, e, hlt, hc⟩
 · rw [h] at hp; simp at hp
 · exact ⟨b, off, e, hlt, hc p hp⟩
end
section
open Go.RowKit
abbrev ndO (o m : ByteArray) (n : Int) (a : Option Addr) (l c : Nat) : Obj := .cells #[.string o, .string m, .int .i64 n, .slice a l c] 34
abbrev Bg (w : World) (B : Nat) (o m : ByteArray) (n : Int) (a : Option Addr) (l c : Nat) : World :=
 (((w.setCell ⟨B, 0, none⟩ (.string o)).setCell ⟨B, 1, none⟩ (.string m)).setCell ⟨B, 2, none⟩ (.int .i64 n)).setCell ⟨B, 3, none⟩ (.slice a l c)
theorem qF (w : World) (B : Nat) (o m : ByteArray) (n : Int) (a : Option Addr) (l c : Nat) : aG (· = B) w (Bg w B o m n a l c) :=
 ((((aG.refl (· = B) w).setCell (p := ⟨B, 0, none⟩) (.inl rfl) _).setCell (p := ⟨B, 1, none⟩) (.inl rfl) _).setCell (p := ⟨B, 2, none⟩) (.inl rfl) _).setCell (p := ⟨B, 3, none⟩) (.inl rfl) _
end
end
section
section
open Go.RowKit
structure FW (ts : List Tk) (rb : Nat) (a : Option Addr) (c : Nat) (s : RS) (w0 : World) (k : Int) (X : ByteArray) (n p : Int) (w : World) : Prop where
 pw : PW ts rb a c s w
 kp : aG (· = rb) w0 w
 nb : w.heap[w0.heap.size]? = some (ndO ⟨#[]⟩ ⟨#[]⟩ 0 none 0 0)
 tb : w.heap[w0.heap.size + 1]? = some (.cells #[.int .i64 k, .string X, .int .i64 n, .int .i64 p] 85 (0, 0))
end
end
section
section
open Go.RowKit
end
section
open Go.RowKit
theorem Br (l : List UInt8) (p : Nat) : ∀ q e, dX l p = .bad q e -> e = 1 \/ e = 2 \/ e = 5 := by
 refine lP (C := fun l p => ∀ q e, dX l p = .bad q e -> e = 1 \/ e = 2 \/ e = 5) ?_ ?_ ?_ ?_ l.length l p (Nat.le_refl _)
 · intro p q e h
   rw [iX] at h; cases h
 · intro r p ih q e h
   rw [dC] at h;exact ih q e h
 · intro l p e h1 h0 hf q e2 h
   rw [pJ h0 h1 hf] at h; cases h;exact vT hf
 · intro l p k n v h1 h0 hf hn hl ih q e h
   rw [nI h1 hn hf] at h;cases hx : dX (l.drop n) (p + n) with
   | ok ts => rw [hx] at h; cases h
   | bad q' e' => rw [hx] at h; cases h; exact ih _ _ hx
theorem An {l : List UInt8} {p : Nat} {e : Int} (h : jL l = .bad p e) : (e == 0) = false /\ (e != 0) = true := by
 have : e = 4 \/ e = 1 \/ e = 2 \/ e = 5 := by
  unfold jL at h
  split at h
  · cases h; exact .inl rfl
  · exact .inr (Br _ _ _ _ h)
 rcases this with h | h | h | h <;> rw [h] <;> exact ⟨by decide, by decide⟩
end
section
open Go.RowKit
def qR (q : Dp) (w : World) (e : Ending) (w' : World) : Prop := Below w.heap.size w w' /\
 match q with
 | .bad p er => e = .returned (.tuple #[cH ⟨#[]⟩ ⟨#[]⟩ 0 none 0 0, .int .i64 (p : Nat), .int .i64 er])
 | .ok t p => ∃ a c, e = .returned (.tuple #[cH t.op t.nm t.n a t.ks.len c, .int .i64 (p : Nat), .int .i64 0]) /\ cI w.heap.size w' a t.ks
end
section
open Go.RowKit
theorem GM {l : List UInt8} {ts : List Tk} (h : jL l = .ok ts) : ts.length <= 1024 := by
 unfold jL at h
 split at h
 · cases h
 · have := (Eg _ _ _ h).2.1
   omega
end
end
end Go.Proofs.YtapcjnoaofmmiaaGreatDoor
