/-
 No statement: what AggNoneCard needs, of the texts OE3, OE4, OE6.
-/
import Derived.Test.YtapcjnoaofmmiaaGreatDoorVN3
namespace Go.Proofs.YtapcjnoaofmmiaaGreatDoor
section
section
open Go.RowKit
def dV (G : Nat -> Prop) (w : World) : F -> Nat -> Nat -> Prop
 | .nil, _, _ => True
 | .cons o m n ks r, b, off => G b /\ b < w.heap.size /\ (∃ (a : Option Addr) (c : Nat), (w.cell? ⟨b, off, none⟩ = some (.string o) /\ w.cell? ⟨b, off + 1, none⟩ = some (.string m) /\ w.cell? ⟨b, off + 2, none⟩ = some (.int .i64 n) /\ w.cell? ⟨b, off + 3, none⟩ = some (.slice a ks.len c)) /\
  (ks = .nil \/ ∃ b' off', a = some ⟨b', off', none⟩ /\ dV G w ks b' off')) /\ dV G w r b (off + 4)
def aH (G : Nat -> Prop) (w : World) (a : Option Addr) (ks : F) : Prop := ks = .nil \/ ∃ b off, a = some ⟨b, off, none⟩ /\ dV G w ks b off
abbrev bQ (lo : Nat) (w : World) (a : Option Addr) (ks : F) : Prop := aH (fun b => lo <= b) w a ks
abbrev bU (o m : ByteArray) (n : Int) (a : Option Addr) (l c : Nat) : Value := .agg #[.string o, .string m, .int .i64 n, .slice a l c]
theorem dV.imp {G H : Nat -> Prop} {w : World} (hG : ∀ b, b < w.heap.size -> G b -> H b) : ∀ {f : F} {b off : Nat}, dV G w f b off -> dV H w f b off
 | .nil, _, _, _ => trivial
 | .cons _ _ _ _ _, _, _, ⟨h1, h2, ⟨a, c, hc, hk⟩, hr⟩ => ⟨hG _ h2 h1, h2, ⟨a, c, hc, hk.imp id fun ⟨b', off', e, h⟩ => ⟨b', off', e, h.imp hG⟩⟩, hr.imp hG⟩
theorem dV.keptS {S G : Nat -> Prop} {w w' : World} (hk : aG S w w') (hS : ∀ k, S k -> ¬ G k) : ∀ {f : F} {b off : Nat}, dV G w f b off -> dV G w' f b off
 | .nil, _, _, _ => trivial
 | .cons _ _ _ _ _, b, _, ⟨h1, h2, ⟨a, c, ⟨c0, c1, c2, c3⟩, hks⟩, hr⟩ => by
   have hb : ¬ S b := fun hs => hS b hs h1
   exact ⟨h1, Nat.lt_of_lt_of_le h2 hk.size, ⟨a, c, ⟨hk.cell c0 hb, hk.cell c1 hb, hk.cell c2 hb, hk.cell c3 hb⟩, hks.imp id fun ⟨b', off', e, h⟩ => ⟨b', off', e, h.keptS hk hS⟩⟩, hr.keptS hk hS⟩
theorem aF {w w' : World} (hb : Below w.heap.size w w') (S : Nat -> Prop) : aG S w w' := ⟨hb.os, hb.tape, hb.output, hb.size, fun k hk _ => hb.block k hk⟩
theorem dV.kept {G : Nat -> Prop} {w w' : World} (hb : Below w.heap.size w w') {f : F} {b off : Nat} (h : dV G w f b off) : dV G w' f b off :=
 h.keptS (S := fun _ => False) (aF hb _) (fun _ h => h.elim)
theorem aH.imp {G H : Nat -> Prop} {w : World} {a : Option Addr} {ks : F} (h : aH G w a ks) (hG : ∀ b, b < w.heap.size -> G b -> H b) : aH H w a ks :=
 Or.imp id (fun ⟨b, off, e, h⟩ => ⟨b, off, e, h.imp hG⟩) h
theorem aH.keptS {S G : Nat -> Prop} {w w' : World} {a : Option Addr} {ks : F} (h : aH G w a ks) (hk : aG S w w') (hS : ∀ k, S k -> ¬ G k) : aH G w' a ks :=
 Or.imp id (fun ⟨b, off, e, h⟩ => ⟨b, off, e, h.keptS hk hS⟩) h
theorem aH.kept {G : Nat -> Prop} {w w' : World} {a : Option Addr} {ks : F} (h : aH G w a ks) (hb : Below w.heap.size w w') : aH G w' a ks :=
 Or.imp id (fun ⟨b, off, e, h⟩ => ⟨b, off, e, h.kept hb⟩) h
theorem bQ.keptS {S : Nat -> Prop} {lo : Nat} {w w' : World} {a : Option Addr} {ks : F} (h : bQ lo w a ks) (hk : aG S w w') (hS : ∀ k, S k -> k < lo) : bQ lo w' a ks :=
 aH.keptS h hk (fun k hk h => by have := hS k hk; omega)
theorem bQ.kept {lo : Nat} {w w' : World} {a : Option Addr} {ks : F} (h : bQ lo w a ks) (hb : Below w.heap.size w w') : bQ lo w' a ks := aH.kept h hb
theorem bQ.mono {lo lo' : Nat} {w : World} {a : Option Addr} {ks : F} (h : bQ lo w a ks) (hlo : lo' <= lo) : bQ lo' w a ks := aH.imp h (fun _ _ h => Nat.le_trans hlo h)
theorem dV.drop {G : Nat -> Prop} {w : World} : ∀ {f : F} {b off : Nat} (j : Nat), dV G w f b off -> dV G w (f.drop j) b (off + j * 4)
 | f, _, off, 0, h => by rw [F.drop_zero, Nat.zero_mul, Nat.add_zero]; exact h
 | .nil, _, _, _ + 1, _ => trivial
 | .cons _ _ _ _ _, _, off, j + 1, ⟨_, _, _, hr⟩ => by
   have := hr.drop j;rw [show off + 4 + j * 4 = off + (j + 1) * 4 by omega] at this;exact this
def IsR (w : World) (b : Nat) (a : Option Addr) (l c : Nat) (s : RS) : Prop := w.heap[b]? = some (.cells #[.slice a l c, .int .i64 s.pos, .int .i64 s.cnt, .int .i64 s.bad, .int .i64 s.whr] 83 (0, 0))
end
section
open Go.RowKit
theorem Bl {L : List Tk} {y : List UInt8} {p : Nat} (h : L.length <= p) : isS L y p = false := by
 unfold isS; rw [List.getElem?_eq_none h]
def bI : F -> Nat
 | .nil => 0
 | .cons _ _ _ ks r => 1 + bI ks + bI r
def aN (t : TN) : Nat := 1 + bI t.ks
theorem mZ (t : TN) : bI t.f = aN t := by unfold TN.f aN; rw [bI, bI, Nat.add_zero]
theorem pD : ∀ (f : F) (l : Int), fV f l <= l
 | .nil, l => Int.le_refl _
 | .cons _ _ _ ks r, l => by
   rw [fV]
   split
   · exact Int.le_refl _
   · have := pD ks (l - 1)
     have := pD r (fV ks (l - 1));omega
theorem oK : ∀ (f : F) (l : Int), (bI f : Int) <= l -> fV f l = l - bI f
 | .nil, l, _ => by rw [fV, bI]; omega
 | .cons _ _ _ ks r, l, h => by
   rw [bI] at h;rw [fV, if_neg (by omega), oK ks (l - 1) (by omega), oK r _ (by omega), bI];omega
theorem sE : ∀ (f : F) (l : Int), 0 <= l -> l < bI f -> fV f l < 0
 | .nil, l, h0, h => by rw [bI] at h; omega
 | .cons _ _ _ ks r, l, h0, h => by
   rw [bI] at h;rw [fV, if_neg (by omega)]
   by_cases h1 : (bI ks : Int) <= l - 1
   · rw [oK ks _ h1]
     exact sE r _ (by omega) (by omega)
   · by_cases h2 : 0 <= l - 1
     · have := sE ks (l - 1) h2 (by omega)
       have := pD r (fV ks (l - 1));omega
     · have := pD ks (l - 1)
       have := pD r (fV ks (l - 1));omega
theorem Bs (t : TN) : fV t.ks 31 < 0 ↔ 32 < aN t := by
 unfold aN
 by_cases h : (bI t.ks : Int) <= 31
 · rw [oK _ _ h]; omega
 · have := sE t.ks 31 (by omega) (by omega)
   omega
def eA (t : Tk) : Prop := (t.kind = 1 /\ cK t.text = true) \/ (t.kind = 2 /\ 0 <= t.num /\ t.num <= 9223372036854775807) \/ t.kind = 3
theorem Co {l : List UInt8} {n : Nat} {k v : Int} {c : UInt8} {r : List UInt8} (hl : l = c :: r) (hc : cH c = true) (h : mS l = .tok k n v) : k = 1 /\ cK (l.take n) = true := by
 unfold mS at h
 split at h
 · cases h
 · rename_i h8
   cases h;refine ⟨rfl, ?_⟩;have hp : 1 <= cC aZ l := by rw [hl]; exact qB (by unfold aZ; rw [hc]; rfl)
   have hall : ∀ d ∈ l.take (cC aZ l), aZ d = true := by
    rw [xF];exact fun d hd => List.all_eq_true.1 List.all_takeWhile d hd
   have hlen : (l.take (cC aZ l)).length <= 8 := by rw [List.length_take]; omega
   rw [hl] at hall hlen |-
   obtain ⟨m, hm⟩ : ∃ m, cC aZ (c :: r) = m + 1 := ⟨cC aZ (c :: r) - 1, by rw [hl] at hp; omega⟩;rw [hm] at hall hlen |-
   rw [List.take_succ_cons] at hall hlen |-
   rw [mF, hc, decide_eq_true (by simpa using hlen), Bool.true_and, Bool.true_and, List.all_eq_true];exact fun d hd => hall d (by simp [hd])
theorem Az {l : List UInt8} {n : Nat} {k v : Int} (p : Nat) (h : dA l = .tok k n v) : eA ⟨k, l.take n, v, p⟩ := by
 have hf := uF h;cases l with
 | nil => cases h
 | cons c r =>
   simp only [dA] at h
   split at h
   · rename_i hc
     obtain ⟨rfl, hg⟩ := Co rfl hc h;exact .inl ⟨rfl, hg⟩
   · split at h
     · unfold vH at h
       split at h
       · cases h
       · split at h
         · cases h
         · cases h; exact .inr (.inl ⟨rfl, hf.2.2⟩)
     · unfold mO at h
       split at h
       · cases h
       · cases h; exact .inr (.inr rfl)
theorem EO (l : List UInt8) (p : Nat) : ∀ ts, dM l p = .ok ts -> ∀ t ∈ ts, eA t := by
 refine kQ (C := fun l p => ∀ ts, dM l p = .ok ts -> ∀ t ∈ ts, eA t) ?_ ?_ ?_ ?_ l.length l p (Nat.le_refl _)
 · intro p ts h
   rw [gV] at h; cases h;intro t ht; cases ht
 · intro r p ih ts h
   rw [cR] at h;exact ih ts h
 · intro l p e h1 h0 hf ts h
   rw [oC h0 h1 hf] at h; cases h
 · intro l p k n v h1 h0 hf hn hl ih ts h
   rw [mA h1 hn hf] at h;obtain ⟨ts', h', rfl⟩ := sQ h;intro t ht
   rcases List.mem_cons.1 ht with rfl | ht
   · exact Az p hf
   · exact ih ts' h' t ht
theorem Cv {l : List UInt8} {ts : List Tk} (h : iJ l = .ok ts) : ∀ t ∈ ts, eA t := by
 unfold iJ at h
 split at h
 · cases h
 · exact EO _ _ _ h
def OkT (t : TN) : Prop := aS t.f = 0
def qQ (o : List UInt8) : Prop := o = [43] \/ o = [45] \/ o = [42] \/ o = [47] \/ o = [37]
theorem opM {L : List Tk} {p : Nat} (h : isM L p = true) : qQ (fM L p) := by
 unfold isM isS at h;unfold fM;cases e : L[p]? with
 | none => rw [e] at h; simp at h
 | some t =>
   rw [e] at h;simp only [Bool.or_eq_true, Bool.and_eq_true, beq_iff_eq] at h
   rcases h with (⟨_, h⟩ | ⟨_, h⟩) | ⟨_, h⟩
   · exact .inr (.inr (.inl h))
   · exact .inr (.inr (.inr (.inl h)))
   · exact .inr (.inr (.inr (.inr h)))
theorem opA {L : List Tk} {p : Nat} (h : isA L p = true) : qQ (fM L p) := by
 unfold isA isS at h;unfold fM;cases e : L[p]? with
 | none => rw [e] at h; simp at h
 | some t =>
   rw [e] at h;simp only [Bool.or_eq_true, Bool.and_eq_true, beq_iff_eq] at h
   rcases h with ⟨_, h⟩ | ⟨_, h⟩
   · exact .inl h
   · exact .inr (.inl h)
theorem eT (L : List Tk) : ∀ (f : Nat) (md : Md) (s : RS), ¬ s.bad = 0 -> (pr L f md s).2 = s
 | 0, _, _, _ => rfl
 | f + 1, .fac, s, h => by rw [pr, if_neg h]
 | f + 1, .prod, s, h => by rw [pr, eT L f .fac s h, eT L f _ s h]
 | f + 1, .prodL n, s, h => by rw [pr, if_neg (by simp [h])]
 | f + 1, .sum, s, h => by rw [pr, eT L f .prod s h, eT L f _ s h]
 | f + 1, .sumL n, s, h => by rw [pr, if_neg (by simp [h])]
end
section
open Go.RowKit
theorem e9 {B : Nat} {a w : World} (h : Below B a w) (n : Nat) : Below B a (w.drewN n) := ⟨h.os, h.tape, h.output, h.size, h.block⟩
end
section
open Go.RowKit
def wJ (lim : Nat) (w : World) (a : Option Addr) (ts : List Tk) : Prop :=
 ts = [] \/ ∃ b off, a = some ⟨b, off, none⟩ /\ b < lim /\ ∀ j (h : j < ts.length), w.cell? ⟨b, off + j * 4, none⟩ = some (.int .i64 ts[j].kind) /\ w.cell? ⟨b, off + j * 4 + 1, none⟩ = some (.string ⟨ts[j].text.toArray⟩) /\
  w.cell? ⟨b, off + j * 4 + 2, none⟩ = some (.int .i64 ts[j].num) /\ w.cell? ⟨b, off + j * 4 + 3, none⟩ = some (.int .i64 ts[j].place)
theorem wJ.kept {lim : Nat} {S : Nat -> Prop} {w w' : World} {a : Option Addr} {ts : List Tk} (h : wJ lim w a ts) (hk : aG S w w') (hS : ∀ k, S k -> lim <= k) : wJ lim w' a ts := by
 rcases h with h | ⟨b, off, rfl, hlt, hc⟩
 · exact .inl h
 · have hb : ¬ S b := fun hs => by have := hS b hs; omega
   refine .inr ⟨b, off, rfl, hlt, fun j hj => ?_⟩;obtain ⟨c0, c1, c2, c3⟩ := hc j hj;exact ⟨hk.cell c0 hb, hk.cell c1 hb, hk.cell c2 hb, hk.cell c3 hb⟩
theorem AZ {w : World} {a : Option Addr} {ts : List Tk} (h : fW w a ts) : wJ w.heap.size w a ts := h.imp id fun ⟨b, off, e, hlt, hc⟩ => ⟨b, off, e, hlt, hc⟩
def Jd (n : Nat) (s : RS) : Prop := (s.bad = 0 -> s.pos <= n) /\ s.pos <= 2 * n + 1 /\ s.cnt <= 33 /\ n <= 100000
structure PW (ts : List Tk) (rb : Nat) (a : Option Addr) (c : Nat) (s : RS) (w : World) : Prop where
 r : IsR w rb a ts.length c s
 t : wJ rb w a ts
 f : Jd ts.length s
theorem oD {rb : Nat} {w0 w : World} (h : aG (· = rb) w0 w) (o : Nat) (v : Value) : aG (· = rb) w0 (w.setCell ⟨rb, o, none⟩ v) := h.setCell (p := ⟨rb, o, none⟩) (.inl rfl) v
theorem tJ {ts : List Tk} {rb : Nat} {a : Option Addr} {w : World} (h : wJ rb w a ts) {p : Nat} (hp : p < ts.length) : ∃ b off, a = some ⟨b, off, none⟩ /\ b < rb /\ w.cell? ⟨b, off + p * 4, none⟩ = some (.int .i64 ts[p].kind) /\ w.cell? ⟨b, off + p * 4 + 1, none⟩ = some (.string ⟨ts[p].text.toArray⟩) /\
 w.cell? ⟨b, off + p * 4 + 2, none⟩ = some (.int .i64 ts[p].num) /\ w.cell? ⟨b, off + p * 4 + 3, none⟩ = some (.int .i64 ts[p].place) := by
 rcases h with h | ⟨b, off, e, hlt, hc⟩
 · rw [h] at hp; simp at hp
 · exact ⟨b, off, e, hlt, hc p hp⟩
end
section
open Go.RowKit
abbrev ndO (o m : ByteArray) (n : Int) (a : Option Addr) (l c : Nat) : Obj := .cells #[.string o, .string m, .int .i64 n, .slice a l c] 34
abbrev zW (w : World) (B : Nat) (o m : ByteArray) (n : Int) (a : Option Addr) (l c : Nat) : World :=
 (((w.setCell ⟨B, 0, none⟩ (.string o)).setCell ⟨B, 1, none⟩ (.string m)).setCell ⟨B, 2, none⟩ (.int .i64 n)).setCell ⟨B, 3, none⟩ (.slice a l c)
theorem oZ (w : World) (B : Nat) (o m : ByteArray) (n : Int) (a : Option Addr) (l c : Nat) : aG (· = B) w (zW w B o m n a l c) :=
 ((((aG.refl (· = B) w).setCell (p := ⟨B, 0, none⟩) (.inl rfl) _).setCell (p := ⟨B, 1, none⟩) (.inl rfl) _).setCell (p := ⟨B, 2, none⟩) (.inl rfl) _).setCell (p := ⟨B, 3, none⟩) (.inl rfl) _
end
end
section
section
open Go.RowKit
structure FW (ts : List Tk) (rb : Nat) (a : Option Addr) (c : Nat) (s : RS) (w0 : World) (k : Int) (X : ByteArray) (n p : Int) (w : World) : Prop where
 pw : PW ts rb a c s w
 kp : aG (· = rb) w0 w
 nb : w.heap[w0.heap.size]? = some (ndO ⟨#[]⟩ ⟨#[]⟩ 0 none 0 0)
 tb : w.heap[w0.heap.size + 1]? = some (.cells #[.int .i64 k, .string X, .int .i64 n, .int .i64 p] 85 (0, 0))
end
end
section
section
open Go.RowKit
end
section
open Go.RowKit
theorem Ai (l : List UInt8) (p : Nat) : ∀ q e, dM l p = .bad q e -> e = 1 \/ e = 2 \/ e = 5 := by
 refine kQ (C := fun l p => ∀ q e, dM l p = .bad q e -> e = 1 \/ e = 2 \/ e = 5) ?_ ?_ ?_ ?_ l.length l p (Nat.le_refl _)
 · intro p q e h
   rw [gV] at h; cases h
 · intro r p ih q e h
   rw [cR] at h;exact ih q e h
 · intro l p e h1 h0 hf q e2 h
   rw [oC h0 h1 hf] at h; cases h;exact uG hf
 · intro l p k n v h1 h0 hf hn hl ih q e h
   rw [mA h1 hn hf] at h;cases hx : dM (l.drop n) (p + n) with
   | ok ts => rw [hx] at h; cases h
   | bad q' e' => rw [hx] at h; cases h; exact ih _ _ hx
theorem yM {l : List UInt8} {p : Nat} {e : Int} (h : iJ l = .bad p e) : (e == 0) = false /\ (e != 0) = true := by
 have : e = 4 \/ e = 1 \/ e = 2 \/ e = 5 := by
  unfold iJ at h
  split at h
  · cases h; exact .inl rfl
  · exact .inr (Ai _ _ _ _ h)
 rcases this with h | h | h | h <;> rw [h] <;> exact ⟨by decide, by decide⟩
end
section
open Go.RowKit
def pJ (q : Bv) (w : World) (e : Ending) (w' : World) : Prop := Below w.heap.size w w' /\
 match q with
 | .bad p er => e = .returned (.tuple #[bU ⟨#[]⟩ ⟨#[]⟩ 0 none 0 0, .int .i64 (p : Nat), .int .i64 er])
 | .ok t p => ∃ a c, e = .returned (.tuple #[bU t.op t.nm t.n a t.ks.len c, .int .i64 (p : Nat), .int .i64 0]) /\ bQ w.heap.size w' a t.ks
end
section
open Go.RowKit
theorem EP {l : List UInt8} {ts : List Tk} (h : iJ l = .ok ts) : ts.length <= 1024 := by
 unfold iJ at h
 split at h
 · cases h
 · have := (Cu _ _ _ h).2.1
   omega
end
end
end Go.Proofs.YtapcjnoaofmmiaaGreatDoor
