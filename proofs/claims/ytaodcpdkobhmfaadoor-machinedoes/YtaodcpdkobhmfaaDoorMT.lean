/- The program's machine and the document's, side by side. MachineDoes, walked: from where both machines are made on. MachineDoes, walked: lists that are too long; bytes that no machine has. -/
import Derived.Test.YtaodcpdkobhmfaaDoorT1
import Derived.Test.YtaodcpdkobhmfaaDoorMR
import Derived.Test.YtaodcpdkobhmfaaDoorMS
namespace Go.Proofs.YtaodcpdkobhmfaaDoor
open Go Go.RowKit

structure Pair (X W : World) (N L B1 s1 mb1 B2 s2 mb2 n : Nat) (m1 m2 : MS) (gv1 ov1 gv2 ov2 : Value) : Prop where
  a : Mac W B1 s1 mb1 L m1 gv1 ov1
  b : DMac W B2 s2 mb2 n L m2 gv2 ov2
  s2B : s2 < B1
  m2B : mb2 < B1
  o1 : ∀ k, ov1.ownBlock = some k → N ≤ k
  o2 : ∀ k, ov2.ownBlock = some k → N ≤ k
  sN : s1 < N
  mN : mb1 < N
  NW : N ≤ W.heap.size
  oo : ∀ k, ov1.ownBlock = some k → ov2.ownBlock ≠ some k
  tab : Tabs T W
  err : ErrT W
  X2 : 2 < X.heap.size
  XB : X.heap.size ≤ B2
  BB : B2 ≤ B1
  bel : Below X.heap.size X W

/-- A Mac of which blocks have turned that lie below it, or behind its struct. -/
theorem Mac.apart {w w' : World} {B s mb L : Nat} {m : MS} {gv ov : Value} (h : Mac w B s mb L m gv ov) {S : Nat → Prop} (ho : Off S w w') (hs : ∀ k, k < w.heap.size → S k → k ≠ mb ∧ ov.ownBlock ≠ some k ∧ (k < B ∨ s < k)) : Mac w' B s mb L m gv ov := by
  have hS : ¬ S s := fun e => by have := (hs s h.core.s0 e).2.2; have := h.Bs; omega
  have hM : ¬ S mb := fun e => (hs mb h.core.b0 e).1 rfl
  refine ⟨h.core.off ho hS hM, h.B1, h.Bs, h.Bm, ?_, ownsRow_block h.own fun k hk => ?_, h.os, h.om, h.o2, h.gB⟩
  · rcases h.giv with h' | ⟨gb, o, c, h1, h2, h3, h4, h5, h6, h7, h8⟩
    · exact .inl h'
    · refine .inr ⟨gb, o, c, h1, h2, h3, Nat.lt_of_lt_of_le h4 ho.size, h5, h6, h7, fun i hi => ?_⟩
      rw [ho.cell (p := ⟨gb, o + i, none⟩) h4 (fun e => by
        have q1 := (hs gb h4 e).2.2
        have q2 := h.gB gb (by rw [h1]; rfl)
        omega)]
      exact h8 i hi
  · obtain ⟨_, b⟩ := h.ob hk
    exact ho.block k b (fun e => (hs k b e).2.1 hk)

theorem ErrT.off {w w' : World} (h : ErrT w) {S : Nat → Prop} (ho : Off S w w') (h2 : ¬ S 2) : ErrT w' := by
  have hlt : 2 < w.heap.size := by
    rcases Nat.lt_or_ge 2 w.heap.size with h' | h'
    · exact h'
    · have hg0 : w.cell? ⟨2, 0, none⟩ = some (.iface 151 (.agg #[.pointer (some ⟨4, 30, none⟩)])) := h
      simp [World.cell?, Array.getElem?_eq_none h'] at hg0
  show w'.cell? ⟨2, 0, none⟩ = _
  rw [ho.cell (p := ⟨2, 0, none⟩) hlt h2]; exact h

section
variable {X W W' : World} {N L B1 s1 mb1 B2 s2 mb2 n n' : Nat} {m1 m2 m' : MS} {gv1 ov1 gv2 ov2 gv' ov' v' : Value}

theorem Pair.grown (h : Pair X W N L B1 s1 mb1 B2 s2 mb2 n m1 m2 gv1 ov1 gv2 ov2) (hb : Below W.heap.size W W') : Pair X W' N L B1 s1 mb1 B2 s2 mb2 n m1 m2 gv1 ov1 gv2 ov2 :=
  ⟨h.a.grown hb, h.b.grown hb, h.s2B, h.m2B, h.o1, h.o2, h.sN, h.mN, Nat.le_trans h.NW hb.size, h.oo, h.tab.below hb, h.err.below hb, h.X2, h.XB, h.BB, h.bel.trans (hb.mono h.bel.size)⟩

/-- The program's machine has gone on. -/
theorem Pair.goA (h : Pair X W N L B1 s1 mb1 B2 s2 mb2 n m1 m2 gv1 ov1 gv2 ov2) (hm : Mac W' B1 s1 mb1 L m' gv' ov') (ho : Off (Ws s1 mb1 ov1) W W') (hk : ∀ k, ov'.ownBlock = some k → ov1.ownBlock = some k ∨ W.heap.size ≤ k) : Pair X W' N L B1 s1 mb1 B2 s2 mb2 n m' m2 gv' ov' gv2 ov2 := by
  have q1 := h.a.Bs
  have q2 := h.a.Bm
  have q3 := h.s2B
  have q4 := h.m2B
  have q5 := h.sN
  have q6 := h.mN
  have q7 := h.NW
  have q8 := h.X2
  have q9 := h.XB
  have qa := h.BB
  have lo : ∀ k, Ws s1 mb1 ov1 k → B1 ≤ k := fun k e => by
    rcases e with e | e | e
    · omega
    · omega
    · have := h.o1 k e; omega
  refine ⟨hm, h.b.high ho (fun k _ e => ⟨by have := lo k e; omega, by have := lo k e; omega, fun e' => ?_⟩), q3, q4, fun k e => ?_, h.o2, q5, q6, Nat.le_trans q7 ho.size, fun k e e' => ?_, h.tab.off ho (fun e => by have := lo 0 e; omega) (fun e => by have := lo 1 e; omega), h.err.off ho (fun e => by have := lo 2 e; omega), q8, q9, qa, h.bel.trans (ho.below h.bel.size (fun i hi e => by have := lo i e; omega))⟩
  · rcases e with e | e | e
    · have := h.o2 k e'; omega
    · have := h.o2 k e'; omega
    · exact h.oo k e e'
  · rcases hk k e with e' | e'
    · exact h.o1 k e'
    · omega
  · rcases hk k e with e'' | e''
    · exact h.oo k e'' e'
    · have := (h.b.ob e').2; omega

/-- The document's machine has gone on. -/
theorem Pair.goB (h : Pair X W N L B1 s1 mb1 B2 s2 mb2 n m1 m2 gv1 ov1 gv2 ov2) (hm : DMac W' B2 s2 mb2 n' L m' gv' ov') (ho : Off (Ws s2 mb2 ov2) W W') (hk : ∀ k, ov'.ownBlock = some k → ov2.ownBlock = some k ∨ W.heap.size ≤ k) : Pair X W' N L B1 s1 mb1 B2 s2 mb2 n' m1 m' gv1 ov1 gv' ov' := by
  have q1 := h.a.Bs
  have q2 := h.a.Bm
  have q3 := h.s2B
  have q4 := h.m2B
  have q5 := h.sN
  have q6 := h.mN
  have q7 := h.NW
  have q8 := h.X2
  have q9 := h.XB
  have qa := h.BB
  have qb := h.b.Bs
  have qc := h.b.Bm
  have lo : ∀ k, Ws s2 mb2 ov2 k → B2 ≤ k := fun k e => by
    rcases e with e | e | e
    · omega
    · omega
    · have := h.o2 k e; omega
  refine ⟨h.a.apart ho (fun k _ e => ?_), hm, q3, q4, h.o1, fun k e => ?_, q5, q6, Nat.le_trans q7 ho.size, fun k e e' => ?_, h.tab.off ho (fun e => by have := lo 0 e; omega) (fun e => by have := lo 1 e; omega), h.err.off ho (fun e => by have := lo 2 e; omega), q8, q9, qa, h.bel.trans (ho.below h.bel.size (fun i hi e => by have := lo i e; omega))⟩
  · rcases e with e | e | e
    · exact ⟨by omega, fun e' => by have := h.o1 k e'; omega, by omega⟩
    · exact ⟨by omega, fun e' => by have := h.o1 k e'; omega, by omega⟩
    · have := h.o2 k e
      exact ⟨by omega, fun e' => h.oo k e' e, by omega⟩
  · rcases hk k e with e' | e'
    · exact h.o2 k e'
    · omega
  · rcases hk k e' with e'' | e''
    · exact h.oo k e e''
    · have := (h.a.ob e).2; omega
end

/-- .. with whatever lists they hold. -/
def PairE (X W : World) (N L B1 s1 mb1 B2 s2 mb2 n : Nat) (m1 m2 : MS) : Prop := ∃ gv1 ov1 gv2 ov2, Pair X W N L B1 s1 mb1 B2 s2 mb2 n m1 m2 gv1 ov1 gv2 ov2

section
variable {X W W' : World} {N L B1 s1 mb1 B2 s2 mb2 n n' : Nat} {m1 m2 m' : MS}

theorem PairE.grown (h : PairE X W N L B1 s1 mb1 B2 s2 mb2 n m1 m2) (hb : Below W.heap.size W W') : PairE X W' N L B1 s1 mb1 B2 s2 mb2 n m1 m2 := by
  obtain ⟨a, b, c, d, h⟩ := h
  exact ⟨a, b, c, d, h.grown hb⟩
theorem PairE.more (h : PairE X W N L B1 s1 mb1 B2 s2 mb2 n m1 m2) (hn : n ≤ n') : PairE X W N L B1 s1 mb1 B2 s2 mb2 n' m1 m2 := by
  obtain ⟨a, b, c, d, h⟩ := h
  exact ⟨a, b, c, d, { h with b := h.b.more hn }⟩
theorem PairE.err (h : PairE X W N L B1 s1 mb1 B2 s2 mb2 n m1 m2) : ErrT W := by
  obtain ⟨a, b, c, d, h⟩ := h
  exact h.err
theorem PairE.bel (h : PairE X W N L B1 s1 mb1 B2 s2 mb2 n m1 m2) : Below X.heap.size X W := by
  obtain ⟨a, b, c, d, h⟩ := h
  exact h.bel

theorem PairE.stepA (h : PairE X W N L B1 s1 mb1 B2 s2 mb2 n m1 m2) :
    Calls Tryd.prog 9 #[.pointer (some ⟨s1, 0, none⟩)] W fun e W' => e = .returned (.tuple #[]) ∧ PairE X W' N L B1 s1 mb1 B2 s2 mb2 n (stepV L m1) m2 := by
  obtain ⟨gv1, ov1, gv2, ov2, h⟩ := h
  exact (step_any W B1 s1 mb1 L m1 gv1 ov1 h.a h.tab).mono fun e W' ⟨h1, gv', ov', hm, ho, hk⟩ => ⟨h1, _, _, _, _, h.goA hm ho hk⟩

theorem PairE.stepB (h : PairE X W N L B1 s1 mb1 B2 s2 mb2 n m1 m2) (hL : L % 8 = 0) (hw : Wel L m2) (hn : n < 100000) :
    Calls Tryd.prog 10 #[.pointer (some ⟨s2, 0, none⟩)] W fun e W' => e = .returned (.tuple #[]) ∧ PairE X W' N L B1 s1 mb1 B2 s2 mb2 (n + 1) m1 (stepV L m2) := by
  obtain ⟨gv1, ov1, gv2, ov2, h⟩ := h
  exact (docstep_any W B2 s2 mb2 n L m2 gv2 ov2 h.b hL hw hn).mono fun e W' ⟨h1, gv', ov', hm, ho, hk⟩ => ⟨h1, _, _, _, _, h.goB hm ho hk⟩

theorem PairE.same (h : PairE X W N L B1 s1 mb1 B2 s2 mb2 n m1 m1) :
    Calls Tryd.prog 11 #[.pointer (some ⟨s1, 0, none⟩), .pointer (some ⟨s2, 0, none⟩)] W fun e W' => e = .returned (.bool true) ∧ PairE X W' N L B1 s1 mb1 B2 s2 mb2 n m1 m1 := by
  obtain ⟨gv1, ov1, gv2, ov2, h⟩ := h
  exact (same_mac W L B1 s1 mb1 B2 s2 mb2 n m1 gv1 ov1 gv2 ov2 ⟨h.a, h.b⟩).mono fun e W' ⟨h1, h2⟩ => ⟨h1, _, _, _, _, h.grown h2⟩

theorem PairE.loadB (h : PairE X W N L B1 s1 mb1 B2 s2 mb2 n m1 m2) (a : Int) :
    Calls Tryd.prog 12 #[.pointer (some ⟨s2, 0, none⟩), .int .i64 a] W fun e w' => e = .returned (.tuple #[.int .i64 (dlV L m2.M a), .int .i64 (dlE L a)]) ∧ w' = W := by
  obtain ⟨gv1, ov1, gv2, ov2, h⟩ := h
  exact dload_any W s2 mb2 n L m2 gv2 ov2 a h.b.core

theorem PairE.loadA (h : PairE X W N L B1 s1 mb1 B2 s2 mb2 n m1 m2) (a : Int) :
    Calls Tryd.prog 13 #[.pointer (some ⟨s1, 0, none⟩), .int .i64 a] W fun e w' => e = .returned (.tuple #[.int .i64 (dlV L m1.M a), loadE L a]) ∧ w' = W := by
  obtain ⟨gv1, ov1, gv2, ov2, h⟩ := h
  unfold dlV loadE
  by_cases ha : hasB L a 8 = true
  · rw [if_pos ha, if_pos ha]; exact load_yes W s1 mb1 L m1 gv1 ov1 a h.a.core ha
  · rw [if_neg ha, if_neg ha]; exact load_no W s1 mb1 L m1 gv1 ov1 a h.a.core (by simpa using ha)

/-- Memory behind a Store. -/
def stV (L : Nat) (m : MS) (a v : Int) : MS := if hasB L a 8 then { m with M := layTo m.M a.toNat (v % 18446744073709551616) 8 } else m

theorem PairE.storeA (h : PairE X W N L B1 s1 mb1 B2 s2 mb2 n m1 m2) (a v : Int) :
    Calls Tryd.prog 14 #[.pointer (some ⟨s1, 0, none⟩), .int .i64 a, .int .i64 v] W fun e W' => e = .returned (loadE L a) ∧ PairE X W' N L B1 s1 mb1 B2 s2 mb2 n (stV L m1 a v) m2 := by
  obtain ⟨gv1, ov1, gv2, ov2, h⟩ := h
  unfold stV loadE
  by_cases ha : hasB L a 8 = true
  · rw [if_pos ha, if_pos ha]
    exact (store_yes W s1 mb1 L m1 gv1 ov1 a v h.a.core ha).mono fun e W' ⟨h1, hc, ho⟩ => ⟨h1, _, _, _, _, h.goA (h.a.inM ho hc rfl rfl) ho.wm (fun _ e => .inl e)⟩
  · rw [if_neg ha, if_neg ha]
    exact (store_no W s1 mb1 L m1 gv1 ov1 a v h.a.core (by simpa using ha)).mono fun e W' ⟨h1, h2⟩ => ⟨h1, by subst h2; exact ⟨_, _, _, _, h⟩⟩

theorem PairE.storeB (h : PairE X W N L B1 s1 mb1 B2 s2 mb2 n m1 m2) (a v : Int) (hv : I64 v) (hn : n < 100000) :
    Calls Tryd.prog 15 #[.pointer (some ⟨s2, 0, none⟩), .int .i64 a, .int .i64 v] W fun e W' => e = .returned (.int .i64 (dlE L a)) ∧ PairE X W' N L B1 s1 mb1 B2 s2 mb2 (n + 1) m1 (stV L m2 a v) := by
  obtain ⟨gv1, ov1, gv2, ov2, h⟩ := h
  unfold stV dlE
  by_cases ha : hasB L a 8 = true
  · rw [if_pos ha, if_pos ha]
    exact (dstore_yes W s2 mb2 n L m2 gv2 ov2 a v h.b.core ha hv.1 hv.2 hn).mono fun e W' ⟨h1, hc, ho⟩ => ⟨h1, _, _, _, _, h.goB ((h.b.more (Nat.le_succ n)).inM (off_of_grown ho) hc rfl rfl) (off_of_grown ho).wm (fun _ e => .inl e)⟩
  · rw [if_neg ha, if_neg ha]
    exact (dstore_no W s2 mb2 n L m2 gv2 ov2 a v h.b.core (by simpa using ha)).mono fun e W' ⟨h1, h2⟩ => ⟨h1, by subst h2; exact ⟨_, _, _, _, { h with b := h.b.more (Nat.le_succ n) }⟩⟩

theorem stV_wel {L : Nat} {m : MS} (h : Wel L m) (a v : Int) : Wel L (stV L m a v) := by
  unfold stV
  split
  · exact h.store' _ _
  · exact h

/-- Run of the program's machine: a list of its own, apart from all. -/
theorem PairE.runA (h : PairE X W N L B1 s1 mb1 B2 s2 mb2 n m1 m2) (F : Nat) (hF : F ≤ 1000000) :
    Calls Tryd.prog 17 #[.pointer (some ⟨s1, 0, none⟩), .int .i64 (F : Int)] W fun e W' => ∃ v', e = .returned (.agg #[.int .i64 (wayV (runV L F m1)), .int .i64 (runV L F m1).code, v']) ∧ ∃ gv1 ov1 gv2 ov2, Pair X W' N L B1 s1 mb1 B2 s2 mb2 n (runV L F m1) m2 gv1 ov1 gv2 ov2 ∧ W'.ownsRow N 2 1 v' (runV L F m1).out.length (outL (runV L F m1).out) ∧ ∀ k, v'.ownBlock = some k → ov2.ownBlock ≠ some k := by
  obtain ⟨gv1, ov1, gv2, ov2, h⟩ := h
  refine (run_any W B1 s1 mb1 L F m1 gv1 ov1 h.a h.tab hF).mono fun e W' ⟨v', gv', ov', h1, hr⟩ => ⟨v', h1, gv', ov', gv2, ov2, h.goA hr.mac hr.off hr.ovk, own_mono hr.own h.NW, fun k e e' => ?_⟩
  have h3 := (hr.own.lt k e).1
  have h4 := (h.b.ob e').2
  omega

/-- .. and then of the document's. -/
theorem Pair.runB {gv1 ov1 gv2 ov2 v' : Value} {l : List Int} (h : Pair X W N L B1 s1 mb1 B2 s2 mb2 n m1 m2 gv1 ov1 gv2 ov2) (F : Nat) (hL : L % 8 = 0) (hw : Wel L m2) (hF : n + F < 100000) (hv : W.ownsRow N 2 1 v' l.length (outL l)) (hk : ∀ k, v'.ownBlock = some k → ov2.ownBlock ≠ some k) :
    Calls Tryd.prog 18 #[.pointer (some ⟨s2, 0, none⟩), .int .i64 (F : Int)] W fun e W' => ∃ v2, e = .returned (.agg #[.int .i64 (wayV (runV L F m2)), .int .i64 (runV L F m2).code, v2]) ∧ PairE X W' N L B1 s1 mb1 B2 s2 mb2 (n + F) m1 (runV L F m2) ∧ Rd W' v' l ∧ Rd W' v2 (runV L F m2).out ∧ (runV L F m2).out.length ≤ 200 := by
  refine (docrun_any W B2 s2 mb2 n L F m2 gv2 ov2 h.b hL hw hF).mono fun e W' ⟨gv', ov', h1, hm, ho, hk'⟩ => ⟨ov', h1, ⟨_, _, _, _, h.goB hm ho hk'⟩, ?_, Rd.of_own hm.own, hm.o2⟩
  refine Rd.of_own (ownsRow_block hv fun k e => ho.block k (hv.lt k e).2 ?_)
  have q1 := (hv.lt k e).1
  have q2 := h.s2B
  have q3 := h.m2B
  have q4 := h.a.Bs
  have q5 := h.sN
  rintro (e' | e' | e')
  · omega
  · omega
  · exact hk k e e'
end
end Go.Proofs.YtaodcpdkobhmfaaDoor

namespace Go.Proofs.YtaodcpdkobhmfaaDoor
open Go Go.RowKit

theorem GivIn.of_own {w : World} {B : Nat} {v : Value} {G : List Int} (h : w.ownsRow B 2 1 v G.length (outL G)) : GivIn w v G := by
  rcases h.2 with ⟨h1, h2⟩ | ⟨g, cap, cur, hv, hg, hh, h3, h4, h5, h6⟩
  · exact .inl ⟨List.length_eq_zero_iff.1 h2, none, 0, by rw [h1]⟩
  · refine .inr ⟨g, 0, cap, hv, h3, by simpa [maxLen] using h4, (h.lt g (by rw [hv]; rfl)).2, fun i hi => ?_⟩
    subst hv
    have := h.cells (g := g) rfl i (.int .i64 G[i]) (by simp [outL, hi])
    rw [Nat.zero_add]
    have e : (⟨g, 0, none⟩ : Addr).add i = ⟨g, i, none⟩ := by unfold Addr.add; split <;> simp_all
    rw [e] at this
    exact this

/-- The numbers at which memory is asked. -/
structure AtV (w : World) (av : Value) (A : List Int) : Prop where
  rd : Rd w av A
  rng : ∀ x ∈ A, I64 x

theorem pair_new {X w1 w2 w3 : World} {L s1 mb1 s2 mb2 : Nat} {m : MS} {gv1 gv2 : Value} (hX : 2 < X.heap.size) (ht : Tabs T X) (he : ErrT X) (hb1 : Below X.heap.size X w1) (hD : DMac w2 w1.heap.size s2 mb2 60 L m gv2 (.slice none 0 0)) (hb2 : Below w1.heap.size w1 w2)
    (hM : Mac w3 w2.heap.size s1 mb1 L m gv1 (.slice none 0 0)) (hb3 : Below w2.heap.size w2 w3) : PairE X w3 w3.heap.size L w2.heap.size s1 mb1 w1.heap.size s2 mb2 60 m m := by
  have h1 := hb1.size
  have h2 := hb2.size
  have bX : Below X.heap.size X w3 := (hb1.trans (hb2.mono h1)).trans (hb3.mono (Nat.le_trans h1 h2))
  exact ⟨gv1, _, gv2, _, hM, hD.grown hb3, hD.core.s0, hD.core.b0, fun k e => by simp [Value.ownBlock] at e, fun k e => by simp [Value.ownBlock] at e, hM.core.s0, hM.core.b0, Nat.le_refl _, fun k e => by simp [Value.ownBlock] at e, ht.below bX, he.below bX, hX, h1, h2, bX⟩
end Go.Proofs.YtaodcpdkobhmfaaDoor

namespace Go.Proofs.YtaodcpdkobhmfaaDoor
open Go Go.RowKit

set_option maxRecDepth 100000 in
set_option maxHeartbeats 1000000 in
theorem does_long (w : World) (q r t : Option Addr) (n c k d a e : Nat) (y x : Int) (h : 60 < n ∨ 20 < k ∨ 20 < a) :
    Calls Tryd.prog 3 #[.slice q n c, .int .i64 y, .slice r k d, .int .i64 x, .slice t a e] w fun ev w' => ev = .returned (.bool true) ∧ Below w.heap.size w w' := by
  by_cases h1 : 60 < n
  · have h1' : (60 : Int) < (n : Int) := by omega
    go_enter Tryd.func3, Tryd.ntmps3
    go_wp2
    go_ret
    exact ⟨rfl, Below.refl _ _⟩
  · have h1' : ¬ (60 : Int) < (n : Int) := by omega
    by_cases h2 : 20 < k
    · have h2' : (20 : Int) < (k : Int) := by omega
      go_enter Tryd.func3, Tryd.ntmps3
      go_wp2
      go_ret
      exact ⟨rfl, Below.refl _ _⟩
    · have h2' : ¬ (20 : Int) < (k : Int) := by omega
      have h3' : (20 : Int) < (a : Int) := by omega
      go_enter Tryd.func3, Tryd.ntmps3
      go_wp2
      go_ret
      exact ⟨rfl, Below.refl _ _⟩

set_option maxRecDepth 100000 in
set_option maxHeartbeats 2000000 in
/-- No machine is made: both tell the same. -/
theorem does_none (X : World) (q r t : Option Addr) (n c d a e : Nat) (y x j : Int) (G : List Int) (hn : n ≤ 60) (hk : G.length ≤ 20) (ha : a ≤ 20) (hG : Src X (.slice r G.length d) G) (he : ErrT X) (hj : (0 : Int) < j)
    (h6 : ∀ (w : World) (iv : Value), Calls Tryd.prog 6 #[.slice q n c, .int .i64 y, iv] w fun e w' => e = .returned (.tuple #[.pointer none, .int .i64 j]) ∧ w' = w)
    (h7 : ∀ (w : World) (iv : Value), Calls Tryd.prog 7 #[.slice q n c, .int .i64 y, iv] w fun e w' => e = .returned (.tuple #[.pointer none, errV j]) ∧ w' = w) :
    Calls Tryd.prog 3 #[.slice q n c, .int .i64 y, .slice r G.length d, .int .i64 x, .slice t a e] X fun ev w' => ev = .returned (.bool true) ∧ Below X.heap.size X w' := by
  have H6 : Hid (∀ (w : World) (iv : Value), Calls Tryd.prog 6 #[.slice q n c, .int .i64 y, iv] w fun e w' => e = .returned (.tuple #[.pointer none, .int .i64 j]) ∧ w' = w) := h6
  have H7 : Hid (∀ (w : World) (iv : Value), Calls Tryd.prog 7 #[.slice q n c, .int .i64 y, iv] w fun e w' => e = .returned (.tuple #[.pointer none, errV j]) ∧ w' = w) := h7
  have HE : Hid (∀ w', Below X.heap.size X w' → Calls Tryd.prog 8 #[errV j, .int .i64 j] w' fun e w'' => e = .returned (.bool true) ∧ Below X.heap.size X w'') := fun w' hb => (bare_err j j w' (he.below hb)).mono fun e w'' ⟨h1, h2⟩ => ⟨by rw [h1]; simp, hb.trans (h2.mono hb.size)⟩
  obtain ⟨i0, hi0, hz0, hz1, hz2⟩ := info_parts info2
  clear h6 h7 he
  rcases hG with ⟨hv, hl⟩ | ⟨ad, c2, hv, hc⟩
  · subst hl
    injection hv with hr _ hd
    subst hr hd
    have HB1 : Hid (Below X.heap.size X (X.alloc (.cells #[] 2))) := (Below.refl X.heap.size X).alloc (Nat.le_refl _) _
    go_enter Tryd.func3, Tryd.ntmps3
    go_wp2_with (first
      | (go_at_call 6; refine (H6.out _ _).mono ?_; rintro e w1 ⟨rfl, rfl⟩)
      | (go_at_call 7; refine (H7.out _ _).mono ?_; rintro e w1 ⟨rfl, rfl⟩)
      | (go_at_call 8; refine (HE.out _ HB1.out).mono ?_; rintro e w1 ⟨rfl, hb2⟩; have HB1 : Hid (Below X.heap.size X w1) := hb2; clear hb2)
      | go_in)
    go_ret
    exact ⟨rfl, HB1.out⟩
  · injection hv with hr _ hd
    subst hr hd
    have HN : Hid (∀ j u, (outL G)[j]? = some u → (X.alloc (.cells #[] 2)).cell? (ad.add j) = some u) := fun j u hu => by
      have h0 := hc j u hu
      rw [World.cell?_alloc_lt _ _ _ (block_lt_of_cell h0)]; exact h0
    have HOW : Hid ((X.alloc (.cells #[] 2)).ownsRow X.heap.size 2 1 (.slice (some ⟨X.heap.size, 0, none⟩) 0 0) 0 []) := World.ownsRow_made (base := X.heap.size) (e := 2) (size := 1) X #[] 0 (Nat.le_refl _) (by unfold maxLen; omega) rfl
    clear hc
    go_enter Tryd.func3, Tryd.ntmps3
    go_wp2_with (first
      | (at_builtin; refine wpList_append_own _ rfl _ _ 23 rfl X.heap.size 2 i0 (.int .i64 0) 1 8 Tryd.underlying23 hi0 hz0 hz1 hz2 rfl (by decide) (.slice (some ⟨X.heap.size, 0, none⟩) 0 0) 0 [] rfl HOW.out ad G.length d (outL G) rfl (by simp [outL]) HN.out (outL_one G) (by unfold maxLen; omega) (by omega) (by simp) ?_; intro v' w1 hown hgrow _; have HB1 : Hid (Below X.heap.size X w1) := ((Below.refl X.heap.size X).alloc (Nat.le_refl _) _).grown hgrow (by simp) (fun k e => by simp [Value.ownBlock] at e; omega); clear hown hgrow)
      | (go_at_call 6; refine (H6.out _ _).mono ?_; rintro e w1 ⟨rfl, rfl⟩)
      | (go_at_call 7; refine (H7.out _ _).mono ?_; rintro e w1 ⟨rfl, rfl⟩)
      | (go_at_call 8; refine (HE.out _ HB1.out).mono ?_; rintro e w1 ⟨rfl, hb2⟩; have HB1 : Hid (Below X.heap.size X w1) := hb2; clear hb2)
      | go_in)
    go_ret
    exact ⟨rfl, HB1.out⟩
end Go.Proofs.YtaodcpdkobhmfaaDoor
