/- Two machines side by side: one goes, the other stays as it is. -/
import Derived.Test.YtbobbmkmfcdeeaaDoorI3
import Derived.Test.YtbobbmkmfcdeeaaDoorI5
namespace Go.Proofs.YtbobbmkmfcdeeaaDoor
open Go Go.RowKit

structure Two (W : World) (N B1 s1 mb1 : Nat) (m1 : MS) (gv1 ov1 : Value) (B2 s2 mb2 : Nat) (m2 : MS) (gv2 ov2 : Value) : Prop where
  a : Mac W B1 s1 mb1 512 m1 gv1 ov1
  b : Mac W B2 s2 mb2 512 m2 gv2 ov2
  s12 : s1 < B2
  m12 : mb1 < B2
  g2 : ∀ k, gv2.ownBlock = some k → B2 ≤ k ∧ k < N
  o1 : ∀ k, ov1.ownBlock = some k → N ≤ k
  o2 : ∀ k, ov2.ownBlock = some k → N ≤ k
  sN : s2 < N
  mN : mb2 < N
  NW : N ≤ W.heap.size
  oo : ∀ k, ov1.ownBlock = some k → ov2.ownBlock ≠ some k

/-- A block that neither machine turns. -/
structure Safe (W : World) (N : Nat) (ov1 ov2 : Value) (k : Nat) : Prop where
  lo : N ≤ k
  hi : k < W.heap.size
  n1 : ov1.ownBlock ≠ some k
  n2 : ov2.ownBlock ≠ some k

section
variable {W W' : World} {N B1 s1 mb1 B2 s2 mb2 : Nat} {m1 m2 m' : MS} {gv1 ov1 gv2 ov2 v' gv' ov' : Value}

theorem Two.grown (h : Two W N B1 s1 mb1 m1 gv1 ov1 B2 s2 mb2 m2 gv2 ov2) (hb : Below W.heap.size W W') : Two W' N B1 s1 mb1 m1 gv1 ov1 B2 s2 mb2 m2 gv2 ov2 :=
  ⟨h.a.grown hb, h.b.grown hb, h.s12, h.m12, h.g2, h.o1, h.o2, h.sN, h.mN, Nat.le_trans h.NW hb.size, h.oo⟩
theorem Safe.grown {k : Nat} (h : Safe W N ov1 ov2 k) (hb : Below W.heap.size W W') : Safe W' N ov1 ov2 k ∧ W'.heap[k]? = W.heap[k]? := ⟨⟨h.lo, Nat.lt_of_lt_of_le h.hi hb.size, h.n1, h.n2⟩, hb.block k h.hi⟩

theorem Two.run1 (h : Two W N B1 s1 mb1 m1 gv1 ov1 B2 s2 mb2 m2 gv2 ov2) (r : Ran W B1 s1 mb1 512 m' ov1 v' W' gv' ov') : Two W' N B1 s1 mb1 m' gv' ov' B2 s2 mb2 m2 gv2 ov2 := by
  have hs2 := h.b.Bs
  have hm2 := h.b.Bm
  have hsN := h.sN
  have hmN := h.mN
  have hNW := h.NW
  have h12 := h.s12
  have hm12 := h.m12
  refine ⟨r.mac, h.b.off r.off (fun k hk e => ?_), h.s12, h.m12, h.g2, fun k e => ?_, h.o2, h.sN, h.mN, Nat.le_trans h.NW r.off.size, fun k e e' => ?_⟩
  · rcases e with e | e | e
    · refine ⟨by omega, by omega, fun e' => ?_, fun e' => ?_⟩
      · have := h.o2 k e'; omega
      · have := (h.g2 k e').1; omega
    · refine ⟨by omega, by omega, fun e' => ?_, fun e' => ?_⟩
      · have := h.o2 k e'; omega
      · have := (h.g2 k e').1; omega
    · have hk1 := h.o1 k e
      refine ⟨by omega, by omega, h.oo k e, fun e' => ?_⟩
      have := (h.g2 k e').2; omega
  · rcases r.ovk k e with e' | e'
    · exact h.o1 k e'
    · omega
  · rcases r.ovk k e with e'' | e''
    · exact h.oo k e'' e'
    · have := (h.b.ob e').2; omega

theorem Safe.run1 {k : Nat} (h : Two W N B1 s1 mb1 m1 gv1 ov1 B2 s2 mb2 m2 gv2 ov2) (r : Ran W B1 s1 mb1 512 m' ov1 v' W' gv' ov') (hk : Safe W N ov1 ov2 k) : Safe W' N ov' ov2 k ∧ W'.heap[k]? = W.heap[k]? := by
  have hs2 := h.b.Bs
  have hm2 := h.b.Bm
  have hsN := h.sN
  have hmN := h.mN
  have h12 := h.s12
  have hm12 := h.m12
  have hlo := hk.lo
  have hhi := hk.hi
  refine ⟨⟨hk.lo, Nat.lt_of_lt_of_le hk.hi r.off.size, fun e => ?_, hk.n2⟩, r.off.block k hk.hi (fun e => ?_)⟩
  · rcases r.ovk k e with e' | e'
    · exact hk.n1 e'
    · omega
  · rcases e with e | e | e
    · omega
    · omega
    · exact hk.n1 e

theorem Two.run2 (h : Two W N B1 s1 mb1 m1 gv1 ov1 B2 s2 mb2 m2 gv2 ov2) (r : Ran W B2 s2 mb2 512 m' ov2 v' W' gv' ov') : Mac W' B1 s1 mb1 512 m1 gv1 ov1 := by
  have hs2 := h.b.Bs
  have hm2 := h.b.Bm
  have hsN := h.sN
  have hmN := h.mN
  have hNW := h.NW
  have h12 := h.s12
  have hm12 := h.m12
  refine h.a.high r.off (fun k hk e => ?_)
  rcases e with e | e | e
  · refine ⟨by omega, by omega, fun e' => ?_⟩
    have := h.o1 k e'; omega
  · refine ⟨by omega, by omega, fun e' => ?_⟩
    have := h.o1 k e'; omega
  · have hk1 := h.o2 k e
    exact ⟨by omega, by omega, fun e' => h.oo k e' e⟩

theorem Safe.run2 {k : Nat} (h : Two W N B1 s1 mb1 m1 gv1 ov1 B2 s2 mb2 m2 gv2 ov2) (r : Ran W B2 s2 mb2 512 m' ov2 v' W' gv' ov') (hk : Safe W N ov1 ov2 k) : Safe W' N ov1 ov' k ∧ W'.heap[k]? = W.heap[k]? := by
  have hs2 := h.b.Bs
  have hm2 := h.b.Bm
  have hsN := h.sN
  have hmN := h.mN
  have hlo := hk.lo
  have hhi := hk.hi
  refine ⟨⟨hk.lo, Nat.lt_of_lt_of_le hk.hi r.off.size, hk.n1, fun e => ?_⟩, r.off.block k hk.hi (fun e => ?_)⟩
  · rcases r.ovk k e with e' | e'
    · exact hk.n2 e'
    · omega
  · rcases e with e | e | e
    · omega
    · omega
    · exact hk.n2 e

/-- What was told, in a list of its own. -/
structure Told (W : World) (N : Nat) (ov1 ov2 v : Value) (l : List Int) : Prop where
  own : W.ownsRow N 2 1 v l.length (outL l)
  sf : ∀ k, v.ownBlock = some k → Safe W N ov1 ov2 k

theorem Told.grown {v : Value} {l : List Int} (h : Told W N ov1 ov2 v l) (hb : Below W.heap.size W W') : Told W' N ov1 ov2 v l :=
  ⟨ownsRow_block h.own fun k e => ((h.sf k e).grown hb).2, fun k e => ((h.sf k e).grown hb).1⟩
theorem Told.run1 {v : Value} {l : List Int} (h : Two W N B1 s1 mb1 m1 gv1 ov1 B2 s2 mb2 m2 gv2 ov2) (r : Ran W B1 s1 mb1 512 m' ov1 v' W' gv' ov') (t : Told W N ov1 ov2 v l) : Told W' N ov' ov2 v l :=
  ⟨ownsRow_block t.own fun k e => (Safe.run1 h r (t.sf k e)).2, fun k e => (Safe.run1 h r (t.sf k e)).1⟩
theorem Told.run2 {v : Value} {l : List Int} (h : Two W N B1 s1 mb1 m1 gv1 ov1 B2 s2 mb2 m2 gv2 ov2) (r : Ran W B2 s2 mb2 512 m' ov2 v' W' gv' ov') (t : Told W N ov1 ov2 v l) : Told W' N ov1 ov' v l :=
  ⟨ownsRow_block t.own fun k e => (Safe.run2 h r (t.sf k e)).2, fun k e => (Safe.run2 h r (t.sf k e)).1⟩

theorem Told.new1 (h : Two W N B1 s1 mb1 m1 gv1 ov1 B2 s2 mb2 m2 gv2 ov2) (r : Ran W B1 s1 mb1 512 m' ov1 v' W' gv' ov') : Told W' N ov' ov2 v' m'.out := by
  refine ⟨own_mono r.own h.NW, fun k e => ?_⟩
  have hl := r.own.lt k e
  have hn := h.NW
  exact ⟨by omega, hl.2, r.apart k e, fun e' => by have := (h.b.ob e').2; omega⟩
theorem Told.new2 (h : Two W N B1 s1 mb1 m1 gv1 ov1 B2 s2 mb2 m2 gv2 ov2) (r : Ran W B2 s2 mb2 512 m' ov2 v' W' gv' ov') : Told W' N ov1 ov' v' m'.out := by
  refine ⟨own_mono r.own h.NW, fun k e => ?_⟩
  have hl := r.own.lt k e
  have hn := h.NW
  exact ⟨by omega, hl.2, fun e' => by have := (h.a.ob e').2; omega, r.apart k e⟩

/-- A new block. -/
theorem Safe.new (h : Two W N B1 s1 mb1 m1 gv1 ov1 B2 s2 mb2 m2 gv2 ov2) (o : Obj) : Safe (W.alloc o) N ov1 ov2 W.heap.size :=
  ⟨h.NW, by simp, fun e => by have := (h.a.ob e).2; omega, fun e => by have := (h.b.ob e).2; omega⟩
end
end Go.Proofs.YtbobbmkmfcdeeaaDoor
