/- LB LC -/
import Derived.Test.YtnfhpdbbfejioaaGreatDoorE24
namespace Go.Proofs.YtnfhpdbbfejioaaGreatDoor.Mid
set_option linter.unusedVariables false
set_option linter.unusedSimpArgs false
set_option maxRecDepth 100000
set_option maxHeartbeats 16000000
open Go Go.RowKit
def sCv (s : Ms) (av : Value) : List Value := [.int .i64 s.code, .int .i64 s.dst, .int .i64 s.a, .int .i64 s.b, .int .i64 s.c, .int .i64 s.n, .string ⟨s.op.toArray⟩, .int .i64 s.label, .string ⟨s.name.toArray⟩, av]
def rowV : List Ms → List Value → List Value
  | s :: ss, a :: vs => sCv s a ++ rowV ss vs
  | _, _ => []
theorem rowV_get : ∀ (ss : List Ms) (vs : List Value) (j : Nat) (s : Ms) (a : Value), ss[j]? = some s → vs[j]? = some a → ∀ i, i < 10 → (rowV ss vs)[j * 10 + i]? = (sCv s a)[i]?
  | s :: ss, a :: vs, 0, s', a', h, g, i, hi => by
    simp only [List.getElem?_cons_zero, Option.some.injEq] at h g
    subst h g
    show (sCv s a ++ rowV ss vs)[0 * 10 + i]? = _
    rw [List.getElem?_append_left (by have : (sCv s a).length = 10 := rfl; omega)]
    congr 1
    omega
  | s :: ss, a :: vs, j + 1, s', a', h, g, i, hi => by
    simp only [List.getElem?_cons_succ] at h g
    have := rowV_get ss vs j s' a' h g i hi
    have e : (sCv s a).length = 10 := rfl
    show (sCv s a ++ rowV ss vs)[(j + 1) * 10 + i]? = _
    rw [List.getElem?_append_right (by omega), e, show (j + 1) * 10 + i - 10 = j * 10 + i by omega]
    exact this
theorem rowV_snoc : ∀ (ss : List Ms) (vs : List Value) (s : Ms) (a : Value), vs.length = ss.length → rowV (ss ++ [s]) (vs ++ [a]) = rowV ss vs ++ sCv s a
  | [], [], s, a, _ => by simp [rowV]
  | s' :: ss, a' :: vs, s, a, h => by
    simp only [List.cons_append, rowV, rowV_snoc ss vs s a (by simpa using h), List.append_assoc]
def ArAt (R : Nat → Nat) (w : World) (v : Value) (l : List Int) : Prop :=
  ∃ q c, v = .slice q l.length c ∧ (l = [] ∨ ∃ g cs, q = some ⟨g, 0, none⟩ ∧ R g = 0 ∧ w.heap[g]? = some (.cells cs 3) ∧ ∀ (j : Nat) (x : Int), l[j]? = some x → cs[j]? = some (Value.int .i64 x))
theorem ArAt.none (R : Nat → Nat) (w : World) : ArAt R w (.slice none 0 0) [] := ⟨_, _, rfl, .inl rfl⟩
structure Lw (P : Nat) (R R' : Nat → Nat) (w w' : World) : Prop where
  bel : Below (P - 1) w w'
  role : ∀ b, b < w.heap.size → R' b = R b
  keep : ∀ b, b < w.heap.size → (R b = 0 ∨ 7 ≤ R b) → w'.heap[b]? = w.heap[b]?
theorem Lw.refl (P : Nat) (R : Nat → Nat) (w : World) : Lw P R R w w := ⟨Below.refl _ _, fun _ _ => rfl, fun _ _ _ => rfl⟩
theorem Lw.trans {P : Nat} {R R1 R2 : Nat → Nat} {w w1 w2 : World} (h : Lw P R R1 w w1) (g : Lw P R1 R2 w1 w2) : Lw P R R2 w w2 :=
  ⟨h.bel.trans g.bel, fun b hb => (g.role b (Nat.lt_of_lt_of_le hb h.bel.size)).trans (h.role b hb), fun b hb h0 => (g.keep b (Nat.lt_of_lt_of_le hb h.bel.size) (by rw [h.role b hb]; exact h0)).trans (h.keep b hb h0)⟩
theorem ArAt.kept {P : Nat} {R R' : Nat → Nat} {w w' : World} {v : Value} {l : List Int} (h : ArAt R w v l) (hl : Lw P R R' w w') : ArAt R' w' v l := by
  obtain ⟨q, c, e, h⟩ := h
  refine ⟨q, c, e, ?_⟩
  rcases h with h | ⟨g, cs, e1, e2, e3, e4⟩
  · exact .inl h
  · have hlt := (Array.getElem?_eq_some_iff.1 e3).1
    exact .inr ⟨g, cs, e1, (hl.role g hlt).trans e2, (hl.keep g hlt (.inl e2)).trans e3, e4⟩
def noI : Option Nat → Int
  | none => -1
  | some p => p
def nmF (l : List (By × Nat)) : Lit → Option Value
  | .string x => (l.lookup x).map fun (p : Nat) => .int .i64 (p : Int)
  | _ => none
abbrev nats (l : List Nat) : List Value := l.map fun (p : Nat) => .int .i64 (p : Int)
structure WrOk (s : Wr) : Prop where
  ts : s.ts.length ≤ 100000
  ss : s.ss.length ≤ 100000
  p1 : s.sp1.length ≤ s.ts.length
  p2 : s.sp2.length ≤ s.ts.length
  nm : s.nm.length ≤ 100000
  lb : s.lb ≤ 100000
  u1 : s.u1 ≤ 100001
  u2 : s.u2 ≤ 100001
  oks : ∀ x ∈ s.ss, okS x = true
  okt : ∀ x ∈ s.ts, okI x = true
  s1 : ∀ p ∈ s.sp1, p < 100000
  s2 : ∀ p ∈ s.sp2, p < 100000
  no : ∀ p, s.no = some p → p < 100000
  nms : ∀ x ∈ s.nm, x.2 < 100000
structure Wc (R : Nat → Nat) (w : World) (P mb : Nat) (tv sv v1 v2 : Value) (s : Wr) : Prop where
  blk : w.heap[P]? = some (.cells #[tv, sv, .map (some mb), .slice none 0 0, v1, v2, .int .i64 0, .int .i64 s.u1, .int .i64 s.u2, .int .i64 (noI s.no), .int .i64 s.lb] 159)
  t : w.ownsRow P 3 1 tv s.ts.length (q_ s.ts)
  st : ∃ avs, avs.length = s.ss.length ∧ w.ownsRow P 125 10 sv s.ss.length (rowV s.ss avs) ∧ ∀ (j : Nat) (x : Ms) (a : Value), s.ss[j]? = some x → avs[j]? = some a → ArAt R w a x.args
  p1 : w.ownsRow P 3 1 v1 s.sp1.length (nats s.sp1)
  p2 : w.ownsRow P 3 1 v2 s.sp2.length (nats s.sp2)
  m : ∃ n, Mp 9 w mb (nmF s.nm) n ∧ n ≤ s.nm.length
  rP : R P = 6
  rt : ∀ i, tv.ownBlock = some i → R i = 1
  rs : ∀ i, sv.ownBlock = some i → R i = 2
  r1 : ∀ i, v1.ownBlock = some i → R i = 3
  r2 : ∀ i, v2.ownBlock = some i → R i = 4
  rm : R mb = 5
  lo : ∀ b, R b ≠ 0 → P - 1 ≤ b ∧ b < w.heap.size
  ok : WrOk s
def WrM (R : Nat → Nat) (w : World) (P mb : Nat) (s : Wr) : Prop := ∃ tv sv v1 v2, Wc R w P mb tv sv v1 v2 s
theorem own_on {w w' : World} {B e z n : Nat} {v : Value} {l : List Value} (h : w.ownsRow B e z v n l) (hk : ∀ i, v.ownBlock = some i → i < w.heap.size → w'.heap[i]? = w.heap[i]?) : w'.ownsRow B e z v n l := qr h (fun i hi => hk i hi (own_lt h i hi))
section
variable {R R' : Nat → Nat} {w w' : World} {P mb : Nat} {tv sv v1 v2 : Value} {s : Wr}
theorem Wc.ltP (h : Wc R w P mb tv sv v1 v2 s) : P < w.heap.size := (Array.getElem?_eq_some_iff.1 h.blk).1
theorem Wc.part (h : Wc R w P mb tv sv v1 v2 s) {r : Nat} (hk : ∀ b, b < w.heap.size → R b ≠ r → R b ≠ 6 → w'.heap[b]? = w.heap[b]?) (hr : ∀ b, b < w.heap.size → R' b = R b) (h0 : r ≠ 0 ∧ r ≤ 6) (hb : Below (P - 1) w w') :
    Lw P R R' w w' ∧ (r ≠ 1 → w'.ownsRow P 3 1 tv s.ts.length (q_ s.ts)) ∧ (r ≠ 2 → ∃ avs, avs.length = s.ss.length ∧ w'.ownsRow P 125 10 sv s.ss.length (rowV s.ss avs) ∧ ∀ (j : Nat) (x : Ms) (a : Value), s.ss[j]? = some x → avs[j]? = some a → ArAt R' w' a x.args) ∧ (r ≠ 3 → w'.ownsRow P 3 1 v1 s.sp1.length (nats s.sp1)) ∧ (r ≠ 4 → w'.ownsRow P 3 1 v2 s.sp2.length (nats s.sp2)) ∧ (r ≠ 5 → ∃ n, Mp 9 w' mb (nmF s.nm) n ∧ n ≤ s.nm.length) := by
  have hl : Lw P R R' w w' := ⟨hb, hr, fun b hb h => hk b hb (by omega) (by omega)⟩
  refine ⟨hl, fun hn => ?_, fun hn => ?_, fun hn => ?_, fun hn => ?_, fun hn => ?_⟩
  · exact own_on h.t (fun i hi hlt => hk i hlt (by rw [h.rt i hi]; omega) (by rw [h.rt i hi]; omega))
  · obtain ⟨avs, a1, a2, a3⟩ := h.st
    exact ⟨avs, a1, own_on a2 (fun i hi hlt => hk i hlt (by rw [h.rs i hi]; omega) (by rw [h.rs i hi]; omega)), fun j x a hx ha => (a3 j x a hx ha).kept hl⟩
  · exact own_on h.p1 (fun i hi hlt => hk i hlt (by rw [h.r1 i hi]; omega) (by rw [h.r1 i hi]; omega))
  · exact own_on h.p2 (fun i hi hlt => hk i hlt (by rw [h.r2 i hi]; omega) (by rw [h.r2 i hi]; omega))
  · obtain ⟨n, a1, a2⟩ := h.m
    exact ⟨n, a1.kept (hk mb a1.lt (by rw [h.rm]; omega) (by rw [h.rm]; omega)), a2⟩
theorem Wc.roles (h : Wc R w P mb tv sv v1 v2 s) (hr : ∀ b, b < w.heap.size → R' b = R b) : R' P = 6 ∧ (∀ i, tv.ownBlock = some i → R' i = 1) ∧ (∀ i, sv.ownBlock = some i → R' i = 2) ∧ (∀ i, v1.ownBlock = some i → R' i = 3) ∧ (∀ i, v2.ownBlock = some i → R' i = 4) ∧ R' mb = 5 := by
  obtain ⟨avs, a1, a2, a3⟩ := h.st
  obtain ⟨n, m1, m2⟩ := h.m
  exact ⟨(hr P h.ltP).trans h.rP, fun i hi => (hr i (own_lt h.t i hi)).trans (h.rt i hi), fun i hi => (hr i (own_lt a2 i hi)).trans (h.rs i hi), fun i hi => (hr i (own_lt h.p1 i hi)).trans (h.r1 i hi), fun i hi => (hr i (own_lt h.p2 i hi)).trans (h.r2 i hi), (hr mb m1.lt).trans h.rm⟩
theorem Wc.on (h : Wc R w P mb tv sv v1 v2 s) (hk : ∀ b, b < w.heap.size → w'.heap[b]? = w.heap[b]?) (hb : Below (P - 1) w w') : Wc R w' P mb tv sv v1 v2 s := by
  obtain ⟨hl, a1, a2, a3, a4, a5⟩ := h.part (r := 6) (R' := R) (w' := w') (fun b hb _ _ => hk b hb) (fun _ _ => rfl) (by omega) hb
  exact ⟨by rw [hk P h.ltP]; exact h.blk, a1 (by omega), a2 (by omega), a3 (by omega), a4 (by omega), a5 (by omega), h.rP, h.rt, h.rs, h.r1, h.r2, h.rm, fun b hb' => ⟨(h.lo b hb').1, Nat.lt_of_lt_of_le (h.lo b hb').2 hb.size⟩, h.ok⟩
theorem WrM.on (h : WrM R w P mb s) (hk : ∀ b, b < w.heap.size → w'.heap[b]? = w.heap[b]?) (hb : Below (P - 1) w w') : WrM R w' P mb s := by
  obtain ⟨tv, sv, v1, v2, h⟩ := h
  exact ⟨tv, sv, v1, v2, h.on hk hb⟩
theorem Wc.setU (h : Wc R w P mb tv sv v1 v2 s) {s' : Wr} {no : Int} (hb : Below (P - 1) w w') (hk : ∀ b, b < w.heap.size → b ≠ P → w'.heap[b]? = w.heap[b]?) (hP : w'.heap[P]? = some (.cells #[tv, sv, .map (some mb), .slice none 0 0, v1, v2, .int .i64 0, .int .i64 s'.u1, .int .i64 s'.u2, .int .i64 (noI s'.no), .int .i64 s'.lb] 159)) (e1 : s'.ts = s.ts) (e2 : s'.ss = s.ss) (e3 : s'.nm = s.nm) (e4 : s'.sp1 = s.sp1) (e5 : s'.sp2 = s.sp2) (ok : WrOk s') : Wc R w' P mb tv sv v1 v2 s' ∧ Lw P R R w w' := by
  obtain ⟨hl, a1, a2, a3, a4, a5⟩ := h.part (r := 6) (R' := R) (w' := w') (fun b hb h1 _ => hk b hb (fun e => h1 (by rw [e]; exact h.rP))) (fun _ _ => rfl) (by omega) hb
  exact ⟨⟨hP, by rw [e1]; exact a1 (by omega), by rw [e2]; exact a2 (by omega), by rw [e4]; exact a3 (by omega), by rw [e5]; exact a4 (by omega), by rw [e3]; exact a5 (by omega), h.rP, h.rt, h.rs, h.r1, h.r2, h.rm, fun b hb' => ⟨(h.lo b hb').1, Nat.lt_of_lt_of_le (h.lo b hb').2 hb.size⟩, ok⟩, hl⟩
end
def rol (R : Nat → Nat) (g r : Nat) : Nat → Nat := fun b => if b = g then r else R b
section
variable {R : Nat → Nat} {w w1 w' : World} {P mb : Nat} {tv sv v1 v2 : Value} {s : Wr}
theorem rol_old {g r : Nat} (hg : ∀ b, b < w.heap.size → b = g → R b = r) (b : Nat) (hb : b < w.heap.size) : rol R g r b = R b := by
  unfold rol
  split
  · rename_i e; exact (hg b hb e).symm
  · rfl
theorem grown_in {v : Value} {A : Obj} {g r k : Nat} (h : Wc R w P mb tv sv v1 v2 s) (hr : ∀ i, v.ownBlock = some i → R i = r) (hv : ∀ i, v.ownBlock = some i → P ≤ i ∧ i < w.heap.size) (hgr : (w.alloc A).grownBy w1 v.ownBlock) (hg : v.ownBlock = some g ∨ g = w.heap.size + 1) (hr0 : r ≠ 0) (x : Value) :
    (∀ b, b < w.heap.size → R b ≠ r → R b ≠ 6 → (w1.setCell ⟨P, k, none⟩ x).heap[b]? = w.heap[b]?) ∧ (∀ b, b < w.heap.size → rol R g r b = R b) ∧ Below (P - 1) w (w1.setCell ⟨P, k, none⟩ x) ∧ w.heap.size ≤ (w1.setCell ⟨P, k, none⟩ x).heap.size := by
  have hsz : (w1.setCell ⟨P, k, none⟩ x).heap.size = w1.heap.size := by simp
  have hs1 := hgr.size
  have hk1 : ∀ b, b < w.heap.size → v.ownBlock ≠ some b → w1.heap[b]? = w.heap[b]? := fun b hb hne => by
    rw [hgr.block b (by simp; omega) (fun e => hne e.symm), zc hb]
  have hoth : ∀ b, b ≠ P → (w1.setCell ⟨P, k, none⟩ x).heap[b]? = w1.heap[b]? := fun b hb => heap_setCell_other _ _ _ _ hb
  have hsz1 : w.heap.size + 1 ≤ w1.heap.size := by simpa using hs1
  refine ⟨fun b hb h1 h2 => ?_, fun b hb => rol_old (fun b hb e => ?_) b hb, ?_, by omega⟩
  · rw [hoth b (fun e => h2 (by rw [e]; exact h.rP)), hk1 b hb (fun e => h1 (hr b e))]
  · rcases hg with hg | rfl
    · exact hr b (by rw [e]; exact hg)
    · omega
  · refine ⟨hgr.os, hgr.tape, hgr.output, by omega, fun b hb => ?_⟩
    have hP := h.ltP
    rw [hoth b (by omega), hk1 b (by omega) (fun e => by have := (hv b e).1; omega)]
theorem rol_lo {g r : Nat} (h : Wc R w P mb tv sv v1 v2 s) (hg : (P ≤ g ∧ g < w'.heap.size)) (hs : w.heap.size ≤ w'.heap.size) (b : Nat) (hb : rol R g r b ≠ 0) : P - 1 ≤ b ∧ b < w'.heap.size := by
  unfold rol at hb
  split at hb
  · rename_i e; rw [e]; omega
  · have := h.lo b hb; omega
theorem Wc.appT (h : Wc R w P mb tv sv v1 v2 s) {A : Obj} {g cap : Nat} {k : Int} (hgr : (w.alloc A).grownBy w1 tv.ownBlock) (ho : w1.ownsRow P 3 1 (.slice (some ⟨g, 0, none⟩) (s.ts.length + 1) cap) (s.ts.length + 1) (q_ s.ts ++ [.int .i64 k])) (hg : tv.ownBlock = some g ∨ g = w.heap.size + 1) (hgl : g < w1.heap.size) (hok : WrOk { s with ts := s.ts ++ [k] }) :
    Wc (rol R g 1) (w1.setCell ⟨P, 0, none⟩ (.slice (some ⟨g, 0, none⟩) (s.ts.length + 1) cap)) P mb (.slice (some ⟨g, 0, none⟩) (s.ts.length + 1) cap) sv v1 v2 { s with ts := s.ts ++ [k] } ∧ Lw P R (rol R g 1) w (w1.setCell ⟨P, 0, none⟩ (.slice (some ⟨g, 0, none⟩) (s.ts.length + 1) cap)) := by
  have hv : ∀ i, tv.ownBlock = some i → P ≤ i ∧ i < w.heap.size := fun i hi => h.t.lt i hi
  obtain ⟨hk, hr, hb, hsz⟩ := grown_in (r := 1) (k := 0) h h.rt hv hgr hg (by omega) (.slice (some ⟨g, 0, none⟩) (s.ts.length + 1) cap)
  obtain ⟨hl, a1, a2, a3, a4, a5⟩ := h.part hk hr (by omega) hb
  obtain ⟨r0, r1, r2, r3, r4, r5⟩ := h.roles hr
  have hP1 : w1.heap[P]? = w.heap[P]? := by
    rw [hgr.block P (by have := h.ltP; simp; omega) (fun e => by have := h.rP; rw [h.rt P e.symm] at this; omega), zc h.ltP]
  have hPg : g ≠ P := fun e => by
    rcases hg with hg | hg
    · have := h.rt g hg; rw [e, h.rP] at this; omega
    · have := h.ltP; omega
  have hPg2 : P ≤ g := by
    rcases hg with hg | hg
    · exact (hv g hg).1
    · have := h.ltP; omega
  have hnew : ∀ i, (Value.slice (some ⟨g, 0, none⟩) (s.ts.length + 1) cap).ownBlock = some i → rol R g 1 i = 1 := fun i hi => by
    injection hi with hi
    have hi : g = i := hi
    subst hi
    exact if_pos rfl
  have ho2 := qr (w' := (w1.setCell ⟨P, 0, none⟩ (.slice (some ⟨g, 0, none⟩) (s.ts.length + 1) cap))) ho (fun i hi => heap_setCell_other _ _ _ _ (by injection hi with hi; have hi : g = i := hi; subst hi; exact hPg))
  refine ⟨⟨?_, ?_, a2 (by omega), a3 (by omega), a4 (by omega), a5 (by omega), r0, hnew, r2, r3, r4, r5, fun b hb' => rol_lo (w' := (w1.setCell ⟨P, 0, none⟩ (.slice (some ⟨g, 0, none⟩) (s.ts.length + 1) cap))) h ⟨hPg2, by simp; omega⟩ hsz b hb', hok⟩, hl⟩
  · exact heap_setCell_same _ _ _ _ _ _ (hP1.trans h.blk)
  · have e1 : (s.ts ++ [k]).length = s.ts.length + 1 := by simp
    show World.ownsRow _ P 3 1 _ (s.ts ++ [k]).length (q_ (s.ts ++ [k]))
    rw [e1, show (q_ (s.ts ++ [k])) = q_ s.ts ++ [.int .i64 k] by simp]
    exact ho2
theorem Wc.appS (h : Wc R w P mb tv sv v1 v2 s) {A : Obj} {g cap : Nat} {x : Ms} {av : Value} {avs : List Value} (ha1 : avs.length = s.ss.length) (ha2 : w.ownsRow P 125 10 sv s.ss.length (rowV s.ss avs)) (ha3 : ∀ (j : Nat) (x : Ms) (a : Value), s.ss[j]? = some x → avs[j]? = some a → ArAt R w a x.args) (hav : ArAt R w av x.args) (hgr : (w.alloc A).grownBy w1 sv.ownBlock) (ho : w1.ownsRow P 125 10 (.slice (some ⟨g, 0, none⟩) (s.ss.length + 1) cap) (s.ss.length + 1) (rowV s.ss avs ++ sCv x av)) (hg : sv.ownBlock = some g ∨ g = w.heap.size + 1) (hgl : g < w1.heap.size) (hok : WrOk { s with ss := s.ss ++ [x] }) :
    Wc (rol R g 2) (w1.setCell ⟨P, 1, none⟩ (.slice (some ⟨g, 0, none⟩) (s.ss.length + 1) cap)) P mb tv (.slice (some ⟨g, 0, none⟩) (s.ss.length + 1) cap) v1 v2 { s with ss := s.ss ++ [x] } ∧ Lw P R (rol R g 2) w (w1.setCell ⟨P, 1, none⟩ (.slice (some ⟨g, 0, none⟩) (s.ss.length + 1) cap)) := by
  have hst2 := ha2
  have hv : ∀ i, sv.ownBlock = some i → P ≤ i ∧ i < w.heap.size := fun i hi => hst2.lt i hi
  obtain ⟨hk, hr, hb, hsz⟩ := grown_in (r := 2) (k := 1) h h.rs hv hgr hg (by omega) (.slice (some ⟨g, 0, none⟩) (s.ss.length + 1) cap)
  obtain ⟨hl, a1, a2, a3, a4, a5⟩ := h.part hk hr (by omega) hb
  obtain ⟨r0, r1, r2, r3, r4, r5⟩ := h.roles hr
  have hP1 : w1.heap[P]? = w.heap[P]? := by
    rw [hgr.block P (by have := h.ltP; simp; omega) (fun e => by have := h.rP; rw [h.rs P e.symm] at this; omega), zc h.ltP]
  have hPg : g ≠ P := fun e => by
    rcases hg with hg | hg
    · have := h.rs g hg; rw [e, h.rP] at this; omega
    · have := h.ltP; omega
  have hPg2 : P ≤ g := by
    rcases hg with hg | hg
    · exact (hv g hg).1
    · have := h.ltP; omega
  have hnew : ∀ i, (Value.slice (some ⟨g, 0, none⟩) (s.ss.length + 1) cap).ownBlock = some i → rol R g 2 i = 2 := fun i hi => by
    injection hi with hi
    have hi : g = i := hi
    subst hi
    exact if_pos rfl
  have ho2 := qr (w' := (w1.setCell ⟨P, 1, none⟩ (.slice (some ⟨g, 0, none⟩) (s.ss.length + 1) cap))) ho (fun i hi => heap_setCell_other _ _ _ _ (by injection hi with hi; have hi : g = i := hi; subst hi; exact hPg))
  refine ⟨⟨?_, a1 (by omega), ?_, a3 (by omega), a4 (by omega), a5 (by omega), r0, r1, hnew, r3, r4, r5, fun b hb' => rol_lo (w' := (w1.setCell ⟨P, 1, none⟩ (.slice (some ⟨g, 0, none⟩) (s.ss.length + 1) cap))) h ⟨hPg2, by simp; omega⟩ hsz b hb', hok⟩, hl⟩
  · exact heap_setCell_same _ _ _ _ _ _ (hP1.trans h.blk)
  · refine ⟨avs ++ [av], by simp [ha1], ?_, fun j x a hx ha => ?_⟩
    · have e1 : (s.ss ++ [x]).length = s.ss.length + 1 := by simp
      show World.ownsRow _ P 125 10 _ (s.ss ++ [x]).length (rowV (s.ss ++ [x]) (avs ++ [av]))
      rw [e1, rowV_snoc _ _ _ _ ha1]
      exact ho2
    · rcases Nat.lt_or_ge j s.ss.length with hlt | hge
      · rw [List.getElem?_append_left (by omega)] at hx ha
        exact (ha3 j _ a hx ha).kept hl
      · have e : j = s.ss.length := by
          have := (List.getElem?_eq_some_iff.1 hx).1
          simp at this
          omega
        subst e
        rw [List.getElem?_append_right (Nat.le_refl _), Nat.sub_self] at hx
        rw [← ha1, List.getElem?_append_right (Nat.le_refl _), Nat.sub_self] at ha
        simp only [List.getElem?_cons_zero, Option.some.injEq] at hx ha
        subst hx ha
        exact hav.kept hl
theorem Wc.app1 (h : Wc R w P mb tv sv v1 v2 s) {A : Obj} {g cap : Nat} {p : Nat} (hgr : (w.alloc A).grownBy w1 v1.ownBlock) (ho : w1.ownsRow P 3 1 (.slice (some ⟨g, 0, none⟩) (s.sp1.length + 1) cap) (s.sp1.length + 1) (nats s.sp1 ++ [.int .i64 (p : Int)])) (hg : v1.ownBlock = some g ∨ g = w.heap.size + 1) (hgl : g < w1.heap.size) (hok : WrOk { s with sp1 := s.sp1 ++ [p] }) :
    Wc (rol R g 3) (w1.setCell ⟨P, 4, none⟩ (.slice (some ⟨g, 0, none⟩) (s.sp1.length + 1) cap)) P mb tv sv (.slice (some ⟨g, 0, none⟩) (s.sp1.length + 1) cap) v2 { s with sp1 := s.sp1 ++ [p] } ∧ Lw P R (rol R g 3) w (w1.setCell ⟨P, 4, none⟩ (.slice (some ⟨g, 0, none⟩) (s.sp1.length + 1) cap)) := by
  have hv : ∀ i, v1.ownBlock = some i → P ≤ i ∧ i < w.heap.size := fun i hi => h.p1.lt i hi
  obtain ⟨hk, hr, hb, hsz⟩ := grown_in (r := 3) (k := 4) h h.r1 hv hgr hg (by omega) (.slice (some ⟨g, 0, none⟩) (s.sp1.length + 1) cap)
  obtain ⟨hl, a1, a2, a3, a4, a5⟩ := h.part hk hr (by omega) hb
  obtain ⟨r0, r1, r2, r3, r4, r5⟩ := h.roles hr
  have hP1 : w1.heap[P]? = w.heap[P]? := by
    rw [hgr.block P (by have := h.ltP; simp; omega) (fun e => by have := h.rP; rw [h.r1 P e.symm] at this; omega), zc h.ltP]
  have hPg : g ≠ P := fun e => by
    rcases hg with hg | hg
    · have := h.r1 g hg; rw [e, h.rP] at this; omega
    · have := h.ltP; omega
  have hPg2 : P ≤ g := by
    rcases hg with hg | hg
    · exact (hv g hg).1
    · have := h.ltP; omega
  have hnew : ∀ i, (Value.slice (some ⟨g, 0, none⟩) (s.sp1.length + 1) cap).ownBlock = some i → rol R g 3 i = 3 := fun i hi => by
    injection hi with hi
    have hi : g = i := hi
    subst hi
    exact if_pos rfl
  have ho2 := qr (w' := (w1.setCell ⟨P, 4, none⟩ (.slice (some ⟨g, 0, none⟩) (s.sp1.length + 1) cap))) ho (fun i hi => heap_setCell_other _ _ _ _ (by injection hi with hi; have hi : g = i := hi; subst hi; exact hPg))
  refine ⟨⟨?_, a1 (by omega), a2 (by omega), ?_, a4 (by omega), a5 (by omega), r0, r1, r2, hnew, r4, r5, fun b hb' => rol_lo (w' := (w1.setCell ⟨P, 4, none⟩ (.slice (some ⟨g, 0, none⟩) (s.sp1.length + 1) cap))) h ⟨hPg2, by simp; omega⟩ hsz b hb', hok⟩, hl⟩
  · exact heap_setCell_same _ _ _ _ _ _ (hP1.trans h.blk)
  · have e1 : (s.sp1 ++ [p]).length = s.sp1.length + 1 := by simp
    show World.ownsRow _ P 3 1 _ (s.sp1 ++ [p]).length (nats (s.sp1 ++ [p]))
    rw [e1, show (nats (s.sp1 ++ [p])) = nats s.sp1 ++ [.int .i64 (p : Int)] by simp]
    exact ho2
theorem Wc.app2 (h : Wc R w P mb tv sv v1 v2 s) {A : Obj} {g cap : Nat} {p : Nat} (hgr : (w.alloc A).grownBy w1 v2.ownBlock) (ho : w1.ownsRow P 3 1 (.slice (some ⟨g, 0, none⟩) (s.sp2.length + 1) cap) (s.sp2.length + 1) (nats s.sp2 ++ [.int .i64 (p : Int)])) (hg : v2.ownBlock = some g ∨ g = w.heap.size + 1) (hgl : g < w1.heap.size) (hok : WrOk { s with sp2 := s.sp2 ++ [p] }) :
    Wc (rol R g 4) (w1.setCell ⟨P, 5, none⟩ (.slice (some ⟨g, 0, none⟩) (s.sp2.length + 1) cap)) P mb tv sv v1 (.slice (some ⟨g, 0, none⟩) (s.sp2.length + 1) cap) { s with sp2 := s.sp2 ++ [p] } ∧ Lw P R (rol R g 4) w (w1.setCell ⟨P, 5, none⟩ (.slice (some ⟨g, 0, none⟩) (s.sp2.length + 1) cap)) := by
  have hv : ∀ i, v2.ownBlock = some i → P ≤ i ∧ i < w.heap.size := fun i hi => h.p2.lt i hi
  obtain ⟨hk, hr, hb, hsz⟩ := grown_in (r := 4) (k := 5) h h.r2 hv hgr hg (by omega) (.slice (some ⟨g, 0, none⟩) (s.sp2.length + 1) cap)
  obtain ⟨hl, a1, a2, a3, a4, a5⟩ := h.part hk hr (by omega) hb
  obtain ⟨r0, r1, r2, r3, r4, r5⟩ := h.roles hr
  have hP1 : w1.heap[P]? = w.heap[P]? := by
    rw [hgr.block P (by have := h.ltP; simp; omega) (fun e => by have := h.rP; rw [h.r2 P e.symm] at this; omega), zc h.ltP]
  have hPg : g ≠ P := fun e => by
    rcases hg with hg | hg
    · have := h.r2 g hg; rw [e, h.rP] at this; omega
    · have := h.ltP; omega
  have hPg2 : P ≤ g := by
    rcases hg with hg | hg
    · exact (hv g hg).1
    · have := h.ltP; omega
  have hnew : ∀ i, (Value.slice (some ⟨g, 0, none⟩) (s.sp2.length + 1) cap).ownBlock = some i → rol R g 4 i = 4 := fun i hi => by
    injection hi with hi
    have hi : g = i := hi
    subst hi
    exact if_pos rfl
  have ho2 := qr (w' := (w1.setCell ⟨P, 5, none⟩ (.slice (some ⟨g, 0, none⟩) (s.sp2.length + 1) cap))) ho (fun i hi => heap_setCell_other _ _ _ _ (by injection hi with hi; have hi : g = i := hi; subst hi; exact hPg))
  refine ⟨⟨?_, a1 (by omega), a2 (by omega), a3 (by omega), ?_, a5 (by omega), r0, r1, r2, r3, hnew, r5, fun b hb' => rol_lo (w' := (w1.setCell ⟨P, 5, none⟩ (.slice (some ⟨g, 0, none⟩) (s.sp2.length + 1) cap))) h ⟨hPg2, by simp; omega⟩ hsz b hb', hok⟩, hl⟩
  · exact heap_setCell_same _ _ _ _ _ _ (hP1.trans h.blk)
  · have e1 : (s.sp2 ++ [p]).length = s.sp2.length + 1 := by simp
    show World.ownsRow _ P 3 1 _ (s.sp2 ++ [p]).length (nats (s.sp2 ++ [p]))
    rw [e1, show (nats (s.sp2 ++ [p])) = nats s.sp2 ++ [.int .i64 (p : Int)] by simp]
    exact ho2
end
theorem info125 : (Tryz.prog.info? 125).map (fun i => (i.zero, i.size, i.bytes)) = some (some (.agg #[.int .i64 0, .int .i64 0, .int .i64 0, .int .i64 0, .int .i64 0, .int .i64 0, .string ⟨#[]⟩, .int .i64 0, .string ⟨#[]⟩, .slice none 0 0]), 10, 112) := by kernel_rfl
theorem info3 : (Tryz.prog.info? 3).map (fun i => (i.zero, i.size, i.bytes)) = some (some (.int .i64 0), 1, 8) := by kernel_rfl
theorem und101 : Tryz.prog.underlying 101 = some (.slice 125) := Tryz.underlying101
theorem und100 : Tryz.prog.underlying 100 = some (.slice 3) := Tryz.underlying100
theorem wpl_run_append {P : Program} (w : World) {ops : Array Oper} {rest : List Oper} {o : Oper} {a : Act} {Q : Exit → Act → World → Prop} (hgd : o.guard = none) (s x : Operand) (t tx : TypeId)
    (ho : o.op = .call { callee := .builtin .append, args := #[s, x], argTypes := #[t, tx] }) {v xv v' : Value} {w' : World} (hv : a.eval s = v) (hx : a.eval x = xv)
    (hrun : (Builtin.append_ #[t, tx] o.type #[v, xv]).run P w = .ok v' w') (hK : wpList P ops Q rest (a.put o.dst v') w') : wpList P ops Q (o :: rest) a w := by
  refine wpList_plain hgd fun K hK' => ?_
  unfold Oper.wp
  simp [execOp, ho, resolve, invoke, builtin, hv, hx, hrun, Result.andThen]
  exact hK' _ _ hK
theorem ap_row (e t size bytes : Nat) (z : Value) (hinf : (Tryz.prog.info? e).map (fun i => (i.zero, i.size, i.bytes)) = some (some z, size, bytes)) (hzs : z.cells.size = size) (hsz : 0 < size) (hb64 : bytes ≤ 1000) (ht : Tryz.prog.underlying t = some (.slice e)) (w : World) (B : Nat) (v : Value) (n : Nat) (zs : List Value) (h : w.ownsRow B e size v n zs) (news : List Value) (hnl : news.length = size) (h1 : ∀ u ∈ news, u.oneCell' = true) (hn : n ≤ 100000) (hB : B ≤ w.heap.size) :
    ∃ g cap W', (Builtin.append_ #[t, t] t #[v, .slice (some ⟨w.heap.size, 0, none⟩) 1 1]).run Tryz.prog (w.alloc (.cells news.toArray e)) = .ok (.slice (some ⟨g, 0, none⟩) (n + 1) cap) W' ∧ W'.ownsRow B e size (.slice (some ⟨g, 0, none⟩) (n + 1) cap) (n + 1) (zs ++ news) ∧ (w.alloc (.cells news.toArray e)).grownBy W' v.ownBlock ∧ (v.ownBlock = some g ∨ g = w.heap.size + 1) ∧ g < W'.heap.size := by
  obtain ⟨i, hi2, hz0, hz1, hz2⟩ := info_parts hinf
  have hown : (w.alloc (.cells news.toArray e)).ownsRow B e size v n zs := qr h (fun i hi => zc (own_lt h i hi))
  obtain ⟨g, cap, W', hr, h2, h3, h4, h5⟩ := run_append_lies (P := Tryz.prog) (w.alloc (.cells news.toArray e)) t t B e i z size bytes ht hi2 hz0 hz1 hz2 hzs hsz v n zs hown ⟨w.heap.size, 0, none⟩ 1 1 news (by rw [hnl]; omega) (World.news_of_block (cs := news.toArray) (t := e) (fr := (0, 0)) (heap_alloc_last w _)) h1 (by omega) (by unfold maxLen; omega) (Nat.le_trans (Nat.mul_le_mul (show n + 1 ≤ 100001 by omega) hb64) (by omega)) (by simp; omega) (w.heap.size + 1) (by simp)
  exact ⟨g, cap, W', hr, h2, h3, h4, h5⟩
def LuP (P : Nat) (R : Nat → Nat) (mb : Nat) (w : World) (s' : Wr) (e : Ending) (w' : World) : Prop := e = .returned (.tuple #[]) ∧ ∃ R', WrM R' w' P mb s' ∧ Lw P R R' w w'
def LnP (P : Nat) (R : Nat → Nat) (mb : Nat) (w : World) (x : Int) (s' : Wr) (e : Ending) (w' : World) : Prop := e = .returned (.int .i64 x) ∧ ∃ R', WrM R' w' P mb s' ∧ Lw P R R' w w'
theorem addL_some {x : Ms} {s s' : Wr} {u : Unit} (h : qU x s = some (u, s')) : s.ss.length < 100000 ∧ okS x = true ∧ s' = { s with ss := s.ss ++ [x] } := by
  unfold qU at h
  split at h
  · rename_i hc
    simp only [Bool.and_eq_true, decide_eq_true_eq] at hc
    injection h with h
    injection h with _ h
    exact ⟨hc.1, hc.2, h.symm⟩
  · cases h
theorem placeL_some {k : Int} {s s' : Wr} {p : Nat} (h : placeL k s = some (p, s')) : s.ts.length < 100000 ∧ okI k = true ∧ p = s.ts.length ∧ s' = { s with ts := s.ts ++ [k] } := by
  unfold placeL at h
  split at h
  · rename_i hc
    simp only [Bool.and_eq_true, decide_eq_true_eq] at hc
    injection h with h
    injection h with h1 h
    exact ⟨hc.1, hc.2, h1.symm, h.symm⟩
  · cases h
theorem WrOk.step {s : Wr} (h : WrOk s) {x : Ms} (hl : s.ss.length < 100000) (hx : okS x = true) : WrOk { s with ss := s.ss ++ [x] } :=
  ⟨h.ts, by show (s.ss ++ [x]).length ≤ 100000; simp; omega, h.p1, h.p2, h.nm, h.lb, h.u1, h.u2, fun y hy => by
    rcases List.mem_append.1 hy with hy | hy
    · exact h.oks y hy
    · rw [List.mem_singleton] at hy; subst hy; exact hx, h.okt, h.s1, h.s2, h.no, h.nms⟩
theorem WrOk.place {s : Wr} (h : WrOk s) {k : Int} (hl : s.ts.length < 100000) (hx : okI k = true) : WrOk { s with ts := s.ts ++ [k] } :=
  ⟨by show (s.ts ++ [k]).length ≤ 100000; simp; omega, h.ss, by show s.sp1.length ≤ (s.ts ++ [k]).length; have := h.p1; simp; omega, by show s.sp2.length ≤ (s.ts ++ [k]).length; have := h.p2; simp; omega, h.nm, h.lb, h.u1, h.u2, h.oks, fun y hy => by
    rcases List.mem_append.1 hy with hy | hy
    · exact h.okt y hy
    · rw [List.mem_singleton] at hy; subst hy; exact hx, h.s1, h.s2, h.no, h.nms⟩
theorem sCv_one (x : Ms) (av : Value) (hav : av.oneCell' = true) : ∀ u ∈ sCv x av, u.oneCell' = true := fun u hu => by
  unfold sCv at hu
  simp only [List.mem_cons, List.not_mem_nil, or_false] at hu
  rcases hu with rfl | rfl | rfl | rfl | rfl | rfl | rfl | rfl | rfl | rfl <;> first | rfl | exact hav
theorem step_run_append {P : Program} {ops : Array Oper} {o : Oper} {a : Act} {w : World} {K : Act → World → Prop} {Q : Exit → Act → World → Prop} {E : Prop} (hg : o.guard = none) (s x : Operand) (t : TypeId)
    (hop : o.op = Op.call { callee := Callee.builtin Builtin.append, args := #[s, x], argTypes := #[t, t] }) {v xv v' : Value} {w' : World} (hv : a.eval s = v) (hx : a.eval x = xv)
    (hrun : (Builtin.append_ #[t, t] o.type #[v, xv]).run P w = .ok v' w') (hK : K (a.put o.dst v') w') : if Region.wanted o (yielded ops a.tmps) = true then Oper.wp P o a w K Q else E := by
  have hw : Region.wanted o (yielded ops a.tmps) = true := by simp [Region.wanted, hg]
  rw [if_pos hw]
  unfold Oper.wp
  simp [execOp, hop, resolve, invoke, builtin, hv, hx, hrun, Result.andThen]
  exact hK
theorem zl (B : Nat) (w : World) : Below B w w.drew := (Below.refl _ _).drew
theorem add_any {R : Nat → Nat} {w : World} {P mb : Nat} {s s' : Wr} {x : Ms} {u : Unit} (h : WrM R w P mb s) (qa : Option Addr) (na ca : Nat) (hav : ArAt R w (.slice qa na ca) x.args) (hx : qU x s = some (u, s')) :
    Calls Tryz.prog 70 #[ptr P, .agg #[.int .i64 x.code, .int .i64 x.dst, .int .i64 x.a, .int .i64 x.b, .int .i64 x.c, .int .i64 x.n, .string ⟨x.op.toArray⟩, .int .i64 x.label, .string ⟨x.name.toArray⟩, .slice qa na ca]] w (LuP P R mb w s') := by
  obtain ⟨hl, hok, rfl⟩ := addL_some hx
  obtain ⟨tv, sv, v1, v2, h⟩ := h
  obtain ⟨yo, hyo⟩ : ∃ y : ByteArray, y = ⟨x.op.toArray⟩ := ⟨_, rfl⟩
  obtain ⟨yn, hyn⟩ : ∃ y : ByteArray, y = ⟨x.name.toArray⟩ := ⟨_, rfl⟩
  obtain ⟨A, hA⟩ : ∃ A : Obj, A = .cells (sCv x (.slice qa na ca)).toArray 125 := ⟨_, rfl⟩
  obtain ⟨W1, hW1⟩ : ∃ W1, W1 = w.alloc A := ⟨_, rfl⟩
  have hk1 : ∀ b, b < w.heap.size → W1.drew.heap[b]? = w.heap[b]? := fun b hb => by
    rw [hW1]
    exact zc (A := A) hb
  have hbel : Below (P - 1) w W1.drew := by rw [hW1]; exact ((zt w A).drew).mono (by have := h.ltP; omega)
  have h0 := h.on hk1 hbel
  have hl0 : Lw P R R w W1.drew := ⟨hbel, fun _ _ => rfl, fun b hb _ => hk1 b hb⟩
  have hz1 : W1.heap.size = w.heap.size + 1 := by rw [hW1]; simp
  have hbx : W1.heap[w.heap.size]? = some A := by rw [hW1]; exact heap_alloc_last w _
  rw [hA] at hbx
  obtain ⟨avs, a1, a2, a3⟩ := h0.st
  obtain ⟨g, cap, W2, hr, ho, hgr, hg, hgl⟩ := ap_row 125 101 10 112 _ info125 rfl (by decide) (by omega) und101 W1.drew P sv s.ss.length _ a2 (sCv x (.slice qa na ca)) rfl (sCv_one x _ rfl) (by omega) (Nat.le_of_lt h0.ltP)
  obtain ⟨hW, hL⟩ := h0.appS a1 a2 a3 (hav.kept hl0) hgr ho hg hgl (h0.ok.step hl hok)
  obtain ⟨q, c, rfl⟩ := zd a2
  have b2 : W2.heap[P]? = _ := (hgr.block P (by have : P < W1.heap.size := h0.ltP; simp; omega) (fun e => by have := h0.rP; rw [h0.rs P e.symm] at this; omega)).trans ((zc h0.ltP).trans h0.blk)
  have c1 : W1.cell? ⟨P, 1, none⟩ = some (.slice q s.ss.length c) := z_ (w := W1.drew) (i := 1) h0.blk rfl
  have ca1 : ∀ A, (W1.alloc A).cell? ⟨P, 1, none⟩ = some (.slice q s.ss.length c) := fun A => zk c1
  have c2 : W2.cell? ⟨P, 1, none⟩ = some (.slice q s.ss.length c) := z_ (i := 1) b2 rfl
  have f2 : W2.frozen? ⟨P, 1, none⟩ = false := zb b2 1
  have s0 : W1.cell? ⟨w.heap.size, 0, none⟩ = some (.int .i64 x.code) := z_ (w := W1.drew) (i := 0) hbx rfl
  have s1 : W1.cell? ⟨w.heap.size, 1, none⟩ = some (.int .i64 x.dst) := z_ (w := W1.drew) (i := 1) hbx rfl
  have s2 : W1.cell? ⟨w.heap.size, 2, none⟩ = some (.int .i64 x.a) := z_ (w := W1.drew) (i := 2) hbx rfl
  have s3 : W1.cell? ⟨w.heap.size, 3, none⟩ = some (.int .i64 x.b) := z_ (w := W1.drew) (i := 3) hbx rfl
  have s4 : W1.cell? ⟨w.heap.size, 4, none⟩ = some (.int .i64 x.c) := z_ (w := W1.drew) (i := 4) hbx rfl
  have s5 : W1.cell? ⟨w.heap.size, 5, none⟩ = some (.int .i64 x.n) := z_ (w := W1.drew) (i := 5) hbx rfl
  have s6 : W1.cell? ⟨w.heap.size, 6, none⟩ = some (.string yo) := by rw [hyo]; exact z_ (w := W1.drew) (i := 6) hbx rfl
  have s7 : W1.cell? ⟨w.heap.size, 7, none⟩ = some (.int .i64 x.label) := z_ (w := W1.drew) (i := 7) hbx rfl
  have s8 : W1.cell? ⟨w.heap.size, 8, none⟩ = some (.string yn) := by rw [hyn]; exact z_ (w := W1.drew) (i := 8) hbx rfl
  have s9 : W1.cell? ⟨w.heap.size, 9, none⟩ = some (.slice qa na ca) := z_ (w := W1.drew) (i := 9) hbx rfl
  have HR : Hid ((Builtin.append_ #[101, 101] 101 #[.slice q s.ss.length c, .slice (some ⟨w.heap.size + 1, 0, none⟩) 1 1]).run Tryz.prog (W1.alloc (.cells #[.int .i64 x.code, .int .i64 x.dst, .int .i64 x.a, .int .i64 x.b, .int .i64 x.c, .int .i64 x.n, .string yo, .int .i64 x.label, .string yn, .slice qa na ca] 125)).drew = .ok (.slice (some ⟨g, 0, none⟩) (s.ss.length + 1) cap) W2) := by
    show _ = _
    rw [hyo, hyn, ← hz1]
    exact hr
  have HX : Hid (LuP P R mb w { s with ss := s.ss ++ [x] } (.returned (.tuple #[])) (W2.setCell ⟨P, 1, none⟩ (.slice (some ⟨g, 0, none⟩) (s.ss.length + 1) cap))) := ⟨rfl, _, ⟨_, _, _, _, hW⟩, hl0.trans hL⟩
  generalize LuP P R mb w { s with ss := s.ss ++ [x] } = G at HX ⊢
  generalize s.ss.length = n at *
  have hA' : A = .cells #[.int .i64 x.code, .int .i64 x.dst, .int .i64 x.a, .int .i64 x.b, .int .i64 x.c, .int .i64 x.n, .string yo, .int .i64 x.label, .string yn, .slice qa na ca] 125 := by rw [hA, hyo, hyn]; rfl
  rw [← hyo, ← hyn]
  rw [hA'] at hW1
  generalize x.code = xc at *
  generalize x.a = xa at *
  generalize x.dst = xd at *
  generalize x.b = xb at *
  generalize x.c = xcc at *
  generalize x.n = xn at *
  generalize x.label = xl at *
  clear h hW hL a1 a2 a3 hr ho hgr hg hgl b2 hav hx h0 hl0 hk1 hbel hbx hA hA' hyo hyn hl hok
  go_enter Tryz.func70, Tryz.ntmps70
  go_wp2_with fail
  rw [← hW1]
  clear hW1
  go_region_law (refine step_run_append rfl (.tmp 8) (.tmp 10) 101 rfl (by simp [Act.eval]) (by simp [Act.eval]) HR.out ?_)
  all_goals
    go_wp2
    go_end0
    exact HX.out
theorem add_y {R : Nat → Nat} {w : World} {P mb : Nat} {s s' : Wr} {u : Unit} (c d a b cc n : Int) (yo : ByteArray) (l : Int) (yn : ByteArray) (args : List Int) (qa : Option Addr) (na ca : Nat) (h : WrM R w P mb s) (hav : ArAt R w (.slice qa na ca) args) (hx : qU ⟨c, d, a, b, cc, n, yo.data.toList, l, yn.data.toList, args⟩ s = some (u, s')) :
    Calls Tryz.prog 70 #[ptr P, .agg #[.int .i64 c, .int .i64 d, .int .i64 a, .int .i64 b, .int .i64 cc, .int .i64 n, .string yo, .int .i64 l, .string yn, .slice qa na ca]] w (LuP P R mb w s') := by
  have h1 : (⟨yo.data.toList.toArray⟩ : ByteArray) = yo := by rw [Array.toArray_toList]
  have h2 : (⟨yn.data.toList.toArray⟩ : ByteArray) = yn := by rw [Array.toArray_toList]
  have := add_any h qa na ca hav hx
  simp only [h1, h2] at this
  exact this
def LtP (P : Nat) (R : Nat → Nat) (mb : Nat) (sv v1 v2 : Value) (w : World) (x : Int) (s' : Wr) (e : Ending) (w' : World) : Prop := e = .returned (.int .i64 x) ∧ ∃ R' tv, Wc R' w' P mb tv sv v1 v2 s' ∧ Lw P R R' w w'
theorem place_c {R : Nat → Nat} {w : World} {P mb : Nat} {s s' : Wr} {k : Int} {p : Nat} {tv sv v1 v2 : Value} (h : Wc R w P mb tv sv v1 v2 s) (hx : placeL k s = some (p, s')) :
    Calls Tryz.prog 68 #[ptr P, .int .i64 k] w (LtP P R mb sv v1 v2 w (p : Int) s') := by
  obtain ⟨hl, hok, rfl, rfl⟩ := placeL_some hx
  obtain ⟨g, cap, W2, hr, ho, hgr, hg, hgl⟩ := ap_row 3 100 1 8 _ info3 rfl (by decide) (by omega) und100 w P tv s.ts.length _ h.t [.int .i64 k] rfl (fun u hu => by simp at hu; subst hu; rfl) (by omega) (Nat.le_of_lt h.ltP)
  obtain ⟨hW, hL⟩ := h.appT hgr ho hg hgl (h.ok.place hl hok)
  obtain ⟨q, c, rfl⟩ := zd h.t
  have b2 : W2.heap[P]? = _ := (hgr.block P (by have := h.ltP; simp; omega) (fun e => by have := h.rP; rw [h.rt P e.symm] at this; omega)).trans ((zc h.ltP).trans h.blk)
  have c1 : w.cell? ⟨P, 0, none⟩ = some (.slice q s.ts.length c) := z_ (i := 0) h.blk rfl
  have ca1 : ∀ A, (w.alloc A).cell? ⟨P, 0, none⟩ = some (.slice q s.ts.length c) := fun A => zk c1
  have c2 : W2.cell? ⟨P, 0, none⟩ = some (.slice q s.ts.length c) := z_ (i := 0) b2 rfl
  have f2 : W2.frozen? ⟨P, 0, none⟩ = false := zb b2 0
  have c3 := z_ (i := 0) hW.blk rfl
  have HR : Hid (_ = _) := hr
  have HX : Hid (LtP P R mb sv v1 v2 w (s.ts.length : Int) { s with ts := s.ts ++ [k] } (.returned (.int .i64 (s.ts.length : Int))) (W2.setCell ⟨P, 0, none⟩ (.slice (some ⟨g, 0, none⟩) (s.ts.length + 1) cap))) := ⟨rfl, _, _, hW, hL⟩
  generalize LtP P R mb sv v1 v2 w (s.ts.length : Int) { s with ts := s.ts ++ [k] } = G at HX ⊢
  generalize s.ts.length = n at *
  clear h hW hL hr ho hgr hg hgl b2 hx
  go_enter Tryz.func68, Tryz.ntmps68
  go_wp2_with (at_builtin; refine wpl_run_append _ rfl _ _ 100 100 rfl rfl rfl HR.out ?_)
  go_wp2
  exact HX.out
theorem place_any {R : Nat → Nat} {w : World} {P mb : Nat} {s s' : Wr} {k : Int} {p : Nat} (h : WrM R w P mb s) (hx : placeL k s = some (p, s')) :
    Calls Tryz.prog 68 #[ptr P, .int .i64 k] w (LnP P R mb w (p : Int) s') := by
  obtain ⟨tv, sv, v1, v2, h⟩ := h
  refine (place_c h hx).mono ?_
  rintro e w' ⟨h1, R', tv', h2, h3⟩
  exact ⟨h1, R', ⟨_, _, _, _, h2⟩, h3⟩
end Go.Proofs.YtnfhpdbbfejioaaGreatDoor.Mid
