/- V9 VA VB VC VE VF XA XB XC -/
import Derived.Test.YtnfhpdbbfejioaaGreatDoorE14
namespace Go.Proofs.YtnfhpdbbfejioaaGreatDoor
set_option linter.unusedVariables false
set_option linter.unusedSimpArgs false
set_option maxRecDepth 100000
set_option maxHeartbeats 16000000
open Go Go.RowKit
theorem zO (g k : Nat) : (⟨g, 0, none⟩ : Addr).add k = ⟨g, k, none⟩ := by
 by_cases h : k = 0
 ·subst h; simp [Addr.add]
 ·simp [Addr.add, h]
theorem sts_open {S : Nat → Prop} {w : World} : ∀ (xs : List Tr) (cs : List Value), StAt S w (chain xs) cs → cs.length = xs.length * 7 ∧ ∀ (i : Nat) (x : Tr), xs[i]? = some x → ∃ (n0 n1 : Int) (y2 : ByteArray) (p3 p4 : Option Addr) (s5 : Option Addr) (m5 c5 : Nat) (s6 : Option Addr) (m6 c6 : Nat), StAt S w (cc x ce) (#[.int .i64 n0, .int .i64 n1, .string y2, .pointer p3, .pointer p4, .slice s5 m5 c5, .slice s6 m6 c6] : Array Value).toList ∧ ∀ j u, (#[.int .i64 n0, .int .i64 n1, .string y2, .pointer p3, .pointer p4, .slice s5 m5 c5, .slice s6 m6 c6] : Array Value)[j]? = some u → cs[i * 7 + j]? = some u
 | [], cs, h => by
  have h' : StAt S w (.slice [] []) cs := h
  rw [StAt] at h'
  subst h'
  exact ⟨rfl, fun i x hx => by simp at hx⟩
 | x :: xs, cs, h => by
  have h' : StAt S w (.slice [x] [chain xs]) cs := h
  unfold StAt at h'
  split at h'
  ·rename_i k1 c k2 a nm ix v th el g heq
   obtain ⟨vi, vv, vt, ve, nt, ne, ts, es, rest, e, a1, a2, a3, a4, a5, a6, a7⟩ := h'
   injection heq with h1 h2
   injection h1 with h1 _
   injection h2 with h2 _
   subst h2
   subst h1
   subst e
   obtain ⟨q5, c5, rfl⟩ := zd a3.1
   obtain ⟨q6, c6, rfl⟩ := zd a5.1
   obtain ⟨hl, hi⟩ := sts_open xs rest a7
   refine ⟨by simp [hl]; omega, fun i y hy => ?_⟩
   cases i with
   | zero =>
    simp at hy
    subst hy
    refine ⟨c, a, ⟨nm.toArray⟩, vi, vv, q5, nt, c5, q6, ne, c6, ?_, fun j u hu => ?_⟩
    ·show StAt S w (.slice [_] [.slice [] []]) _
     rw [StAt]
     exact ⟨vi, vv, _, _, nt, ne, ts, es, [], rfl, a1, a2, a3, a4, a5, a6, by rw [StAt]⟩
    ·rw [List.getElem?_append_left (by have := (Array.getElem?_eq_some_iff.1 hu).1; simpa using this)]
     simpa using hu
   | succ i =>
    obtain ⟨n0, n1, y2, p3, p4, s5, m5, c5, s6, m6, c6, hx, hc⟩ := hi i y (by simpa using hy)
    refine ⟨n0, n1, y2, p3, p4, s5, m5, c5, s6, m6, c6, hx, fun j u hu => ?_⟩
    rw [show (i + 1) * 7 + j = i * 7 + j + 7 by omega]
    exact hc j u hu
  ·rename_i heq
   injection heq with h1 h2
   cases h1
  ·exact h'.elim
theorem isCe_chain : ∀ xs : List Tr, isCe (chain xs) = decide (xs.length = 0)
 | [] => rfl
 | x :: xs => by simp [isCe, chain]
def chl : Tr → Nat
 | .slice [_] [g] => chl g + 1
 | _ => 0
theorem chl_chain : ∀ xs : List Tr, chl (chain xs) = xs.length
 | [] => rfl
 | x :: xs => by simp [chain, chl, chl_chain xs]
def paO (x : By × Int) : By := (x.1 ++ [58, 32]) ++ (if x.2 = 2 then [97, 114, 114] else [105, 110, 116])
def paT : List (By × Int) → By
 | [] => []
 | [x] => paO x
 | x :: y :: xs => paO x ++ [44, 32] ++ paT (y :: xs)
theorem psC_get : ∀ (xs : List (By × Int)) (i : Nat) (x : By × Int), xs[i]? = some x → (psC xs)[i * 2]? = some (str x.1) ∧ (psC xs)[i * 2 + 1]? = some (.int .i64 x.2)
 | [], i, x, h => by simp at h
 | y :: xs, 0, x, h => by
  simp at h
  subst h
  exact ⟨rfl, rfl⟩
 | y :: xs, i + 1, x, h => by
  have ih := psC_get xs i x (by simpa using h)
  rw [show (i + 1) * 2 = i * 2 + 2 by omega, show i * 2 + 2 + 1 = i * 2 + 1 + 2 by omega]
  exact ih
structure Fun where
 nm : By
 kd : IntKind
 at' : Int
 ps : List (By × Int)
 body : Tr
def Fun.tr (f : Fun) : Tr := .agg [.lit (.string f.nm), .lit (.int f.kd f.at'), psT f.ps, f.body]
def fuT (f : Fun) : By := ([102, 110, 32] ++ f.nm ++ [40]) ++ paT f.ps ++ [41] ++ blT [] f.body ++ [10]
def prT (l : List Fun) : By := l.flatMap fuT
theorem fns_open {S : Nat → Prop} {w : World} : ∀ (t : Tr) (cs : List Value), FnAt S w t cs → ∃ l : List Fun, t = chain (l.map Fun.tr) ∧ cs.length = l.length * 4 ∧ ∀ (i : Nat) (f : Fun), l[i]? = some f → ∃ (vp vb : Value) (nb : Nat) (bcs : List Value), RowS S w 144 2 vp f.ps.length (psC f.ps) ∧ RowS S w 147 7 vb nb bcs ∧ StAt S w f.body bcs ∧ cs[i * 4]? = some (str f.nm) ∧ cs[i * 4 + 1]? = some (.int .i64 f.at') ∧ cs[i * 4 + 2]? = some vp ∧ cs[i * 4 + 3]? = some vb
 | t, cs, h => by
  unfold FnAt at h
  split at h
  ·rename_i nm k1 a ps b g
   obtain ⟨vp, vb, nb, xs, bcs, rest, e, a1, a2, a3, a4, a5⟩ := h
   obtain ⟨l, e1, e2, e3⟩ := fns_open g rest a5
   subst a1
   subst e
   refine ⟨⟨nm, k1, a, xs, b⟩ :: l, by rw [e1]; rfl, by simp [e2]; omega, fun i f hf => ?_⟩
   cases i with
   | zero =>
    simp at hf
    subst hf
    exact ⟨vp, vb, nb, bcs, a2, a3, a4, rfl, rfl, rfl, rfl⟩
   | succ i =>
    obtain ⟨vp', vb', nb', bcs', b1, b2, b3, b4, b5, b6, b7⟩ := e3 i f (by simpa using hf)
    refine ⟨vp', vb', nb', bcs', b1, b2, b3, ?_, ?_, ?_, ?_⟩
    ·rw [show (i + 1) * 4 = i * 4 + 4 by omega]; exact b4
    ·rw [show (i + 1) * 4 + 1 = i * 4 + 1 + 4 by omega]; exact b5
    ·rw [show (i + 1) * 4 + 2 = i * 4 + 2 + 4 by omega]; exact b6
    ·rw [show (i + 1) * 4 + 3 = i * 4 + 3 + 4 by omega]; exact b7
  ·exact ⟨[], rfl, by simp [h], fun i f hf => by simp at hf⟩
  ·exact h.elim
def qd : Tr → Prop
 | .slice [.agg [.lit (.int .i64 c), .lit (.int .i64 _), .lit (.string _), ix, v, th, el]] [g] =>
  1 ≤ c ∧ c ≤ 8 ∧ (ix = .nil ∨ IsNd ix) ∧ zF ix ∧ (v = .nil ∨ IsNd v) ∧ zF v ∧ qd th ∧ chl th ≤ 1000000 ∧ qd el ∧ chl el ≤ 1000000 ∧ qd g
 | .slice [] [] => True
 | _ => False
theorem qG {c a : Int} {nm : By} {ix v th el g : Tr} (c1 : 1 ≤ c) (c8 : c ≤ 8) (ti : ix = .nil ∨ IsNd ix) (gi : zF ix) (tv : v = .nil ∨ IsNd v) (gv : zF v) (gt : qd th) (lt : chl th ≤ 1000000) (ge : qd el) (le : chl el ≤ 1000000) (gg : qd g) : qd (cc (st c a nm ix v th el) g) := by
 rw [qd]
 exact ⟨c1, c8, ti, gi, tv, gv, gt, lt, ge, le, gg⟩
theorem zw : qd ce := by rw [qd]; trivial
theorem goodS_open {t g : Tr} (h : qd (cc t g)) : ∃ (c a : Int) (nm : By) (ix v th el : Tr), t = st c a nm ix v th el ∧ 1 ≤ c ∧ c ≤ 8 ∧ (ix = .nil ∨ IsNd ix) ∧ zF ix ∧ (v = .nil ∨ IsNd v) ∧ zF v ∧ qd th ∧ chl th ≤ 1000000 ∧ qd el ∧ chl el ≤ 1000000 ∧ qd g := by
 unfold qd at h
 split at h
 ·rename_i c a nm ix v th el g' heq
  injection heq with h1 h2
  injection h1 with h1 _
  injection h2 with h2 _
  subst h1
  subst h2
  exact ⟨c, a, nm, ix, v, th, el, rfl, h⟩
 ·rename_i heq
  injection heq with h1 _
  cases h1
 ·exact h.elim
theorem goodS_cons {t g : Tr} (h : qd (cc t ce)) (hg : qd g) : qd (cc t g) := by
 obtain ⟨c, a, nm, ix, v, th, el, rfl, c1, c8, ti, gi, tv, gv, gt, lt, ge, le, _⟩ := goodS_open h
 exact qG c1 c8 ti gi tv gv gt lt ge le hg
theorem stT_good {t g : Tr} (left : By) (h : qd (cc t ce)) : stT left (cc t g) = (left ++ [32, 32]) ++ smT (left ++ [32, 32]) t ++ [10] ++ stT left g := by
 obtain ⟨c, a, nm, ix, v, th, el, rfl, _⟩ := goodS_open h
 exact stT_cons left c a nm ix v th el g
theorem stT_ce (left : By) : stT left ce = [] := by unfold stT; rfl
def StG (g d : Nat) (l : List Tok) (t : Tr) (l' : List Tok) : Prop :=
 if g = 2 then qd (cc t ce) ∧ ∀ lf : By, lf.length = 2 * d → (smT lf t).length + lf.length + 1 + 100 * l'.length ≤ 100 * l.length
 else qd t ∧ chl t + l'.length ≤ l.length ∧ ∀ left : By, left.length = 2 * d → (if g = 0 then (blT left t).length else (stT left t).length) + 100 * l'.length ≤ 100 * l.length
theorem expr_good {l l' : List Tok} {t : Tr} (he : Ends l) (h6 : l.length ≤ 1000000) (h : zW l = .ok (t, l')) : zF t ∧ IsNd t ∧ (wrT t).length + 2 + 30 * l'.length ≤ 30 * l.length := by
 obtain ⟨a, b⟩ := qT (by omega) (by omega) (zI _ 0 1 0 .nil 0 l t l' (fun _ => by omega) (fun h => by omega) he h6 h)
 exact ⟨a, zq _ 0 1 0 .nil 0 l t l' (by omega) (by omega) h, b⟩
theorem held_good {l l' : List Tok} {t : Tr} (he : Ends l) (h6 : l.length ≤ 1000000) (h : heldV l = .ok (t, l')) : zF t ∧ IsNd t ∧ (wrT t).length + 2 + 30 * l'.length ≤ 30 * l.length := by
 obtain ⟨a, b⟩ := qT (by omega) (by omega) (zI _ 5 0 0 .nil 0 l t l' (fun h => by omega) (fun h => by omega) he h6 h)
 exact ⟨a, zq _ 5 0 0 .nil 0 l t l' (by omega) (by omega) h, b⟩
theorem idx_good {l l' : List Tok} {t : Tr} (he : Ends l) (h6 : l.length ≤ 1000000) (h : idxV l = .ok (t, l')) : zF t ∧ IsNd t ∧ (wrT t).length + 2 + 30 * l'.length ≤ 30 * l.length := by
 obtain ⟨a, b⟩ := qT (by omega) (by omega) (zI _ 6 0 0 .nil 0 l t l' (fun h => by omega) (fun h => by omega) he h6 h)
 exact ⟨a, zq _ 6 0 0 .nil 0 l t l' (by omega) (by omega) h, b⟩
theorem args_good {l l' : List Tok} {t : Tr} (he : Ends l) (h6 : l.length ≤ 1000000) (h : argsV l = .ok (t, l')) : ∃ xs, t = chain xs ∧ zF t ∧ (joinT xs).length + 30 * l'.length ≤ 30 * l.length ∧ xs.length + l'.length ≤ l.length := by
 unfold argsV argV at h
 split at h
 ·rename_i h1
  obtain ⟨e1, s1⟩ := zu h1 (by decide) he
  obtain ⟨rfl, rfl⟩ := zj h
  exact ⟨[], rfl, good_ce, by simp [joinT]; omega, by simp⟩
 ·have q := zI _ 7 0 0 ce 0 l t l' (fun h => by omega) (fun h => by omega) he h6 h
  unfold ExG at q
  rw [if_pos rfl] at q
  obtain ⟨xs, a, b, c, d⟩ := q
  exact ⟨xs, a, b, by omega, d⟩
theorem qI (lf : By) (c a : Int) (nm : By) (ix v th el : Tr) (h4 : c ≠ 4) (h5 : c ≠ 5) : (smT lf (st c a nm ix v th el)).length ≤ nm.length + (wrT ix).length + (wrT v).length + 13 := by
 have e : smT lf (st c a nm ix v th el) = (if c = 1 then [118, 97, 114, 32] ++ nm ++ [32, 61, 32] else if c = 2 then nm ++ [32, 61, 32] else if c = 3 then nm ++ ([91] ++ wrT ix ++ [93]) ++ [32, 61, 32] else if c = 6 then [114, 101, 116, 117, 114, 110, 32] else if c = 7 then [112, 114, 105, 110, 116, 32] else []) ++ wrT v ++ [59] := by
  simp [smT, h4, h5]
 rw [e]
 simp only [List.length_append, List.length_cons, List.length_nil]
 repeat' split
 all_goals simp
 all_goals omega
theorem named_good {a : Nat} {l l' : List Tok} {t : Tr} (he : Ends l) (h6 : l.length ≤ 1000000) (h : zP a l = .ok (t, l')) : qd (cc t ce) ∧ ∀ lf : By, (smT lf t).length + 30 * l'.length ≤ 30 * l.length + 40 := by
 unfold zP at h
 obtain ⟨nm, l1, h1, h⟩ := za h
 obtain ⟨e1, s1⟩ := qX h1 he
 obtain ⟨_, _, hn12, _⟩ := name_ok h1
 split at h
 ·rename_i h40
  obtain ⟨e2, s2⟩ := zu h40 (by decide) e1
  obtain ⟨g, l2, h2, h⟩ := za h
  obtain ⟨xs, hxs, gg, q1, q2⟩ := args_good e2 (by omega) h2
  obtain ⟨rfl, rfl⟩ := zj h
  refine ⟨qG (by omega) (by omega) (.inl rfl) zB (.inr (isNd _ _ _ _ _ _ _ _)) (good_nd (by omega) (by omega) (by omega) (by omega) (.inl rfl) (.inl rfl) zB zB gg hxs (by omega)) zw (by simp [chl]) zw (by simp [chl]) zw, fun lf => ?_⟩
  have := qI lf 8 a [] .nil (nd 5 a 0 nm [] .nil .nil g) ce ce (by omega) (by omega)
  have hw : wrT (nd 5 a 0 nm [] .nil .nil g) = (nm ++ [40]) ++ wrT g ++ [41] := by rw [wrT]; simp
  have hc : wrT g = joinT xs := by rw [hxs, join_chain]
  have hn : wrT .nil = [] := by unfold wrT; rfl
  rw [hw, hc, hn] at this
  simp only [List.length_append, List.length_cons, List.length_nil] at this
  omega
 split at h
 ·rename_i h91
  obtain ⟨e2, s2⟩ := zu h91 (by decide) e1
  obtain ⟨i, l2, h2, h⟩ := za h
  obtain ⟨gi, ni, qi⟩ := idx_good e2 (by omega) h2
  obtain ⟨e3, s3⟩ := idx_tail h2 e2
  obtain ⟨_, l3, h3, h⟩ := za h
  obtain ⟨e4, s4⟩ := zm h3 (by decide) e3
  obtain ⟨v, l4, h4, h⟩ := za h
  obtain ⟨gv, nv, qv⟩ := expr_good e4 (by omega) h4
  obtain ⟨rfl, rfl⟩ := zj h
  refine ⟨qG (by omega) (by omega) (.inr ni) gi (.inr nv) gv zw (by simp [chl]) zw (by simp [chl]) zw, fun lf => ?_⟩
  have := qI lf 3 a nm i v ce ce (by omega) (by omega)
  omega
 ·obtain ⟨_, l3, h3, h⟩ := za h
  obtain ⟨e4, s4⟩ := zm h3 (by decide) e1
  obtain ⟨v, l4, h4, h⟩ := za h
  obtain ⟨gv, nv, qv⟩ := expr_good e4 (by omega) h4
  obtain ⟨rfl, rfl⟩ := zj h
  refine ⟨qG (by omega) (by omega) (.inl rfl) zB (.inr nv) gv zw (by simp [chl]) zw (by simp [chl]) zw, fun lf => ?_⟩
  have := qI lf 2 a nm .nil v ce ce (by omega) (by omega)
  have hn : wrT .nil = [] := by unfold wrT; rfl
  rw [hn] at this
  simp only [List.length_nil] at this
  omega
theorem chl_ce : chl ce = 0 := rfl
theorem Ends.kind3 {l : List Tok} (h : Ends l) (ht : (hd l).t ≠ []) : (hd l).k ≠ 3 := by
 obtain ⟨a, e, rfl, h1, h2, h3⟩ := h
 cases a with
 | nil => exact absurd h2 ht
 | cons x a => exact (h3 x (by simp)).1
theorem st_good : ∀ (f g d : Nat) (l : List Tok) (t : Tr) (l' : List Tok), (d ≤ 13 ∧ (g = 1 → d ≤ 12)) → Ends l → l.length ≤ 1000000 → stV f g d l = .ok (t, l') → (g ≤ 2) → StG g d l t l'
 | 0, _, _, _, _, _, _, _, _, h, _ => by simp [stV] at h
 | f + 1, 0, d, l, t, l', hd', he, h6, h, _ => by
  rw [stV] at h
  unfold StG
  rw [if_neg (by omega)]
  obtain ⟨_, _, hb, h⟩ := za h
  obtain ⟨_, l1, h1, h⟩ := za h
  obtain ⟨e1, s1⟩ := zm h1 (by decide) he
  have h123 := (qk h1).1
  have hk3 := he.kind3 (by rw [h123]; decide)
  have h12 : d ≤ 12 := by
   unfold boundV at hb
   split at hb
   ·cases hb
   ·omega
  have q := st_good f 1 d l1 t l' ⟨by omega, fun _ => h12⟩ e1 (by omega) h (by omega)
  unfold StG at q
  rw [if_neg (by omega)] at q
  refine ⟨q.1, by have := q.2.1; omega, fun left hleft => ?_⟩
  have := q.2.2 left hleft
  rw [if_neg (by omega)] at this
  rw [if_pos rfl]
  unfold blT
  simp only [List.length_append, List.length_cons, List.length_nil]
  omega
 | f + 1, 1, d, l, t, l', hd', he, h6, h, _ => by
  rw [stV] at h
  unfold StG
  rw [if_neg (by omega)]
  split at h
  ·rename_i h1
   obtain ⟨e1, s1⟩ := zu h1 (by decide) he
   obtain ⟨rfl, rfl⟩ := zj h
   refine ⟨zw, by rw [chl_ce]; omega, fun left hleft => ?_⟩
   rw [if_neg (by omega), stT_ce]
   simp
   omega
  ·obtain ⟨t1, l1, h1, h⟩ := za h
   obtain ⟨e1, s1⟩ := qy f 2 (d + 1) l t1 l1 he h1
   have h12 := hd'.2 rfl
   have q1 := st_good f 2 (d + 1) l t1 l1 ⟨by omega, fun h => by omega⟩ he h6 h1 (by omega)
   unfold StG at q1
   rw [if_pos rfl] at q1
   obtain ⟨g, l2, h2, h⟩ := za h
   have q2 := st_good f 1 d l1 g l2 ⟨by omega, fun _ => h12⟩ e1 (by omega) h2 (by omega)
   unfold StG at q2
   rw [if_neg (by omega)] at q2
   obtain ⟨rfl, rfl⟩ := zj h
   refine ⟨goodS_cons q1.1 q2.1, by have := q2.2.1; simp only [chl]; omega, fun left hleft => ?_⟩
   have a1 := q1.2 (left ++ [32, 32]) (by simp; omega)
   have a2 := q2.2.2 left hleft
   rw [if_neg (by omega)] at a2
   rw [if_neg (by omega), stT_good left q1.1]
   simp only [List.length_append, List.length_cons, List.length_nil] at a1 ⊢
   omega
 | f + 1, 2, d, l, t, l', hd', he, h6, h, _ => by
  rw [stV] at h
  unfold StG
  rw [if_pos rfl]
  have h13 := hd'.1
  have hnil : wrT .nil = [] := by unfold wrT; rfl
  split at h
  ·obtain ⟨t1, l1, h1, h⟩ := za h
   obtain ⟨e1, s1⟩ := named_tail h1 he
   obtain ⟨q1, q2⟩ := named_good he h6 h1
   obtain ⟨_, l2, h2, h⟩ := za h
   obtain ⟨e2, s2⟩ := zm h2 (by decide) e1
   obtain ⟨rfl, rfl⟩ := zj h
   refine ⟨q1, fun lf hlf => ?_⟩
   have := q2 lf
   omega
  split at h
  ·rename_i h0
   obtain ⟨e0, s0⟩ := zu h0 (by decide) he
   obtain ⟨nm, l1, h1, h⟩ := za h
   obtain ⟨e1, s1⟩ := qX h1 e0
   obtain ⟨_, _, hn12, _⟩ := name_ok h1
   obtain ⟨_, l2, h2, h⟩ := za h
   obtain ⟨e2, s2⟩ := zm h2 (by decide) e1
   obtain ⟨v, l3, h3, h⟩ := za h
   obtain ⟨gv, nv, qv⟩ := expr_good e2 (by omega) h3
   obtain ⟨e3, s3⟩ := qu h3 e2
   obtain ⟨_, l4, h4, h⟩ := za h
   obtain ⟨e4, s4⟩ := zm h4 (by decide) e3
   obtain ⟨rfl, rfl⟩ := zj h
   refine ⟨qG (by omega) (by omega) (.inl rfl) zB (.inr nv) gv zw (by simp [chl]) zw (by simp [chl]) zw, fun lf hlf => ?_⟩
   have := qI lf 1 (hd l).p nm .nil v ce ce (by omega) (by omega)
   rw [hnil] at this
   simp only [List.length_nil] at this
   omega
  split at h
  ·rename_i h0
   obtain ⟨e0, s0⟩ := zu h0 (by decide) he
   obtain ⟨v, l3, h3, h⟩ := za h
   obtain ⟨gv, nv, qv⟩ := expr_good e0 (by omega) h3
   obtain ⟨e3, s3⟩ := qu h3 e0
   obtain ⟨_, l4, h4, h⟩ := za h
   obtain ⟨e4, s4⟩ := zm h4 (by decide) e3
   obtain ⟨rfl, rfl⟩ := zj h
   refine ⟨qG (by omega) (by omega) (.inl rfl) zB (.inr nv) gv zw (by simp [chl]) zw (by simp [chl]) zw, fun lf hlf => ?_⟩
   have := qI lf 6 (hd l).p [] .nil v ce ce (by omega) (by omega)
   rw [hnil] at this
   simp only [List.length_nil] at this
   omega
  split at h
  ·rename_i h0
   obtain ⟨e0, s0⟩ := zu h0 (by decide) he
   obtain ⟨v, l3, h3, h⟩ := za h
   obtain ⟨gv, nv, qv⟩ := expr_good e0 (by omega) h3
   obtain ⟨e3, s3⟩ := qu h3 e0
   obtain ⟨_, l4, h4, h⟩ := za h
   obtain ⟨e4, s4⟩ := zm h4 (by decide) e3
   obtain ⟨rfl, rfl⟩ := zj h
   refine ⟨qG (by omega) (by omega) (.inl rfl) zB (.inr nv) gv zw (by simp [chl]) zw (by simp [chl]) zw, fun lf hlf => ?_⟩
   have := qI lf 7 (hd l).p [] .nil v ce ce (by omega) (by omega)
   rw [hnil] at this
   simp only [List.length_nil] at this
   omega
  split at h
  ·rename_i h0
   obtain ⟨e0, s0⟩ := zu h0 (by decide) he
   obtain ⟨v, l3, h3, h⟩ := za h
   obtain ⟨gv, nv, qv⟩ := held_good e0 (by omega) h3
   obtain ⟨e3, s3⟩ := held_tail h3 e0
   obtain ⟨th, l4, h4, h⟩ := za h
   obtain ⟨e4, s4⟩ := qy f 0 d l3 th l4 e3 h4
   have q1 := st_good f 0 d l3 th l4 ⟨h13, fun h => by omega⟩ e3 (by omega) h4 (by omega)
   unfold StG at q1
   rw [if_neg (by omega)] at q1
   split at h
   ·rename_i h5
    obtain ⟨e5, s5⟩ := zu h5 (by decide) e4
    obtain ⟨el, l6, h7, h⟩ := za h
    obtain ⟨e6, s6⟩ := qy f 0 d l4.tail el l6 e5 h7
    have q2 := st_good f 0 d l4.tail el l6 ⟨h13, fun h => by omega⟩ e5 (by omega) h7 (by omega)
    unfold StG at q2
    rw [if_neg (by omega)] at q2
    obtain ⟨rfl, rfl⟩ := zj h
    refine ⟨qG (by omega) (by omega) (.inl rfl) zB (.inr nv) gv q1.1 (by have := q1.2.1; omega) q2.1 (by have := q2.2.1; omega) zw, fun lf hlf => ?_⟩
    have a1 := q1.2.2 lf hlf
    have a2 := q2.2.2 lf hlf
    rw [if_pos rfl] at a1 a2
    have e : smT lf (st 4 (hd l).p [] .nil v th el) = ([105, 102] ++ [32, 40]) ++ wrT v ++ [41] ++ blT lf th ++ (if isCe el then [] else [32, 101, 108, 115, 101] ++ blT lf el) := by simp [smT]
    rw [e]
    split
    ·simp only [List.length_append, List.length_cons, List.length_nil]
     omega
    ·simp only [List.length_append, List.length_cons, List.length_nil]
     omega
   ·obtain ⟨rfl, rfl⟩ := zj h
    refine ⟨qG (by omega) (by omega) (.inl rfl) zB (.inr nv) gv q1.1 (by have := q1.2.1; omega) zw (by simp [chl]) zw, fun lf hlf => ?_⟩
    have a1 := q1.2.2 lf hlf
    rw [if_pos rfl] at a1
    have e : smT lf (st 4 (hd l).p [] .nil v th ce) = ([105, 102] ++ [32, 40]) ++ wrT v ++ [41] ++ blT lf th := by simp [smT, isCe]
    rw [e]
    simp only [List.length_append, List.length_cons, List.length_nil]
    omega
  split at h
  ·rename_i h0
   obtain ⟨e0, s0⟩ := zu h0 (by decide) he
   obtain ⟨v, l3, h3, h⟩ := za h
   obtain ⟨gv, nv, qv⟩ := held_good e0 (by omega) h3
   obtain ⟨e3, s3⟩ := held_tail h3 e0
   obtain ⟨th, l4, h4, h⟩ := za h
   have q1 := st_good f 0 d l3 th l4 ⟨h13, fun h => by omega⟩ e3 (by omega) h4 (by omega)
   unfold StG at q1
   rw [if_neg (by omega)] at q1
   obtain ⟨rfl, rfl⟩ := zj h
   refine ⟨qG (by omega) (by omega) (.inl rfl) zB (.inr nv) gv q1.1 (by have := q1.2.1; omega) zw (by simp [chl]) zw, fun lf hlf => ?_⟩
   have a1 := q1.2.2 lf hlf
   rw [if_pos rfl] at a1
   have e : smT lf (st 5 (hd l).p [] .nil v th ce) = ([119, 104, 105, 108, 101] ++ [32, 40]) ++ wrT v ++ [41] ++ blT lf th := by simp [smT]
   rw [e]
   simp only [List.length_append, List.length_cons, List.length_nil]
   omega
  ·cases h
 | f + 1, g + 3, d, l, t, l', hd', he, h6, h, hg => by omega
theorem par_good {l l' : List Tok} {t : Tr} (he : Ends l) (h : parV l = .ok (t, l')) : ∃ x : By × Int, t = pr x.1 x.2 ∧ (paO x).length + 2 + 30 * l'.length ≤ 30 * l.length := by
 unfold parV at h
 obtain ⟨nm, l1, h1, h⟩ := za h
 obtain ⟨e1, s1⟩ := qX h1 he
 obtain ⟨_, _, hn12, _⟩ := name_ok h1
 obtain ⟨_, l2, h2, h⟩ := za h
 obtain ⟨e2, s2⟩ := zm h2 (by decide) e1
 split at h
 ·rename_i h3
  obtain ⟨e3, s3⟩ := zu h3 (by decide) e2
  obtain ⟨rfl, rfl⟩ := zj h
  exact ⟨(nm, 2), rfl, by simp [paO]; omega⟩
 ·obtain ⟨_, l3, h3, h⟩ := za h
  obtain ⟨e3, s3⟩ := zm h3 (by decide) e2
  obtain ⟨rfl, rfl⟩ := zj h
  exact ⟨(nm, 1), rfl, by simp [paO]; omega⟩
theorem paT_cons (x : By × Int) (xs : List (By × Int)) : (paT (x :: xs)).length ≤ (paO x).length + 2 + (paT xs).length := by
 cases xs with
 | nil => simp [paT]
 | cons y xs => simp [paT]; omega
theorem parl_good : ∀ (f : Nat) {l l' : List Tok} {t : Tr}, Ends l → qW f l = .ok (t, l') → ∃ xs : List (By × Int), t = psT xs ∧ (paT xs).length + 30 * l'.length ≤ 30 * l.length ∧ xs.length + l'.length ≤ l.length
 | 0, l, l', t, he, h => by simp [qW] at h
 | f + 1, l, l', t, he, h => by
  rw [qW] at h
  obtain ⟨x, l1, h1, h⟩ := za h
  obtain ⟨e1, s1⟩ := par_tail h1 he
  obtain ⟨p, rfl, q1⟩ := par_good he h1
  split at h
  ·rename_i h2
   obtain ⟨e2, s2⟩ := zu h2 (by decide) e1
   obtain ⟨g, l3, h3, h⟩ := za h
   obtain ⟨xs, rfl, q2, q3⟩ := parl_good f e2 h3
   obtain ⟨rfl, rfl⟩ := zj h
   have := paT_cons p xs
   exact ⟨p :: xs, rfl, by omega, by simp; omega⟩
  ·obtain ⟨_, l3, h3, h⟩ := za h
   obtain ⟨e3, s3⟩ := zm h3 (by decide) e1
   obtain ⟨rfl, rfl⟩ := zj h
   exact ⟨[p], rfl, by simp [paT]; omega, by simp; omega⟩
theorem pars_good {l l' : List Tok} {t : Tr} (he : Ends l) (h : parsV l = .ok (t, l')) : ∃ xs : List (By × Int), t = psT xs ∧ (paT xs).length + 30 * l'.length ≤ 30 * l.length ∧ xs.length + l'.length ≤ l.length := by
 unfold parsV at h
 split at h
 ·rename_i h2
  obtain ⟨e2, s2⟩ := zu h2 (by decide) he
  obtain ⟨rfl, rfl⟩ := zj h
  exact ⟨[], rfl, by simp [paT]; omega, by simp⟩
 ·exact parl_good _ he h
def GoodF (F : Fun) : Prop := qd F.body ∧ chl F.body ≤ 1000000 ∧ F.ps.length ≤ 1000000
theorem fn_good {l l' : List Tok} {t : Tr} (he : Ends l) (h6 : l.length ≤ 1000000) (h : fnV l = .ok (t, l')) : ∃ F : Fun, t = F.tr ∧ GoodF F ∧ (fuT F).length + 100 * l'.length ≤ 100 * l.length := by
 unfold fnV at h
 obtain ⟨_, l1, h1, h⟩ := za h
 obtain ⟨e1, s1⟩ := zm h1 (by decide) he
 obtain ⟨nm, l2, h2, h⟩ := za h
 obtain ⟨e2, s2⟩ := qX h2 e1
 obtain ⟨_, _, hn12, _⟩ := name_ok h2
 obtain ⟨_, l3, h3, h⟩ := za h
 obtain ⟨e3, s3⟩ := zm h3 (by decide) e2
 obtain ⟨ps, l4, h4, h⟩ := za h
 obtain ⟨e4, s4⟩ := pars_tail h4 e3
 obtain ⟨xs, rfl, q1, q2⟩ := pars_good e3 h4
 obtain ⟨b, l5, h5, h⟩ := za h
 have q := st_good _ 0 0 l4 b l5 ⟨by omega, fun h => by omega⟩ e4 (by omega) h5 (by omega)
 unfold StG at q
 rw [if_neg (by omega)] at q
 obtain ⟨rfl, rfl⟩ := zj h
 refine ⟨⟨nm, .i64, (hd l).p, xs, b⟩, rfl, ⟨q.1, by have := q.2.1; show chl b ≤ _; omega, by show xs.length ≤ _; omega⟩, ?_⟩
 have a := q.2.2 [] (by simp)
 rw [if_pos rfl] at a
 unfold fuT
 simp only [List.length_append, List.length_cons, List.length_nil]
 omega
theorem prog_good : ∀ (f n : Nat) {l l' : List Tok} {t : Tr}, n ≤ 12 → Ends l → l.length ≤ 1000000 → qE f n l = .ok (t, l') → ∃ L : List Fun, t = chain (L.map Fun.tr) ∧ (∀ F ∈ L, GoodF F) ∧ (prT L).length + 100 * l'.length ≤ 100 * l.length ∧ n + L.length ≤ 12
 | 0, n, l, l', t, hn, he, h6, h => by simp [qE] at h
 | f + 1, n, l, l', t, hn, he, h6, h => by
  rw [qE] at h
  split at h
  ·obtain ⟨rfl, rfl⟩ := zj h
   exact ⟨[], rfl, fun F hF => by simp at hF, by simp [prT], by simpa using hn⟩
  split at h
  ·cases h
  ·obtain ⟨x, l1, h1, h⟩ := za h
   obtain ⟨e1, s1⟩ := fn_tail h1 he
   obtain ⟨F, rfl, gF, q1⟩ := fn_good he h6 h1
   obtain ⟨g, l2, h2, h⟩ := za h
   obtain ⟨L, rfl, gL, q2, q3⟩ := prog_good f (n + 1) (by omega) e1 (by omega) h2
   obtain ⟨rfl, rfl⟩ := zj h
   refine ⟨F :: L, rfl, fun G hG => ?_, by simp [prT] at q2 ⊢; omega, by simp; omega⟩
   rcases List.mem_cons.1 hG with rfl | hG
   ·exact gF
   ·exact gL G hG
theorem psT_inj {a b : List (By × Int)} (h : psT a = psT b) : a = b := by
 have h1 := chain_inj h
 induction a generalizing b with
 | nil => cases b with
  | nil => rfl
  | cons y b => simp at h1
 | cons x a ih => cases b with
  | nil => simp at h1
  | cons y b =>
   simp only [List.map_cons, List.cons.injEq] at h1
   obtain ⟨h2, h3⟩ := h1
   injection h2 with h2
   simp only [List.cons.injEq, DataW.lit.injEq, Lit.string.injEq, Lit.int.injEq] at h2
   have : x = y := Prod.ext h2.1 h2.2.1.2
   rw [this, ih (b := b) (by unfold psT; rw [h3]) h3]
theorem tr_inj {F G : Fun} (h : F.tr = G.tr) : F = G := by
 unfold Fun.tr at h
 injection h with h
 simp only [List.cons.injEq, DataW.lit.injEq, Lit.string.injEq, Lit.int.injEq] at h
 obtain ⟨h1, ⟨h2, h3⟩, h4, h5, _⟩ := h
 cases F
 cases G
 simp only [Fun.mk.injEq]
 exact ⟨h1, h2, h3, psT_inj h4, h5⟩
theorem trs_inj {a b : List Fun} (h : chain (a.map Fun.tr) = chain (b.map Fun.tr)) : a = b := by
 have h1 := chain_inj h
 induction a generalizing b with
 | nil => cases b with
  | nil => rfl
  | cons y b => simp at h1
 | cons x a ih => cases b with
  | nil => simp at h1
  | cons y b =>
   simp only [List.map_cons, List.cons.injEq] at h1
   rw [tr_inj h1.1, ih (b := b) (by rw [h1.2]) h1.2]
theorem parse_good {s : By} {t : Tr} (hs : s.length ≤ 1000000) (h : qh s = .ok t) : ∃ L : List Fun, t = chain (L.map Fun.tr) ∧ (∀ F ∈ L, GoodF F) ∧ (prT L).length ≤ 150100 ∧ L.length ≤ 12 := by
 unfold qh at h
 split at h
 ·cases h
 ·rename_i l hl
  split at h
  ·cases h
  ·rename_i t' l' hp
   injection h with h
   subst h
   obtain ⟨e1, e2⟩ := tok_ends hl hs
   obtain ⟨L, a, b, c, d⟩ := prog_good _ 0 (by omega) e1 (by omega) hp
   exact ⟨L, a, b, by omega, by omega⟩
end Go.Proofs.YtnfhpdbbfejioaaGreatDoor
namespace Go.Proofs.YtnfhpdbbfejioaaGreatDoor
set_option linter.unusedVariables false
set_option linter.unusedSimpArgs false
open Go
structure Pc where
 k : Nat
 w : By
abbrev bl (c : UInt8) : Pc := ⟨9, [c]⟩
abbrev fx (x : By) : Pc := ⟨1, x⟩
def tks : List Pc → List Tok
 | [] => []
 | p :: q => if p.k = 9 then tks q else ⟨p.k, p.w, 0⟩ :: tks q
theorem zx : ∀ a b : List Pc, tks (a ++ b) = tks a ++ tks b
 | [], b => rfl
 | p :: a, b => by
  rw [List.cons_append, tks, tks, zx a b]
  split <;> rfl
abbrev alnum : By := lets ++ digs
def Nam (w : By) : Prop := w ≠ [] ∧ (∀ c ∈ w, alnum.contains c = true) ∧ digs.contains (w.headD 0) = false ∧ wordsL.contains w = false ∧ w.length ≤ 12
def Dig (w : By) : Prop := w ≠ [] ∧ ∀ c ∈ w, digs.contains c = true
def fb (c : UInt8) : List Pc → UInt8
 | [] => c
 | p :: _ => if p.k = 9 then 32 else p.w.headD 32
end Go.Proofs.YtnfhpdbbfejioaaGreatDoor
namespace Go.Proofs.YtnfhpdbbfejioaaGreatDoor
set_option linter.unusedVariables false
set_option linter.unusedSimpArgs false
open Go
def hpc (t : Tr) (k : Nat) (s : List Pc) : List Pc := if k ≤ holdsV t then s else fx [40] :: (s ++ [fx [41]])
def sepc : Tr → List Pc
 | .slice [] [] => []
 | _ => [fx [44], bl 32]
def pcE : Tr → List Pc
 | .agg [.lit (.int _ c), .lit (.int _ _), .lit (.int _ n), .lit (.string nm), .lit (.string op), l, r, g] =>
  if c = 1 then [⟨2, Lib.itoa n⟩]
  else if c = 2 then [⟨0, nm⟩]
  else if c = 3 then hpc l (zE op) (pcE l) ++ ([bl 32, fx op, bl 32] ++ hpc r (zE op + 1) (pcE r))
  else if c = 4 then fx op :: hpc l 7 (pcE l)
  else if c = 5 then ⟨0, nm⟩ :: fx [40] :: (pcE g ++ [fx [41]])
  else if c = 6 then fx [110, 101, 119] :: fx [40] :: (pcE l ++ [fx [41]])
  else if c = 7 then fx [108, 101, 110] :: fx [40] :: (pcE l ++ [fx [41]])
  else if c = 9 then [fx [105, 110, 112, 117, 116], fx [40], fx [41]]
  else if c = 8 then hpc l 8 (pcE l) ++ (fx [91] :: (pcE r ++ [fx [93]]))
  else []
 | .slice [x] [g] => pcE x ++ (sepc g ++ pcE g)
 | _ => []
theorem pc_1 (a n : Int) (nm op : By) (l r g : Tr) : pcE (nd 1 a n nm op l r g) = [⟨2, Lib.itoa n⟩] := by rw [pcE]; simp
theorem pc_2 (a n : Int) (nm op : By) (l r g : Tr) : pcE (nd 2 a n nm op l r g) = [⟨0, nm⟩] := by rw [pcE]; simp
theorem pc_3 (a n : Int) (nm op : By) (l r g : Tr) : pcE (nd 3 a n nm op l r g) = hpc l (zE op) (pcE l) ++ ([bl 32, fx op, bl 32] ++ hpc r (zE op + 1) (pcE r)) := by rw [pcE]; simp
theorem pc_4 (a n : Int) (nm op : By) (l r g : Tr) : pcE (nd 4 a n nm op l r g) = fx op :: hpc l 7 (pcE l) := by rw [pcE]; simp
theorem pc_5 (a n : Int) (nm op : By) (l r g : Tr) : pcE (nd 5 a n nm op l r g) = ⟨0, nm⟩ :: fx [40] :: (pcE g ++ [fx [41]]) := by rw [pcE]; simp
theorem pc_6 (a n : Int) (nm op : By) (l r g : Tr) : pcE (nd 6 a n nm op l r g) = fx [110, 101, 119] :: fx [40] :: (pcE l ++ [fx [41]]) := by rw [pcE]; simp
theorem pc_7 (a n : Int) (nm op : By) (l r g : Tr) : pcE (nd 7 a n nm op l r g) = fx [108, 101, 110] :: fx [40] :: (pcE l ++ [fx [41]]) := by rw [pcE]; simp
theorem pc_8 (a n : Int) (nm op : By) (l r g : Tr) : pcE (nd 8 a n nm op l r g) = hpc l 8 (pcE l) ++ (fx [91] :: (pcE r ++ [fx [93]])) := by rw [pcE]; simp
theorem pc_9 (a n : Int) (nm op : By) (l r g : Tr) : pcE (nd 9 a n nm op l r g) = [fx [105, 110, 112, 117, 116], fx [40], fx [41]] := by rw [pcE]; simp
theorem pc_cc (x g : Tr) : pcE (cc x g) = pcE x ++ (sepc g ++ pcE g) := by rw [pcE]
theorem pc_ce : pcE ce = [] := by simp [pcE]
def up (t : Tr) (k : Nat) : Nat := if k ≤ holdsV t then 0 else 1
def RE : Nat → Nat → Tr → Prop
 | 0, _, _ => False
 | f + 1, d, t => d ≤ 12 ∧
  ((∃ (a n : Int), 0 ≤ n ∧ n ≤ 9223372036854775807 ∧ t = nd 1 a n [] [] .nil .nil ce) ∨
   (∃ (a : Int) (nm : By), Nam nm ∧ t = nd 2 a 0 nm [] .nil .nil ce) ∨
   (∃ (a : Int) (op : By) (l r : Tr), 1 ≤ zE op ∧ RE f (d + up l (zE op)) l ∧ RE f (d + up r (zE op + 1)) r ∧ t = nd 3 a 0 [] op l r ce) ∨
   (∃ (a : Int) (op : By) (l : Tr), (op = [45] ∨ op = [33]) ∧ RE f (d + 1 + up l 7) l ∧ t = nd 4 a 0 [] op l .nil ce) ∨
   (∃ (a : Int) (nm : By) (xs : List Tr), Nam nm ∧ (∀ x ∈ xs, RE f (d + 1) x) ∧ t = nd 5 a 0 nm [] .nil .nil (chain xs)) ∨
   (∃ (a : Int) (l : Tr), RE f (d + 1) l ∧ t = nd 6 a 0 [] [] l .nil ce) ∨
   (∃ (a : Int) (l : Tr), RE f (d + 1) l ∧ t = nd 7 a 0 [] [] l .nil ce) ∨
   (∃ (a : Int) (l r : Tr), RE f (d + up l 8) l ∧ RE f (d + 1) r ∧ t = nd 8 a 0 [] [] l r ce) ∨
   (∃ (a : Int), t = nd 9 a 0 [] [] .nil .nil ce))
theorem qK : ∀ (f f' d d' : Nat) (t : Tr), f ≤ f' → d' ≤ d → RE f d t → RE f' d' t
 | 0, _, _, _, _, _, _, h => h.elim
 | f + 1, 0, _, _, _, hf, _, _ => by omega
 | f + 1, f' + 1, d, d', t, hf, hd, h => by
  have ih : ∀ (d d' : Nat) (t : Tr), d' ≤ d → RE f d t → RE f' d' t := fun d d' t h1 h2 => qK f f' d d' t (by omega) h1 h2
  rw [RE] at h ⊢
  obtain ⟨h12, h⟩ := h
  refine ⟨by omega, ?_⟩
  rcases h with h | h | ⟨a, op, l, r, h1, h2, h3, e⟩ | ⟨a, op, l, h1, h2, e⟩ | ⟨a, nm, xs, h1, h2, e⟩ | ⟨a, l, h2, e⟩ | ⟨a, l, h2, e⟩ | ⟨a, l, r, h2, h3, e⟩ | h
  ·exact .inl h
  ·exact .inr (.inl h)
  ·exact .inr (.inr (.inl ⟨a, op, l, r, h1, ih _ _ _ (by omega) h2, ih _ _ _ (by omega) h3, e⟩))
  ·exact .inr (.inr (.inr (.inl ⟨a, op, l, h1, ih _ _ _ (by omega) h2, e⟩)))
  ·exact .inr (.inr (.inr (.inr (.inl ⟨a, nm, xs, h1, fun x hx => ih _ _ _ (by omega) (h2 x hx), e⟩))))
  ·exact .inr (.inr (.inr (.inr (.inr (.inl ⟨a, l, ih _ _ _ (by omega) h2, e⟩)))))
  ·exact .inr (.inr (.inr (.inr (.inr (.inr (.inl ⟨a, l, ih _ _ _ (by omega) h2, e⟩))))))
  ·exact .inr (.inr (.inr (.inr (.inr (.inr (.inr (.inl ⟨a, l, r, ih _ _ _ (by omega) h2, ih _ _ _ (by omega) h3, e⟩)))))))
  ·exact .inr (.inr (.inr (.inr (.inr (.inr (.inr (.inr h)))))))
theorem re_le {f d : Nat} {t : Tr} (h : RE f d t) : d ≤ 12 := by
 cases f with
 | zero => exact h.elim
 | succ f => rw [RE] at h; exact h.1
theorem re_nd {f d : Nat} {t : Tr} (h : RE f d t) : ∃ c a n nm op l r g, t = nd c a n nm op l r g := by
 cases f with
 | zero => exact h.elim
 | succ f =>
  rw [RE] at h
  rcases h.2 with ⟨a, n, _, _, e⟩ | ⟨a, nm, _, e⟩ | ⟨a, op, l, r, h1, h2, h3, e⟩ | ⟨a, op, l, h1, h2, e⟩ | ⟨a, nm, xs, h1, h2, e⟩ | ⟨a, l, h2, e⟩ | ⟨a, l, h2, e⟩ | ⟨a, l, r, h2, h3, e⟩ | ⟨a, e⟩ <;> exact ⟨_, _, _, _, _, _, _, _, e⟩
theorem near_pair {m : By} (h : 1 ≤ zE m) : ∃ x ∈ pairsL, x.1 = m ∧ zE m = x.2 := by
 unfold zE at h ⊢
 cases hf : pairsL.find? (·.1 == m) with
 | none => rw [hf] at h; simp at h
 | some x => exact ⟨x, List.mem_of_find?_eq_some hf, by simpa using List.find?_some hf, by simp⟩
theorem near_mark {m : By} (h : 1 ≤ zE m) : m ∈ marksL ∧ zE m ≤ 6 ∧ alnum.contains (m.headD 0) = false := by
 obtain ⟨x, hx, e1, e2⟩ := near_pair h
 have : ∀ x ∈ pairsL, x.1 ∈ marksL ∧ x.2 ≤ 6 ∧ alnum.contains (x.1.headD 0) = false := by decide
 rw [e2, ← e1]
 exact this x hx
end Go.Proofs.YtnfhpdbbfejioaaGreatDoor
namespace Go.Proofs.YtnfhpdbbfejioaaGreatDoor
set_option linter.unusedVariables false
set_option linter.unusedSimpArgs false
open Go
abbrev tk (x : By) : Tok := ⟨1, x, 0⟩
abbrev te (t : Tr) : List Tok := tks (pcE t)
abbrev hk (t : Tr) (k : Nat) : List Tok := tks (hpc t k (pcE t))
theorem zn (x : By) (q : List Pc) : tks (fx x :: q) = tk x :: tks q := by rw [tks, if_neg (by show ¬ (1 : Nat) = 9; decide)]
theorem zT (c : UInt8) (q : List Pc) : tks (bl c :: q) = tks q := by rw [tks, if_pos rfl]
theorem tks_nm (x : By) (q : List Pc) : tks (⟨0, x⟩ :: q) = ⟨0, x, 0⟩ :: tks q := by rw [tks, if_neg (by show ¬ (0 : Nat) = 9; decide)]
theorem tks_nu (x : By) (q : List Pc) : tks (⟨2, x⟩ :: q) = ⟨2, x, 0⟩ :: tks q := by rw [tks, if_neg (by show ¬ (2 : Nat) = 9; decide)]
theorem zG : tks [] = [] := rfl
theorem hk_eq (t : Tr) (k : Nat) : hk t k = if k ≤ holdsV t then te t else tk [40] :: (te t ++ [tk [41]]) := by
 unfold hk hpc
 split
 ·rfl
 ·rw [zn, zx, zn, zG]
def Off (l : List Tok) : Prop := (hd l).t ≠ [91] ∧ (hd l).t ≠ [40]
def MX (X : List Tok) (y : Tr) (d : Nat) : Prop := ∀ F rest, (hd rest).t ≠ [40] → 12 * X.length + 4 ≤ F → ∃ F', F ≤ F' + 12 * X.length ∧ exV F 2 0 d .nil 0 (X ++ rest) = exV F' 3 0 d y 0 rest
def OX (X : List Tok) (y : Tr) (d : Nat) : Prop := ∀ F rest, Off rest → 12 * X.length + 4 ≤ F → exV F 2 0 d .nil 0 (X ++ rest) = .ok (y, rest)
def AX (k : Nat) (X : List Tok) (y : Tr) (d : Nat) : Prop := ∀ F rest, zE (hd rest).t ≤ k → Off rest → 12 * X.length + (12 - k) ≤ F → ∃ F', F ≤ F' + 12 * X.length ∧ exV F 0 k d .nil 0 (X ++ rest) = exV F' 1 k d y 0 rest
def BX (k : Nat) (X : List Tok) (y : Tr) (d : Nat) : Prop := ∀ F rest, zE (hd rest).t < k → Off rest → 12 * X.length + (12 - k) ≤ F → exV F 0 k d .nil 0 (X ++ rest) = .ok (y, rest)
def Pos (X : List Tok) : Prop := ∃ x q, X = x :: q ∧ x.p = 0
theorem Pos.p {X : List Tok} (h : Pos X) (r : List Tok) : (hd (X ++ r)).p = 0 := by
 obtain ⟨x, q, rfl, e⟩ := h
 exact e
structure All (X : List Tok) (y : Tr) (d h : Nat) : Prop where
 pos : Pos X
 m : 8 ≤ h → MX X y d
 o : 7 ≤ h → OX X y d
 a : ∀ k, k ≤ 6 → k ≤ h → AX k X y d
 b : ∀ k, k ≤ 7 → k ≤ h → BX k X y d
theorem te_chain1 (x : Tr) : te (chain [x]) = te x := by
 rw [show chain [x] = cc x ce from rfl]
 unfold te
 rw [pc_cc, pc_ce]
 simp [sepc]
theorem te_chain2 (x y : Tr) (xs : List Tr) : te (chain (x :: y :: xs)) = te x ++ (tk [44] :: te (chain (y :: xs))) := by
 rw [show chain (x :: y :: xs) = cc x (chain (y :: xs)) from rfl]
 unfold te
 rw [pc_cc, zx, zx, show sepc (chain (y :: xs)) = [fx [44], bl 32] from rfl, zn, zT, zG]
 rfl
theorem holds_3 (a n : Int) (nm op : By) (l r g : Tr) : holdsV (nd 3 a n nm op l r g) = zE op := by simp [holdsV]
theorem holds_4 (a n : Int) (nm op : By) (l r g : Tr) : holdsV (nd 4 a n nm op l r g) = 7 := by simp [holdsV]
theorem holds_8 {c : Int} (a n : Int) (nm op : By) (l r g : Tr) (h3 : c ≠ 3) (h4 : c ≠ 4) : holdsV (nd c a n nm op l r g) = 8 := by simp [holdsV, h3, h4]
end Go.Proofs.YtnfhpdbbfejioaaGreatDoor
