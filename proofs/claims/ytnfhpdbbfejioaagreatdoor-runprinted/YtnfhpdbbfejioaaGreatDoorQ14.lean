/- VE VF VG VH XA -/
import Derived.Test.YtnfhpdbbfejioaaGreatDoorQ11
import Derived.Test.YtnfhpdbbfejioaaGreatDoorQ13
namespace Go.Proofs.YtnfhpdbbfejioaaGreatDoor
set_option linter.unusedVariables false
set_option linter.unusedSimpArgs false
set_option maxRecDepth 100000
set_option maxHeartbeats 4000000
open Go Go.RowKit
def zM : Tr → Prop
 | .slice [.agg [.lit (.int .i64 c), .lit (.int .i64 _), .lit (.string _), ix, v, th, el]] [g] =>
  1 ≤ c ∧ c ≤ 8 ∧ (ix = .nil ∨ IsNd ix) ∧ zy ix ∧ (v = .nil ∨ IsNd v) ∧ zy v ∧ zM th ∧ chl th ≤ 1000000 ∧ zM el ∧ chl el ≤ 1000000 ∧ zM g
 | .slice [] [] => True
 | _ => False
theorem qI {c a : Int} {nm : By} {ix v th el g : Tr} (c1 : 1 ≤ c) (c8 : c ≤ 8) (ti : ix = .nil ∨ IsNd ix) (gi : zy ix) (tv : v = .nil ∨ IsNd v) (gv : zy v) (gt : zM th) (lt : chl th ≤ 1000000) (ge : zM el) (le : chl el ≤ 1000000) (gg : zM g) : zM (cc (st c a nm ix v th el) g) := by
 rw [zM]
 exact ⟨c1, c8, ti, gi, tv, gv, gt, lt, ge, le, gg⟩
theorem zA : zM ce := by rw [zM]; trivial
theorem qQ {t g : Tr} (h : zM (cc t g)) : ∃ (c a : Int) (nm : By) (ix v th el : Tr), t = st c a nm ix v th el ∧ 1 ≤ c ∧ c ≤ 8 ∧ (ix = .nil ∨ IsNd ix) ∧ zy ix ∧ (v = .nil ∨ IsNd v) ∧ zy v ∧ zM th ∧ chl th ≤ 1000000 ∧ zM el ∧ chl el ≤ 1000000 ∧ zM g := by
 unfold zM at h
 split at h
 ·rename_i c a nm ix v th el g' heq
  injection heq with h1 h2
  injection h1 with h1 _
  injection h2 with h2 _
  subst h1
  subst h2
  exact ⟨c, a, nm, ix, v, th, el, rfl, h⟩
 ·rename_i heq
  injection heq with h1 _
  cases h1
 ·exact h.elim
theorem goodS_cons {t g : Tr} (h : zM (cc t ce)) (hg : zM g) : zM (cc t g) := by
 obtain ⟨c, a, nm, ix, v, th, el, rfl, c1, c8, ti, gi, tv, gv, gt, lt, ge, le, _⟩ := qQ h
 exact qI c1 c8 ti gi tv gv gt lt ge le hg
theorem stT_good {t g : Tr} (left : By) (h : zM (cc t ce)) : stT left (cc t g) = (left ++ [32, 32]) ++ smT (left ++ [32, 32]) t ++ [10] ++ stT left g := by
 obtain ⟨c, a, nm, ix, v, th, el, rfl, _⟩ := qQ h
 exact stT_cons left c a nm ix v th el g
theorem stT_ce (left : By) : stT left ce = [] := by unfold stT; rfl
theorem sts_all (g : Tr) (h : zM g) : ∃ xs, g = chain xs ∧ (∀ x ∈ xs, PsC x) ∧ ∀ left, stT left g = preS left xs := by
 unfold zM at h
 split at h
 ·rename_i c a nm ix v th el g'
  obtain ⟨c1, c8, ti, gi, tv, gv, gt, lt, ge, le, gg⟩ := h
  obtain ⟨xt, ht, pt, st'⟩ := sts_all th gt
  obtain ⟨xe, hee, pe, se⟩ := sts_all el ge
  obtain ⟨xs, hg, pg, sg⟩ := sts_all g' gg
  have IT : PbC th := by
   rw [ht] at st' lt ⊢
   exact pb_walk pt st' (by rw [qc] at lt; exact lt)
  have IE : PbC el := by
   rw [hee] at se le ⊢
   exact pb_walk pe se (by rw [qc] at le; exact le)
  refine ⟨st c a nm ix v th el :: xs, by rw [hg]; rfl, fun x hx => ?_, fun left => ?_⟩
  ·rcases List.mem_cons.1 hx with rfl | hx
   ·exact ps_all c1 c8 ((wr_all ix gi).1 ti) ((wr_all v gv).1 tv) IT IE hee
   ·exact pg x hx
  ·rw [stT_cons, sg]
   rfl
 ·exact ⟨[], rfl, fun x hx => by simp at hx, fun left => by rw [show (DataW.slice [] [] : Tr) = ce from rfl, stT_ce]; rfl⟩
 ·exact h.elim
theorem pb_all {g : Tr} (h : zM g) (hl : chl g ≤ 1000000) : PbC g := by
 obtain ⟨xs, hg, p, s⟩ := sts_all g h
 rw [hg] at s hl ⊢
 exact pb_walk p s (by rw [qc] at hl; exact hl)
def StG (g d : Nat) (l : List Tok) (t : Tr) (l' : List Tok) : Prop :=
 if g = 2 then zM (cc t ce) ∧ ∀ lf : By, lf.length = 2 * d → (smT lf t).length + lf.length + 1 + 100 * l'.length ≤ 100 * l.length
 else zM t ∧ chl t + l'.length ≤ l.length ∧ ∀ left : By, left.length = 2 * d → (if g = 0 then (blT left t).length else (stT left t).length) + 100 * l'.length ≤ 100 * l.length
theorem expr_good {l l' : List Tok} {t : Tr} (he : Ends l) (h6 : l.length ≤ 1000000) (h : zU l = .ok (t, l')) : zy t ∧ IsNd t ∧ (wrT t).length + 2 + 30 * l'.length ≤ 30 * l.length := by
 obtain ⟨a, b⟩ := jj (by omega) (by omega) (zS _ 0 1 0 .nil 0 l t l' (fun _ => by omega) (fun h => by omega) he h6 h)
 exact ⟨a, zw _ 0 1 0 .nil 0 l t l' (by omega) (by omega) h, b⟩
theorem held_good {l l' : List Tok} {t : Tr} (he : Ends l) (h6 : l.length ≤ 1000000) (h : qC l = .ok (t, l')) : zy t ∧ IsNd t ∧ (wrT t).length + 2 + 30 * l'.length ≤ 30 * l.length := by
 obtain ⟨a, b⟩ := jj (by omega) (by omega) (zS _ 5 0 0 .nil 0 l t l' (fun h => by omega) (fun h => by omega) he h6 h)
 exact ⟨a, zw _ 5 0 0 .nil 0 l t l' (by omega) (by omega) h, b⟩
theorem idx_good {l l' : List Tok} {t : Tr} (he : Ends l) (h6 : l.length ≤ 1000000) (h : idxV l = .ok (t, l')) : zy t ∧ IsNd t ∧ (wrT t).length + 2 + 30 * l'.length ≤ 30 * l.length := by
 obtain ⟨a, b⟩ := jj (by omega) (by omega) (zS _ 6 0 0 .nil 0 l t l' (fun h => by omega) (fun h => by omega) he h6 h)
 exact ⟨a, zw _ 6 0 0 .nil 0 l t l' (by omega) (by omega) h, b⟩
theorem args_good {l l' : List Tok} {t : Tr} (he : Ends l) (h6 : l.length ≤ 1000000) (h : argsV l = .ok (t, l')) : ∃ xs, t = chain xs ∧ zy t ∧ (zB xs).length + 30 * l'.length ≤ 30 * l.length ∧ xs.length + l'.length ≤ l.length := by
 unfold argsV argV at h
 split at h
 ·rename_i h1
  obtain ⟨e1, s1⟩ := zC h1 (by decide) he
  obtain ⟨rfl, rfl⟩ := zk h
  exact ⟨[], rfl, good_ce, by simp [zB]; omega, by simp⟩
 ·have q := zS _ 7 0 0 ce 0 l t l' (fun h => by omega) (fun h => by omega) he h6 h
  unfold ExG at q
  rw [if_pos rfl] at q
  obtain ⟨xs, a, b, c, d⟩ := q
  exact ⟨xs, a, b, by omega, d⟩
theorem qX (lf : By) (c a : Int) (nm : By) (ix v th el : Tr) (h4 : c ≠ 4) (h5 : c ≠ 5) : (smT lf (st c a nm ix v th el)).length ≤ nm.length + (wrT ix).length + (wrT v).length + 13 := by
 have e : smT lf (st c a nm ix v th el) = (if c = 1 then [118, 97, 114, 32] ++ nm ++ [32, 61, 32] else if c = 2 then nm ++ [32, 61, 32] else if c = 3 then nm ++ ([91] ++ wrT ix ++ [93]) ++ [32, 61, 32] else if c = 6 then [114, 101, 116, 117, 114, 110, 32] else if c = 7 then [112, 114, 105, 110, 116, 32] else []) ++ wrT v ++ [59] := by
  simp [smT, h4, h5]
 rw [e]
 simp only [List.length_append, List.length_cons, List.length_nil]
 repeat' split
 all_goals simp
 all_goals omega
theorem named_good {a : Nat} {l l' : List Tok} {t : Tr} (he : Ends l) (h6 : l.length ≤ 1000000) (h : zQ a l = .ok (t, l')) : zM (cc t ce) ∧ ∀ lf : By, (smT lf t).length + 30 * l'.length ≤ 30 * l.length + 40 := by
 unfold zQ at h
 obtain ⟨nm, l1, h1, h⟩ := za h
 obtain ⟨e1, s1⟩ := jm h1 he
 obtain ⟨_, _, hn12, _⟩ := name_ok h1
 split at h
 ·rename_i h40
  obtain ⟨e2, s2⟩ := zC h40 (by decide) e1
  obtain ⟨g, l2, h2, h⟩ := za h
  obtain ⟨xs, hxs, gg, q1, q2⟩ := args_good e2 (by omega) h2
  obtain ⟨rfl, rfl⟩ := zk h
  refine ⟨qI (by omega) (by omega) (.inl rfl) zG (.inr (isNd _ _ _ _ _ _ _ _)) (good_nd (by omega) (by omega) (by omega) (by omega) (.inl rfl) (.inl rfl) zG zG gg hxs (by omega)) zA (by simp [chl]) zA (by simp [chl]) zA, fun lf => ?_⟩
  have := qX lf 8 a [] .nil (nd 5 a 0 nm [] .nil .nil g) ce ce (by omega) (by omega)
  have hw : wrT (nd 5 a 0 nm [] .nil .nil g) = (nm ++ [40]) ++ wrT g ++ [41] := by rw [wrT]; simp
  have hc : wrT g = zB xs := by rw [hxs, join_chain]
  have hn : wrT .nil = [] := by unfold wrT; rfl
  rw [hw, hc, hn] at this
  simp only [List.length_append, List.length_cons, List.length_nil] at this
  omega
 split at h
 ·rename_i h91
  obtain ⟨e2, s2⟩ := zC h91 (by decide) e1
  obtain ⟨i, l2, h2, h⟩ := za h
  obtain ⟨gi, ni, qi⟩ := idx_good e2 (by omega) h2
  obtain ⟨e3, s3⟩ := idx_tail h2 e2
  obtain ⟨_, l3, h3, h⟩ := za h
  obtain ⟨e4, s4⟩ := zm h3 (by decide) e3
  obtain ⟨v, l4, h4, h⟩ := za h
  obtain ⟨gv, nv, qv⟩ := expr_good e4 (by omega) h4
  obtain ⟨rfl, rfl⟩ := zk h
  refine ⟨qI (by omega) (by omega) (.inr ni) gi (.inr nv) gv zA (by simp [chl]) zA (by simp [chl]) zA, fun lf => ?_⟩
  have := qX lf 3 a nm i v ce ce (by omega) (by omega)
  omega
 ·obtain ⟨_, l3, h3, h⟩ := za h
  obtain ⟨e4, s4⟩ := zm h3 (by decide) e1
  obtain ⟨v, l4, h4, h⟩ := za h
  obtain ⟨gv, nv, qv⟩ := expr_good e4 (by omega) h4
  obtain ⟨rfl, rfl⟩ := zk h
  refine ⟨qI (by omega) (by omega) (.inl rfl) zG (.inr nv) gv zA (by simp [chl]) zA (by simp [chl]) zA, fun lf => ?_⟩
  have := qX lf 2 a nm .nil v ce ce (by omega) (by omega)
  have hn : wrT .nil = [] := by unfold wrT; rfl
  rw [hn] at this
  simp only [List.length_nil] at this
  omega
theorem chl_ce : chl ce = 0 := rfl
theorem Ends.kind3 {l : List Tok} (h : Ends l) (ht : (hd l).t ≠ []) : (hd l).k ≠ 3 := by
 obtain ⟨a, e, rfl, h1, h2, h3⟩ := h
 cases a with
 | nil => exact absurd h2 ht
 | cons x a => exact (h3 x (by simp)).1
theorem st_good : ∀ (f g d : Nat) (l : List Tok) (t : Tr) (l' : List Tok), (d ≤ 13 ∧ (g = 1 → d ≤ 12)) → Ends l → l.length ≤ 1000000 → stV f g d l = .ok (t, l') → (g ≤ 2) → StG g d l t l'
 | 0, _, _, _, _, _, _, _, _, h, _ => by simp [stV] at h
 | f + 1, 0, d, l, t, l', hd', he, h6, h, _ => by
  rw [stV] at h
  unfold StG
  rw [if_neg (by omega)]
  obtain ⟨_, _, hb, h⟩ := za h
  obtain ⟨_, l1, h1, h⟩ := za h
  obtain ⟨e1, s1⟩ := zm h1 (by decide) he
  have h123 := (qy h1).1
  have hk3 := he.kind3 (by rw [h123]; decide)
  have h12 : d ≤ 12 := by
   unfold qU at hb
   split at hb
   ·cases hb
   ·omega
  have q := st_good f 1 d l1 t l' ⟨by omega, fun _ => h12⟩ e1 (by omega) h (by omega)
  unfold StG at q
  rw [if_neg (by omega)] at q
  refine ⟨q.1, by have := q.2.1; omega, fun left hleft => ?_⟩
  have := q.2.2 left hleft
  rw [if_neg (by omega)] at this
  rw [if_pos rfl]
  unfold blT
  simp only [List.length_append, List.length_cons, List.length_nil]
  omega
 | f + 1, 1, d, l, t, l', hd', he, h6, h, _ => by
  rw [stV] at h
  unfold StG
  rw [if_neg (by omega)]
  split at h
  ·rename_i h1
   obtain ⟨e1, s1⟩ := zC h1 (by decide) he
   obtain ⟨rfl, rfl⟩ := zk h
   refine ⟨zA, by rw [chl_ce]; omega, fun left hleft => ?_⟩
   rw [if_neg (by omega), stT_ce]
   simp
   omega
  ·obtain ⟨t1, l1, h1, h⟩ := za h
   obtain ⟨e1, s1⟩ := qD f 2 (d + 1) l t1 l1 he h1
   have h12 := hd'.2 rfl
   have q1 := st_good f 2 (d + 1) l t1 l1 ⟨by omega, fun h => by omega⟩ he h6 h1 (by omega)
   unfold StG at q1
   rw [if_pos rfl] at q1
   obtain ⟨g, l2, h2, h⟩ := za h
   have q2 := st_good f 1 d l1 g l2 ⟨by omega, fun _ => h12⟩ e1 (by omega) h2 (by omega)
   unfold StG at q2
   rw [if_neg (by omega)] at q2
   obtain ⟨rfl, rfl⟩ := zk h
   refine ⟨goodS_cons q1.1 q2.1, by have := q2.2.1; simp only [chl]; omega, fun left hleft => ?_⟩
   have a1 := q1.2 (left ++ [32, 32]) (by simp; omega)
   have a2 := q2.2.2 left hleft
   rw [if_neg (by omega)] at a2
   rw [if_neg (by omega), stT_good left q1.1]
   simp only [List.length_append, List.length_cons, List.length_nil] at a1 ⊢
   omega
 | f + 1, 2, d, l, t, l', hd', he, h6, h, _ => by
  rw [stV] at h
  unfold StG
  rw [if_pos rfl]
  have h13 := hd'.1
  have hnil : wrT .nil = [] := by unfold wrT; rfl
  split at h
  ·obtain ⟨t1, l1, h1, h⟩ := za h
   obtain ⟨e1, s1⟩ := named_tail h1 he
   obtain ⟨q1, q2⟩ := named_good he h6 h1
   obtain ⟨_, l2, h2, h⟩ := za h
   obtain ⟨e2, s2⟩ := zm h2 (by decide) e1
   obtain ⟨rfl, rfl⟩ := zk h
   refine ⟨q1, fun lf hlf => ?_⟩
   have := q2 lf
   omega
  split at h
  ·rename_i h0
   obtain ⟨e0, s0⟩ := zC h0 (by decide) he
   obtain ⟨nm, l1, h1, h⟩ := za h
   obtain ⟨e1, s1⟩ := jm h1 e0
   obtain ⟨_, _, hn12, _⟩ := name_ok h1
   obtain ⟨_, l2, h2, h⟩ := za h
   obtain ⟨e2, s2⟩ := zm h2 (by decide) e1
   obtain ⟨v, l3, h3, h⟩ := za h
   obtain ⟨gv, nv, qv⟩ := expr_good e2 (by omega) h3
   obtain ⟨e3, s3⟩ := qA h3 e2
   obtain ⟨_, l4, h4, h⟩ := za h
   obtain ⟨e4, s4⟩ := zm h4 (by decide) e3
   obtain ⟨rfl, rfl⟩ := zk h
   refine ⟨qI (by omega) (by omega) (.inl rfl) zG (.inr nv) gv zA (by simp [chl]) zA (by simp [chl]) zA, fun lf hlf => ?_⟩
   have := qX lf 1 (hd l).p nm .nil v ce ce (by omega) (by omega)
   rw [hnil] at this
   simp only [List.length_nil] at this
   omega
  split at h
  ·rename_i h0
   obtain ⟨e0, s0⟩ := zC h0 (by decide) he
   obtain ⟨v, l3, h3, h⟩ := za h
   obtain ⟨gv, nv, qv⟩ := expr_good e0 (by omega) h3
   obtain ⟨e3, s3⟩ := qA h3 e0
   obtain ⟨_, l4, h4, h⟩ := za h
   obtain ⟨e4, s4⟩ := zm h4 (by decide) e3
   obtain ⟨rfl, rfl⟩ := zk h
   refine ⟨qI (by omega) (by omega) (.inl rfl) zG (.inr nv) gv zA (by simp [chl]) zA (by simp [chl]) zA, fun lf hlf => ?_⟩
   have := qX lf 6 (hd l).p [] .nil v ce ce (by omega) (by omega)
   rw [hnil] at this
   simp only [List.length_nil] at this
   omega
  split at h
  ·rename_i h0
   obtain ⟨e0, s0⟩ := zC h0 (by decide) he
   obtain ⟨v, l3, h3, h⟩ := za h
   obtain ⟨gv, nv, qv⟩ := expr_good e0 (by omega) h3
   obtain ⟨e3, s3⟩ := qA h3 e0
   obtain ⟨_, l4, h4, h⟩ := za h
   obtain ⟨e4, s4⟩ := zm h4 (by decide) e3
   obtain ⟨rfl, rfl⟩ := zk h
   refine ⟨qI (by omega) (by omega) (.inl rfl) zG (.inr nv) gv zA (by simp [chl]) zA (by simp [chl]) zA, fun lf hlf => ?_⟩
   have := qX lf 7 (hd l).p [] .nil v ce ce (by omega) (by omega)
   rw [hnil] at this
   simp only [List.length_nil] at this
   omega
  split at h
  ·rename_i h0
   obtain ⟨e0, s0⟩ := zC h0 (by decide) he
   obtain ⟨v, l3, h3, h⟩ := za h
   obtain ⟨gv, nv, qv⟩ := held_good e0 (by omega) h3
   obtain ⟨e3, s3⟩ := held_tail h3 e0
   obtain ⟨th, l4, h4, h⟩ := za h
   obtain ⟨e4, s4⟩ := qD f 0 d l3 th l4 e3 h4
   have q1 := st_good f 0 d l3 th l4 ⟨h13, fun h => by omega⟩ e3 (by omega) h4 (by omega)
   unfold StG at q1
   rw [if_neg (by omega)] at q1
   split at h
   ·rename_i h5
    obtain ⟨e5, s5⟩ := zC h5 (by decide) e4
    obtain ⟨el, l6, h7, h⟩ := za h
    obtain ⟨e6, s6⟩ := qD f 0 d l4.tail el l6 e5 h7
    have q2 := st_good f 0 d l4.tail el l6 ⟨h13, fun h => by omega⟩ e5 (by omega) h7 (by omega)
    unfold StG at q2
    rw [if_neg (by omega)] at q2
    obtain ⟨rfl, rfl⟩ := zk h
    refine ⟨qI (by omega) (by omega) (.inl rfl) zG (.inr nv) gv q1.1 (by have := q1.2.1; omega) q2.1 (by have := q2.2.1; omega) zA, fun lf hlf => ?_⟩
    have a1 := q1.2.2 lf hlf
    have a2 := q2.2.2 lf hlf
    rw [if_pos rfl] at a1 a2
    have e : smT lf (st 4 (hd l).p [] .nil v th el) = ([105, 102] ++ [32, 40]) ++ wrT v ++ [41] ++ blT lf th ++ (if isCe el then [] else [32, 101, 108, 115, 101] ++ blT lf el) := by simp [smT]
    rw [e]
    split
    ·simp only [List.length_append, List.length_cons, List.length_nil]
     omega
    ·simp only [List.length_append, List.length_cons, List.length_nil]
     omega
   ·obtain ⟨rfl, rfl⟩ := zk h
    refine ⟨qI (by omega) (by omega) (.inl rfl) zG (.inr nv) gv q1.1 (by have := q1.2.1; omega) zA (by simp [chl]) zA, fun lf hlf => ?_⟩
    have a1 := q1.2.2 lf hlf
    rw [if_pos rfl] at a1
    have e : smT lf (st 4 (hd l).p [] .nil v th ce) = ([105, 102] ++ [32, 40]) ++ wrT v ++ [41] ++ blT lf th := by simp [smT, isCe]
    rw [e]
    simp only [List.length_append, List.length_cons, List.length_nil]
    omega
  split at h
  ·rename_i h0
   obtain ⟨e0, s0⟩ := zC h0 (by decide) he
   obtain ⟨v, l3, h3, h⟩ := za h
   obtain ⟨gv, nv, qv⟩ := held_good e0 (by omega) h3
   obtain ⟨e3, s3⟩ := held_tail h3 e0
   obtain ⟨th, l4, h4, h⟩ := za h
   have q1 := st_good f 0 d l3 th l4 ⟨h13, fun h => by omega⟩ e3 (by omega) h4 (by omega)
   unfold StG at q1
   rw [if_neg (by omega)] at q1
   obtain ⟨rfl, rfl⟩ := zk h
   refine ⟨qI (by omega) (by omega) (.inl rfl) zG (.inr nv) gv q1.1 (by have := q1.2.1; omega) zA (by simp [chl]) zA, fun lf hlf => ?_⟩
   have a1 := q1.2.2 lf hlf
   rw [if_pos rfl] at a1
   have e : smT lf (st 5 (hd l).p [] .nil v th ce) = ([119, 104, 105, 108, 101] ++ [32, 40]) ++ wrT v ++ [41] ++ blT lf th := by simp [smT]
   rw [e]
   simp only [List.length_append, List.length_cons, List.length_nil]
   omega
  ·cases h
 | f + 1, g + 3, d, l, t, l', hd', he, h6, h, hg => by omega
theorem par_good {l l' : List Tok} {t : Tr} (he : Ends l) (h : parV l = .ok (t, l')) : ∃ x : By × Int, t = pr x.1 x.2 ∧ (paO x).length + 2 + 30 * l'.length ≤ 30 * l.length := by
 unfold parV at h
 obtain ⟨nm, l1, h1, h⟩ := za h
 obtain ⟨e1, s1⟩ := jm h1 he
 obtain ⟨_, _, hn12, _⟩ := name_ok h1
 obtain ⟨_, l2, h2, h⟩ := za h
 obtain ⟨e2, s2⟩ := zm h2 (by decide) e1
 split at h
 ·rename_i h3
  obtain ⟨e3, s3⟩ := zC h3 (by decide) e2
  obtain ⟨rfl, rfl⟩ := zk h
  exact ⟨(nm, 2), rfl, by simp [paO]; omega⟩
 ·obtain ⟨_, l3, h3, h⟩ := za h
  obtain ⟨e3, s3⟩ := zm h3 (by decide) e2
  obtain ⟨rfl, rfl⟩ := zk h
  exact ⟨(nm, 1), rfl, by simp [paO]; omega⟩
theorem paT_cons (x : By × Int) (xs : List (By × Int)) : (paT (x :: xs)).length ≤ (paO x).length + 2 + (paT xs).length := by
 cases xs with
 | nil => simp [paT]
 | cons y xs => simp [paT]; omega
theorem parl_good : ∀ (f : Nat) {l l' : List Tok} {t : Tr}, Ends l → qe f l = .ok (t, l') → ∃ xs : List (By × Int), t = psT xs ∧ (paT xs).length + 30 * l'.length ≤ 30 * l.length ∧ xs.length + l'.length ≤ l.length
 | 0, l, l', t, he, h => by simp [qe] at h
 | f + 1, l, l', t, he, h => by
  rw [qe] at h
  obtain ⟨x, l1, h1, h⟩ := za h
  obtain ⟨e1, s1⟩ := par_tail h1 he
  obtain ⟨p, rfl, q1⟩ := par_good he h1
  split at h
  ·rename_i h2
   obtain ⟨e2, s2⟩ := zC h2 (by decide) e1
   obtain ⟨g, l3, h3, h⟩ := za h
   obtain ⟨xs, rfl, q2, q3⟩ := parl_good f e2 h3
   obtain ⟨rfl, rfl⟩ := zk h
   have := paT_cons p xs
   exact ⟨p :: xs, rfl, by omega, by simp; omega⟩
  ·obtain ⟨_, l3, h3, h⟩ := za h
   obtain ⟨e3, s3⟩ := zm h3 (by decide) e1
   obtain ⟨rfl, rfl⟩ := zk h
   exact ⟨[p], rfl, by simp [paT]; omega, by simp; omega⟩
theorem pars_good {l l' : List Tok} {t : Tr} (he : Ends l) (h : parsV l = .ok (t, l')) : ∃ xs : List (By × Int), t = psT xs ∧ (paT xs).length + 30 * l'.length ≤ 30 * l.length ∧ xs.length + l'.length ≤ l.length := by
 unfold parsV at h
 split at h
 ·rename_i h2
  obtain ⟨e2, s2⟩ := zC h2 (by decide) he
  obtain ⟨rfl, rfl⟩ := zk h
  exact ⟨[], rfl, by simp [paT]; omega, by simp⟩
 ·exact parl_good _ he h
def GoodF (F : Fun) : Prop := zM F.body ∧ chl F.body ≤ 1000000 ∧ F.ps.length ≤ 1000000
theorem fn_good {l l' : List Tok} {t : Tr} (he : Ends l) (h6 : l.length ≤ 1000000) (h : fnV l = .ok (t, l')) : ∃ F : Fun, t = F.tr ∧ GoodF F ∧ (fuT F).length + 100 * l'.length ≤ 100 * l.length := by
 unfold fnV at h
 obtain ⟨_, l1, h1, h⟩ := za h
 obtain ⟨e1, s1⟩ := zm h1 (by decide) he
 obtain ⟨nm, l2, h2, h⟩ := za h
 obtain ⟨e2, s2⟩ := jm h2 e1
 obtain ⟨_, _, hn12, _⟩ := name_ok h2
 obtain ⟨_, l3, h3, h⟩ := za h
 obtain ⟨e3, s3⟩ := zm h3 (by decide) e2
 obtain ⟨ps, l4, h4, h⟩ := za h
 obtain ⟨e4, s4⟩ := pars_tail h4 e3
 obtain ⟨xs, rfl, q1, q2⟩ := pars_good e3 h4
 obtain ⟨b, l5, h5, h⟩ := za h
 have q := st_good _ 0 0 l4 b l5 ⟨by omega, fun h => by omega⟩ e4 (by omega) h5 (by omega)
 unfold StG at q
 rw [if_neg (by omega)] at q
 obtain ⟨rfl, rfl⟩ := zk h
 refine ⟨⟨nm, .i64, (hd l).p, xs, b⟩, rfl, ⟨q.1, by have := q.2.1; show chl b ≤ _; omega, by show xs.length ≤ _; omega⟩, ?_⟩
 have a := q.2.2 [] (by simp)
 rw [if_pos rfl] at a
 unfold fuT
 simp only [List.length_append, List.length_cons, List.length_nil]
 omega
theorem prog_good : ∀ (f n : Nat) {l l' : List Tok} {t : Tr}, n ≤ 12 → Ends l → l.length ≤ 1000000 → zT f n l = .ok (t, l') → ∃ L : List Fun, t = chain (L.map Fun.tr) ∧ (∀ F ∈ L, GoodF F) ∧ (prT L).length + 100 * l'.length ≤ 100 * l.length ∧ n + L.length ≤ 12
 | 0, n, l, l', t, hn, he, h6, h => by simp [zT] at h
 | f + 1, n, l, l', t, hn, he, h6, h => by
  rw [zT] at h
  split at h
  ·obtain ⟨rfl, rfl⟩ := zk h
   exact ⟨[], rfl, fun F hF => by simp at hF, by simp [prT], by simpa using hn⟩
  split at h
  ·cases h
  ·obtain ⟨x, l1, h1, h⟩ := za h
   obtain ⟨e1, s1⟩ := fn_tail h1 he
   obtain ⟨F, rfl, gF, q1⟩ := fn_good he h6 h1
   obtain ⟨g, l2, h2, h⟩ := za h
   obtain ⟨L, rfl, gL, q2, q3⟩ := prog_good f (n + 1) (by omega) e1 (by omega) h2
   obtain ⟨rfl, rfl⟩ := zk h
   refine ⟨F :: L, rfl, fun G hG => ?_, by simp [prT] at q2 ⊢; omega, by simp; omega⟩
   rcases List.mem_cons.1 hG with rfl | hG
   ·exact gF
   ·exact gL G hG
theorem psT_inj {a b : List (By × Int)} (h : psT a = psT b) : a = b := by
 have h1 := chain_inj h
 induction a generalizing b with
 | nil => cases b with
  | nil => rfl
  | cons y b => simp at h1
 | cons x a ih => cases b with
  | nil => simp at h1
  | cons y b =>
   simp only [List.map_cons, List.cons.injEq] at h1
   obtain ⟨h2, h3⟩ := h1
   injection h2 with h2
   simp only [List.cons.injEq, DataW.lit.injEq, Lit.string.injEq, Lit.int.injEq] at h2
   have : x = y := Prod.ext h2.1 h2.2.1.2
   rw [this, ih (b := b) (by unfold psT; rw [h3]) h3]
theorem tr_inj {F G : Fun} (h : F.tr = G.tr) : F = G := by
 unfold Fun.tr at h
 injection h with h
 simp only [List.cons.injEq, DataW.lit.injEq, Lit.string.injEq, Lit.int.injEq] at h
 obtain ⟨h1, ⟨h2, h3⟩, h4, h5, _⟩ := h
 cases F
 cases G
 simp only [Fun.mk.injEq]
 exact ⟨h1, h2, h3, psT_inj h4, h5⟩
theorem trs_inj {a b : List Fun} (h : chain (a.map Fun.tr) = chain (b.map Fun.tr)) : a = b := by
 have h1 := chain_inj h
 induction a generalizing b with
 | nil => cases b with
  | nil => rfl
  | cons y b => simp at h1
 | cons x a ih => cases b with
  | nil => simp at h1
  | cons y b =>
   simp only [List.map_cons, List.cons.injEq] at h1
   rw [tr_inj h1.1, ih (b := b) (by rw [h1.2]) h1.2]
theorem parse_good {s : By} {t : Tr} (hs : s.length ≤ 1000000) (h : zO s = .ok t) : ∃ L : List Fun, t = chain (L.map Fun.tr) ∧ (∀ F ∈ L, GoodF F) ∧ (prT L).length ≤ 150100 ∧ L.length ≤ 12 := by
 unfold zO at h
 split at h
 ·cases h
 ·rename_i l hl
  split at h
  ·cases h
  ·rename_i t' l' hp
   injection h with h
   subst h
   obtain ⟨e1, e2⟩ := tok_ends hl hs
   obtain ⟨L, a, b, c, d⟩ := prog_good _ 0 (by omega) e1 (by omega) hp
   exact ⟨L, a, b, by omega, by omega⟩
theorem print_of {S : Nat → Prop} {w : World} {v : Value} {n B : Nat} {cs : List Value} {L : List Fun} (he : EnvW 14 w) (hr : w.ownsRow B 86 4 v n cs) (hS : ∀ i, v.ownBlock = some i → S i) (hx : FnAt S w (chain (L.map Fun.tr)) cs) (hg : ∀ F ∈ L, GoodF F) (hl : (prT L).length ≤ 150100) (h12 : L.length ≤ 12) :
  n = L.length ∧ Calls Tryz.prog 15 #[v] w fun e w' => e = .returned (.string ⟨(prT L).toArray⟩) ∧ Below w.heap.size w w' := by
 obtain ⟨L', e1, e2, e3⟩ := fns_open _ cs hx
 have := trs_inj e1
 subst this
 have hn : n = L.length := by have := hr.1; omega
 exact ⟨hn, print_walk S w v n cs L he ⟨own_mono hr (Nat.zero_le _), hS⟩ hn (by omega) e3 (fun F hF => ⟨pb_all (hg F hF).1 (hg F hF).2.1, (hg F hF).2.2⟩) (by omega)⟩
def er : Tr → Tr
 | .agg [.lit (.int k1 c), .lit (.int k2 _), .lit (.int k3 n), .lit (.string nm), .lit (.string op), l, r, g] => .agg [.lit (.int k1 c), .lit (.int k2 0), .lit (.int k3 n), .lit (.string nm), .lit (.string op), er l, er r, er g]
 | .agg [.lit (.int k1 c), .lit (.int k2 _), .lit (.string nm), ix, v, th, el] => .agg [.lit (.int k1 c), .lit (.int k2 0), .lit (.string nm), er ix, er v, er th, er el]
 | .agg [.lit (.string nm), .lit (.int k _), ps, b] => .agg [.lit (.string nm), .lit (.int k 0), er ps, er b]
 | .slice [x] [g] => .slice [er x] [er g]
 | t => t
theorem qS (c a n : Int) (nm op : By) (l r g : Tr) : er (nd c a n nm op l r g) = nd c 0 n nm op (er l) (er r) (er g) := by rw [er]
theorem er_st (c a : Int) (nm : By) (ix v th el : Tr) : er (st c a nm ix v th el) = st c 0 nm (er ix) (er v) (er th) (er el) := by rw [er]
theorem er_fn (nm : By) (a : Int) (ps b : Tr) : er (fnc nm a ps b) = fnc nm 0 (er ps) (er b) := by rw [er]
theorem er_cc (x g : Tr) : er (cc x g) = cc (er x) (er g) := by rw [er]
theorem zE : er ce = ce := by unfold er; rfl
theorem zp : er .nil = .nil := by unfold er; rfl
def ph (t : Tok) : Tok := ⟨t.k, t.t, 0⟩
abbrev pl (l : List Tok) : List Tok := l.map ph
theorem pl_hd (l : List Tok) : hd (pl l) = ph (hd l) := by cases l <;> rfl
theorem pl_t (l : List Tok) : (hd (pl l)).t = (hd l).t := by rw [pl_hd]; rfl
theorem pl_k (l : List Tok) : (hd (pl l)).k = (hd l).k := by rw [pl_hd]; rfl
theorem pl_p (l : List Tok) : (hd (pl l)).p = 0 := by rw [pl_hd]; rfl
theorem qj (l : List Tok) : (pl l).tail = pl l.tail := by cases l <;> rfl
def eR {α : Type} (e : α → α) : R α → R α
 | .ok (t, l) => .ok (e t, pl l)
 | .error (k, _) => .error (k, 0)
theorem zr {α β : Type} {e : α → α} {e' : β → β} {x : R α} {f f' : α → List Tok → R β} (h : ∀ t l, f' (e t) (pl l) = eR e' (f t l)) : bnd (eR e x) f' = eR e' (bnd x f) := by
 rcases x with ⟨k, p⟩ | ⟨t, l⟩
 ·rfl
 ·exact h t l
theorem qG (x : By) (l : List Tok) : zf x (pl l) = eR id (zf x l) := by
 unfold zf
 rw [pl_t, pl_p, qj]
 split <;> rfl
theorem e_name (l : List Tok) : zI (pl l) = eR id (zI l) := by
 unfold zI
 rw [pl_k, pl_t, pl_p, qj]
 split
 ·rfl
 ·split <;> rfl
theorem e_num (l : List Tok) : numVv (pl l) = eR id (numVv l) := by
 unfold numVv
 rw [pl_t, pl_p, qj]
 split <;> rfl
theorem e_bound (d : Nat) (l : List Tok) : qU d (pl l) = eR id (qU d l) := by
 unfold qU
 rw [pl_k, pl_p]
 split <;> rfl
theorem jn : ∀ (f g lv d : Nat) (x : Tr) (p : Nat) (l : List Tok), exV f g lv d (er x) 0 (pl l) = eR er (exV f g lv d x p l)
 | 0, _, _, _, _, _, _ => by rw [exV, exV]; rfl
 | f + 1, 0, lv, d, x, p, l => by
  rw [exV, exV]
  split
  ·have := jn f 2 0 d .nil 0 l
   rw [zp] at this
   exact this
  ·have h0 := jn f 0 (lv + 1) d .nil 0 l
   rw [zp] at h0
   rw [h0, pl_p]
   exact zr fun t l1 => jn f 1 lv d t _ l1
 | f + 1, 1, lv, d, x, p, l => by
  rw [exV, exV, pl_t, qj]
  split
  ·have h0 := jn f 0 (lv + 1) d .nil 0 l.tail
   rw [zp] at h0
   rw [h0]
   refine zr fun t l1 => ?_
   have := jn f 1 lv d (nd 3 p 0 [] (hd l).t x t ce) p l1
   rw [qS, zE] at this
   exact this
  ·rfl
 | f + 1, 2, lv, d, x, p, l => by
  rw [exV, exV, e_bound, pl_t, pl_p, qj]
  refine zr fun _ _ => ?_
  split
  ·have h0 := jn f 2 0 (d + 1) .nil 0 l.tail
   rw [zp] at h0
   rw [h0]
   refine zr fun t l1 => ?_
   show _ = Except.ok (er _, _)
   rw [qS, zE, zp]
   rfl
  ·have h0 := jn f 4 0 d .nil 0 l
   rw [zp] at h0
   rw [h0]
   exact zr fun t l1 => jn f 3 0 d t _ l1
 | f + 1, 3, lv, d, x, p, l => by
  rw [exV, exV, pl_t, qj]
  split
  ·have h0 := jn f 6 0 d .nil 0 l.tail
   rw [zp] at h0
   rw [h0]
   refine zr fun t l1 => ?_
   have := jn f 3 0 d (nd 8 p 0 [] [] x t ce) p l1
   rw [qS, zE] at this
   exact this
  ·rfl
 | f + 1, 4, lv, d, x, p, l => by
  rw [exV, exV, pl_k, pl_t, pl_p, qj, e_num, e_name]
  have h5 : ∀ l, exV f 5 0 d .nil 0 (pl l) = eR er (exV f 5 0 d .nil 0 l) := fun l => by
   have := jn f 5 0 d .nil 0 l
   rw [zp] at this
   exact this
  split
  ·refine zr fun v l1 => ?_
   show _ = Except.ok (er _, _)
   rw [qS, zE, zp]
   rfl
  split
  ·refine zr fun nm l1 => ?_
   rw [pl_t, qj, pl_t, qj]
   split
   ·split
    ·show _ = Except.ok (er _, _)
     rw [qS, zE, zp]
     rfl
    ·have h7 := jn f 7 0 d ce 0 l1.tail
     rw [zE] at h7
     rw [h7]
     refine zr fun g l2 => ?_
     show _ = Except.ok (er _, _)
     rw [qS, zp]
     rfl
   ·show _ = Except.ok (er _, _)
    rw [qS, zE, zp]
    rfl
  split
  ·rw [h5]
   refine zr fun t l1 => ?_
   show _ = Except.ok (er _, _)
   rw [qS, zE, zp]
   rfl
  split
  ·rw [h5]
   refine zr fun t l1 => ?_
   show _ = Except.ok (er _, _)
   rw [qS, zE, zp]
   rfl
  split
  ·rw [qG]
   refine zr fun _ l1 => ?_
   rw [qG]
   refine zr fun _ l2 => ?_
   show _ = Except.ok (er _, _)
   rw [qS, zE, zp]
   rfl
  ·exact h5 l
 | f + 1, 5, lv, d, x, p, l => by
  rw [exV, exV, qG]
  refine zr fun _ l1 => ?_
  have h0 := jn f 0 1 (d + 1) .nil 0 l1
  rw [zp] at h0
  rw [h0]
  refine zr fun t l2 => ?_
  rw [qG]
  exact zr fun _ l3 => rfl
 | f + 1, 6, lv, d, x, p, l => by
  rw [exV, exV]
  have h0 := jn f 0 1 (d + 1) .nil 0 l
  rw [zp] at h0
  rw [h0]
  refine zr fun t l2 => ?_
  rw [qG]
  exact zr fun _ l3 => rfl
 | f + 1, 7, lv, d, x, p, l => by
  rw [exV, exV]
  have h0 := jn f 0 1 (d + 1) .nil 0 l
  rw [zp] at h0
  rw [h0]
  refine zr fun t l2 => ?_
  rw [pl_t, qj]
  split
  ·have h7 := jn f 7 0 d ce 0 l2.tail
   rw [zE] at h7
   rw [h7]
   refine zr fun g l3 => ?_
   show _ = Except.ok (er _, _)
   rw [er_cc]
  ·rw [qG]
   refine zr fun _ l3 => ?_
   show _ = Except.ok (er _, _)
   rw [er_cc, zE]
 | f + 1, g + 8, lv, d, x, p, l => by rw [exV, exV]; rfl
theorem er_pr (nm : By) (ty : Int) : er (pr nm ty) = pr nm ty := by unfold er; rfl
theorem ef_pl (l : List Tok) : ef (pl l) = ef l := by simp [ef]
theorem e_expr (l : List Tok) : zU (pl l) = eR er (zU l) := by
 unfold zU
 rw [ef_pl]
 have := jn (ef l) 0 1 0 .nil 0 l
 rw [zp] at this
 exact this
theorem e_held (l : List Tok) : qC (pl l) = eR er (qC l) := by
 unfold qC
 rw [ef_pl]
 have := jn (ef l) 5 0 0 .nil 0 l
 rw [zp] at this
 exact this
theorem e_idx (l : List Tok) : idxV (pl l) = eR er (idxV l) := by
 unfold idxV
 rw [ef_pl]
 have := jn (ef l) 6 0 0 .nil 0 l
 rw [zp] at this
 exact this
theorem e_args (l : List Tok) : argsV (pl l) = eR er (argsV l) := by
 unfold argsV argV
 rw [ef_pl, pl_t, qj]
 split
 ·show _ = Except.ok (er _, _)
  rw [zE]
 ·have := jn (ef l) 7 0 0 ce 0 l
  rw [zE] at this
  exact this
theorem e_named (a : Nat) (l : List Tok) : zQ 0 (pl l) = eR er (zQ a l) := by
 unfold zQ
 rw [e_name]
 refine zr fun nm l1 => ?_
 rw [pl_t, qj]
 split
 ·rw [e_args]
  refine zr fun g l2 => ?_
  show _ = Except.ok (er _, _)
  rw [er_st, qS, zp, zE]
  rfl
 split
 ·rw [e_idx]
  refine zr fun i l2 => ?_
  rw [qG]
  refine zr fun _ l3 => ?_
  rw [e_expr]
  refine zr fun v l4 => ?_
  show _ = Except.ok (er _, _)
  rw [er_st, zE]
  rfl
 ·rw [qG]
  refine zr fun _ l3 => ?_
  rw [e_expr]
  refine zr fun v l4 => ?_
  show _ = Except.ok (er _, _)
  rw [er_st, zp, zE]
  rfl
theorem e_st : ∀ (f g d : Nat) (l : List Tok), stV f g d (pl l) = eR er (stV f g d l)
 | 0, _, _, _ => by rw [stV, stV]; rfl
 | f + 1, 0, d, l => by
  rw [stV, stV, e_bound, qG]
  refine zr fun _ _ => ?_
  exact zr fun _ l1 => e_st f 1 d l1
 | f + 1, 1, d, l => by
  rw [stV, stV, pl_t, qj]
  split
  ·show _ = Except.ok (er _, _)
   rw [zE]
  ·rw [e_st f 2 (d + 1) l]
   refine zr fun t l1 => ?_
   rw [e_st f 1 d l1]
   refine zr fun g l2 => ?_
   show _ = Except.ok (er _, _)
   rw [er_cc]
 | f + 1, 2, d, l => by
  rw [stV, stV, pl_k, pl_t, pl_p, qj, e_named (hd l).p l, e_name, e_expr, e_held]
  split
  ·refine zr fun t l1 => ?_
   rw [qG]
   exact zr fun _ l2 => rfl
  split
  ·refine zr fun nm l1 => ?_
   rw [qG]
   refine zr fun _ l2 => ?_
   rw [e_expr]
   refine zr fun v l3 => ?_
   rw [qG]
   refine zr fun _ l4 => ?_
   show _ = Except.ok (er _, _)
   rw [er_st, zp, zE]
   rfl
  split
  ·refine zr fun v l3 => ?_
   rw [qG]
   refine zr fun _ l4 => ?_
   show _ = Except.ok (er _, _)
   rw [er_st, zp, zE]
   rfl
  split
  ·refine zr fun v l3 => ?_
   rw [qG]
   refine zr fun _ l4 => ?_
   show _ = Except.ok (er _, _)
   rw [er_st, zp, zE]
   rfl
  split
  ·refine zr fun v l1 => ?_
   rw [e_st f 0 d l1]
   refine zr fun th l2 => ?_
   rw [pl_t, qj]
   split
   ·rw [e_st f 0 d l2.tail]
    refine zr fun el l3 => ?_
    show _ = Except.ok (er _, _)
    rw [er_st, zp]
    rfl
   ·show _ = Except.ok (er _, _)
    rw [er_st, zp, zE]
    rfl
  split
  ·refine zr fun v l1 => ?_
   rw [e_st f 0 d l1]
   refine zr fun th l2 => ?_
   show _ = Except.ok (er _, _)
   rw [er_st, zp, zE]
   rfl
  ·rfl
 | f + 1, g + 3, d, l => by rw [stV, stV]; rfl
theorem e_par (l : List Tok) : parV (pl l) = eR er (parV l) := by
 unfold parV
 rw [e_name]
 refine zr fun nm l1 => ?_
 rw [qG]
 refine zr fun _ l2 => ?_
 rw [pl_t, qj, qG]
 split
 ·show _ = Except.ok (er _, _)
  rw [er_pr]
  rfl
 ·refine zr fun _ l3 => ?_
  show _ = Except.ok (er _, _)
  rw [er_pr]
  rfl
theorem e_parl : ∀ (f : Nat) (l : List Tok), qe f (pl l) = eR er (qe f l)
 | 0, _ => by rw [qe, qe]; rfl
 | f + 1, l => by
  rw [qe, qe, e_par]
  refine zr fun x l1 => ?_
  rw [pl_t, qj, qG, e_parl f l1.tail]
  split
  ·refine zr fun g l2 => ?_
   show _ = Except.ok (er _, _)
   rw [er_cc]
  ·refine zr fun _ l2 => ?_
   show _ = Except.ok (er _, _)
   rw [er_cc, zE]
theorem e_pars (l : List Tok) : parsV (pl l) = eR er (parsV l) := by
 unfold parsV
 rw [pl_t, qj, List.length_map]
 split
 ·show _ = Except.ok (er _, _)
  rw [zE]
 ·exact e_parl _ l
theorem e_fn (l : List Tok) : fnV (pl l) = eR er (fnV l) := by
 unfold fnV
 rw [qG, pl_p]
 refine zr fun _ l1 => ?_
 rw [e_name]
 refine zr fun nm l2 => ?_
 rw [qG]
 refine zr fun _ l3 => ?_
 rw [e_pars]
 refine zr fun ps l4 => ?_
 unfold blockV
 rw [List.length_map, e_st]
 refine zr fun b l5 => ?_
 show _ = Except.ok (er _, _)
 rw [er_fn]
 rfl
theorem e_prog : ∀ (f n : Nat) (l : List Tok), zT f n (pl l) = eR er (zT f n l)
 | 0, _, _ => by rw [zT, zT]; rfl
 | f + 1, n, l => by
  rw [zT, zT, pl_k, pl_p]
  split
  ·show _ = Except.ok (er _, _)
   rw [zE]
  split
  ·rfl
  ·rw [e_fn]
   refine zr fun x l1 => ?_
   rw [e_prog f (n + 1) l1]
   refine zr fun g l2 => ?_
   show _ = Except.ok (er _, _)
   rw [er_cc]
theorem er_chain : ∀ xs : List Tr, er (chain xs) = chain (xs.map er)
 | [] => zE
 | x :: xs => by
  show er (cc x (chain xs)) = cc (er x) (chain (xs.map er))
  rw [er_cc, er_chain xs]
def erF (F : Fun) : Fun := ⟨F.nm, F.kd, 0, F.ps, er F.body⟩
theorem er_psT (xs : List (By × Int)) : er (psT xs) = psT xs := by
 unfold psT
 rw [er_chain, List.map_map]
 exact congrArg chain (List.map_congr_left fun x _ => er_pr x.1 x.2)
theorem er_tr (F : Fun) : er F.tr = (erF F).tr := by
 show er (.agg [.lit (.string F.nm), .lit (.int F.kd F.at'), psT F.ps, F.body]) = .agg [.lit (.string F.nm), .lit (.int F.kd 0), psT F.ps, er F.body]
 rw [er, er_psT]
theorem er_trs (L : List Fun) : er (chain (L.map Fun.tr)) = chain ((L.map erF).map Fun.tr) := by
 rw [er_chain, List.map_map, List.map_map]
 exact congrArg chain (List.map_congr_left fun F _ => er_tr F)
end Go.Proofs.YtnfhpdbbfejioaaGreatDoor
namespace Go.Proofs.YtnfhpdbbfejioaaGreatDoor
set_option linter.unusedVariables false
set_option linter.unusedSimpArgs false
open Go
structure Pc where
 k : Nat
 w : By
abbrev bl (c : UInt8) : Pc := ⟨9, [c]⟩
abbrev fx (x : By) : Pc := ⟨1, x⟩
def txt (l : List Pc) : By := l.flatMap (·.w)
def txtF (fl : Nat → UInt8 → By) : Nat → List Pc → By
 | _, [] => []
 | n, p :: q => if p.k = 9 then fl n (p.w.headD 32) ++ txtF fl (n + 1) q else p.w ++ txtF fl n q
def tks : List Pc → List Tok
 | [] => []
 | p :: q => if p.k = 9 then tks q else ⟨p.k, p.w, 0⟩ :: tks q
theorem zo : ∀ a b : List Pc, tks (a ++ b) = tks a ++ tks b
 | [], b => rfl
 | p :: a, b => by
  rw [List.cons_append, tks, tks, zo a b]
  split <;> rfl
theorem txt_app (a b : List Pc) : txt (a ++ b) = txt a ++ txt b := by simp [txt]
theorem txt_cons (p : Pc) (a : List Pc) : txt (p :: a) = p.w ++ txt a := by simp [txt]
theorem txt_nil : txt [] = [] := rfl
abbrev alnum : By := lets ++ digs
def Nam (w : By) : Prop := w ≠ [] ∧ (∀ c ∈ w, alnum.contains c = true) ∧ digs.contains (w.headD 0) = false ∧ wordsL.contains w = false ∧ w.length ≤ 12
def Dig (w : By) : Prop := w ≠ [] ∧ ∀ c ∈ w, digs.contains c = true
def PcOk (p : Pc) : Prop := (p.k = 9 ∧ (p.w = [32] ∨ p.w = [10])) ∨ (p.k = 0 ∧ Nam p.w) ∨ (p.k = 2 ∧ Dig p.w) ∨ (p.k = 1 ∧ p.w ∈ wordsL) ∨ (p.k = 1 ∧ p.w ∈ marksL)
def ok1 (p : Pc) (c : UInt8) : Bool := p.k == 9 || (if alnum.contains (p.w.headD 0) then !alnum.contains c else if [[60], [62], [61], [33]].contains p.w then c != 61 else true)
def fb (c : UInt8) : List Pc → UInt8
 | [] => c
 | p :: _ => if p.k = 9 then 32 else p.w.headD 32
def Sep (c : UInt8) : List Pc → Bool
 | [] => true
 | p :: q => ok1 p (fb c q) && Sep c q
theorem fb_app (c : UInt8) : ∀ a b : List Pc, fb c (a ++ b) = fb (fb c b) a
 | [], b => rfl
 | p :: a, b => rfl
theorem sep_app (c : UInt8) : ∀ a b : List Pc, Sep c (a ++ b) = (Sep (fb c b) a && Sep c b)
 | [], b => by simp [Sep]
 | p :: a, b => by rw [List.cons_append, Sep, Sep, sep_app c a b, fb_app, Bool.and_assoc]
theorem run_of (set : By) : ∀ (w R : By), (∀ c ∈ w, set.contains c = true) → set.contains (R.headD 32) = false → qw (w ++ R) set = w
 | [], [], _, _ => rfl
 | [], c :: R, _, h => by
  have : set.contains c = false := h
  unfold qw
  rw [List.nil_append, List.takeWhile_cons, this]
  rfl
 | x :: w, R, h1, h2 => by
  have ih := run_of set w R (fun c hc => h1 c (by simp [hc])) h2
  unfold qw at ih ⊢
  rw [List.cons_append, List.takeWhile_cons, h1 x (by simp), if_pos rfl, ih]
theorem run_no (set : By) (x : UInt8) (R : By) (h : set.contains x = false) : qw (x :: R) set = [] := by
 unfold qw
 rw [List.takeWhile_cons, h]
 rfl
theorem digs_sub : ∀ c, alnum.contains c = false → digs.contains c = false := by
 intro c h
 have h2 : alnum.contains c = (lets.contains c || digs.contains c) := by
  simp only [alnum, List.contains_eq_any_beq, List.any_append]
 rw [h2] at h
 simp only [Bool.or_eq_false_iff] at h
 exact h.2
theorem words_al : ∀ w ∈ wordsL, w ≠ [] ∧ (∀ c ∈ w, alnum.contains c = true) ∧ digs.contains (w.headD 0) = false := by decide
theorem marks_al : ∀ w ∈ marksL, w ≠ [] ∧ alnum.contains (w.headD 0) = false := by decide
theorem word_one {w R : By} (hw : w ≠ []) (ha : ∀ c ∈ w, alnum.contains c = true) (hd : digs.contains (w.headD 0) = false) (hR : alnum.contains (R.headD 32) = false) : qF (w ++ R) = some (if wordsL.contains w then 1 else 0, w) := by
 unfold qF
 have e1 : qw (w ++ R) digs = [] := by
  cases w with
  | nil => exact absurd rfl hw
  | cons x w => exact run_no digs x _ hd
 have e2 : qw (w ++ R) (lets ++ digs) = w := run_of alnum w R ha hR
 rw [e1, e2, if_neg (by simp), if_pos hw]
theorem num_one {w R : By} (h : Dig w) (hR : alnum.contains (R.headD 32) = false) : qF (w ++ R) = some (2, w) := by
 unfold qF
 have e1 : qw (w ++ R) digs = w := run_of digs w R h.2 (digs_sub _ hR)
 rw [e1, if_pos h.1]
theorem mark_one {w R : By} (h : w ∈ marksL) (hR : [[60], [62], [61], [33]].contains w = true → R.headD 32 ≠ 61) : qF (w ++ R) = some (1, w) := by
 have ha := marks_al w h
 have e1 : qw (w ++ R) alnum = [] := by
  cases w with
  | nil => exact absurd rfl ha.1
  | cons x w => exact run_no alnum x _ ha.2
 have e2 : qw (w ++ R) digs = [] := by
  cases w with
  | nil => exact absurd rfl ha.1
  | cons x w => exact run_no digs x _ (digs_sub _ ha.2)
 unfold qF
 rw [e2, show qw (w ++ R) (lets ++ digs) = [] from e1, if_neg (by simp), if_neg (by simp)]
 have hf : marksL.find? (·.isPrefixOf (w ++ R)) = some w := by
  clear ha e1 e2
  simp only [marksL, List.mem_cons, List.not_mem_nil, or_false] at h
  rcases h with rfl | rfl | rfl | rfl | rfl | rfl | rfl | rfl | rfl | rfl | rfl | rfl | rfl | rfl | rfl | rfl | rfl | rfl | rfl | rfl | rfl | rfl | rfl | rfl
  all_goals first
   |(simp [marksL, List.find?, List.isPrefixOf]; done)
   |(have h61 := hR (by decide)
     cases R with
     | nil => simp [marksL, List.find?, List.isPrefixOf]
     | cons c R =>
      have hc : ¬ c = 61 := h61
      have hc2 : (61 == c) = false := by simp; exact fun e => hc e.symm
      simp [marksL, List.find?, List.isPrefixOf, hc2])
 rw [hf]
 rfl
theorem one_of {p : Pc} {R : By} (h : PcOk p) (h9 : p.k ≠ 9) (ho : ok1 p (R.headD 32) = true) : qF (p.w ++ R) = some (p.k, p.w) := by
 unfold ok1 at ho
 have h9' : (p.k == 9) = false := by simpa using h9
 rw [h9', Bool.false_or] at ho
 rcases h with ⟨h1, _⟩ | ⟨h1, h2⟩ | ⟨h1, h2⟩ | ⟨h1, h2⟩ | ⟨h1, h2⟩
 ·exact absurd h1 h9
 ·obtain ⟨a, b, c, d, _⟩ := h2
  have hal : alnum.contains (p.w.headD 0) = true := by
   cases hw : p.w with
   | nil => exact absurd hw a
   | cons x w => exact b x (by rw [hw]; simp)
  rw [if_pos hal] at ho
  rw [word_one a b c (by simpa using ho), d, h1]
  rfl
 ·have hal : alnum.contains (p.w.headD 0) = true := by
   cases hw : p.w with
   | nil => exact absurd hw h2.1
   | cons x w =>
    have hx := h2.2 x (by rw [hw]; simp)
    have : alnum.contains x = (lets.contains x || digs.contains x) := by simp only [alnum, List.contains_eq_any_beq, List.any_append]
    show alnum.contains x = true
    rw [this, hx, Bool.or_true]
  rw [if_pos hal] at ho
  rw [num_one h2 (by simpa using ho), h1]
 ·obtain ⟨a, b, c⟩ := words_al _ h2
  have hal : alnum.contains (p.w.headD 0) = true := by
   cases hw : p.w with
   | nil => exact absurd hw a
   | cons x w => exact b x (by rw [hw]; simp)
  rw [if_pos hal] at ho
  rw [word_one a b c (by simpa using ho), h1, if_pos (List.contains_iff_mem.2 h2)]
 ·have hal := (marks_al _ h2).2
  rw [if_neg (by rw [hal]; simp)] at ho
  rw [mark_one h2 (fun hm => by rw [if_pos hm] at ho; simpa using ho), h1]
theorem al_skip : ∀ c : UInt8, alnum.contains c = true → ¬ (c = 32 ∨ c = 9 ∨ c = 10) ∧ ¬ c = 35 := by
 intro c h
 refine ⟨fun e => ?_, fun e => ?_⟩
 ·rcases e with rfl | rfl | rfl <;> revert h <;> decide
 ·subst e
  revert h
  decide
theorem marks_skip : ∀ w ∈ marksL, ¬ (w.headD 0 = 32 ∨ w.headD 0 = 9 ∨ w.headD 0 = 10) ∧ ¬ w.headD 0 = 35 := by decide
theorem skip_tok {p : Pc} (R : By) (h : PcOk p) (h9 : p.k ≠ 9) : p.w ≠ [] ∧ zN false (p.w ++ R) = p.w ++ R := by
 have key : p.w ≠ [] ∧ ¬ (p.w.headD 0 = 32 ∨ p.w.headD 0 = 9 ∨ p.w.headD 0 = 10) ∧ ¬ p.w.headD 0 = 35 := by
  have al : p.w ≠ [] → (∀ c ∈ p.w, alnum.contains c = true) → p.w ≠ [] ∧ ¬ (p.w.headD 0 = 32 ∨ p.w.headD 0 = 9 ∨ p.w.headD 0 = 10) ∧ ¬ p.w.headD 0 = 35 := fun a b => by
   refine ⟨a, al_skip _ ?_⟩
   cases hw : p.w with
   | nil => exact absurd hw a
   | cons x w => exact b x (by rw [hw]; simp)
  rcases h with ⟨h1, _⟩ | ⟨h1, h2⟩ | ⟨h1, h2⟩ | ⟨h1, h2⟩ | ⟨h1, h2⟩
  ·exact absurd h1 h9
  ·exact al h2.1 h2.2.1
  ·refine al h2.1 (fun c hc => ?_)
   have : alnum.contains c = (lets.contains c || digs.contains c) := by simp only [alnum, List.contains_eq_any_beq, List.any_append]
   rw [this, h2.2 c hc, Bool.or_true]
  ·exact al (words_al _ h2).1 (words_al _ h2).2.1
  ·exact ⟨(marks_al _ h2).1, marks_skip _ h2⟩
 obtain ⟨a, b, c⟩ := key
 refine ⟨a, ?_⟩
 cases hw : p.w with
 | nil => exact absurd hw a
 | cons x w =>
  rw [hw] at b c
  have b' : ¬ (x = 32 ∨ x = 9 ∨ x = 10) := b
  have c' : ¬ x = 35 := c
  rw [List.cons_append, zN, if_neg b', if_neg c']
def FlOk (fl : Nat → UInt8 → By) : Prop := ∀ n c, (c = 32 ∨ c = 10) → (∃ x y, fl n c = x :: y ∧ (x = 32 ∨ x = 9 ∨ x = 10)) ∧ ∀ R, zN false (fl n c ++ R) = zN false R
theorem ok1_bl (p : Pc) (x : UInt8) (h : x = 32 ∨ x = 9 ∨ x = 10) : ok1 p x = true := by
 have a : alnum.contains x = false ∧ (x != 61) = true := by rcases h with rfl | rfl | rfl <;> decide
 unfold ok1
 rw [a.1, a.2]
 simp
theorem pc_bl {p : Pc} (h : PcOk p) (h9 : p.k = 9) : p.w.headD 32 = 32 ∨ p.w.headD 32 = 10 := by
 rcases h with ⟨_, h | h⟩ | ⟨h1, _⟩ | ⟨h1, _⟩ | ⟨h1, _⟩ | ⟨h1, _⟩
 ·rw [h]; exact .inl rfl
 ·rw [h]; exact .inr rfl
 all_goals omega
theorem fb_txt {fl : Nat → UInt8 → By} (hf : FlOk fl) (p : Pc) : ∀ (q : List Pc) (n : Nat), (∀ x ∈ q, PcOk x) → ok1 p (fb 32 q) = true → ok1 p ((txtF fl n q).headD 32) = true
 | [], n, _, h => h
 | x :: q, n, hq, h => by
  rw [txtF]
  rw [fb] at h
  split
  ·rename_i h9
   obtain ⟨⟨y, z, e, hy⟩, _⟩ := hf n _ (pc_bl (hq x (by simp)) h9)
   rw [e]
   exact ok1_bl p y hy
  ·rename_i h9
   rw [if_neg h9] at h
   have := (skip_tok [] (hq x (by simp)) h9).1
   cases hw : x.w with
   | nil => exact absurd hw this
   | cons y w =>
    rw [hw] at h
    exact h
theorem cut_pcs {fl : Nat → UInt8 → By} (hf : FlOk fl) (N : Nat) : ∀ (q : List Pc) (n F : Nat) (L : List Tok), (∀ x ∈ q, PcOk x) → Sep 32 q = true → (txtF fl n q).length + 1 ≤ F → L.length + (tks q).length ≤ 1500 → ∃ az : List Tok, az.map (fun t => (⟨t.k, t.t, 0⟩ : Tok)) = tks q ∧ cutV N F (zN false (txtF fl n q)) L = .ok (L ++ az ++ [⟨3, [], N⟩])
 | [], n, F, L, _, _, h1, _ => by
  obtain ⟨F, rfl⟩ : ∃ F', F = F' + 1 := ⟨F - 1, by omega⟩
  exact ⟨[], rfl, by simp [txtF, zN, cutV]⟩
 | p :: q, n, F, L, hq, hs, h1, h2 => by
  rw [Sep, Bool.and_eq_true] at hs
  rw [txtF] at h1 ⊢
  rw [tks] at h2 ⊢
  have hq' : ∀ x ∈ q, PcOk x := fun x hx => hq x (by simp [hx])
  split
  ·rename_i h9
   rw [if_pos h9] at h1 h2
   obtain ⟨_, hR⟩ := hf n _ (pc_bl (hq p (by simp)) h9)
   rw [hR]
   exact cut_pcs hf N q (n + 1) F L hq' hs.2 (by simp at h1; omega) h2
  ·rename_i h9
   rw [if_neg h9] at h1 h2
   obtain ⟨hne, hsk⟩ := skip_tok (txtF fl n q) (hq p (by simp)) h9
   have hone := one_of (hq p (by simp)) h9 (fb_txt hf p q n hq' hs.1)
   obtain ⟨F, rfl⟩ : ∃ F', F = F' + 1 := ⟨F - 1, by omega⟩
   have hpos : 0 < p.w.length := List.length_pos_iff.2 hne
   simp only [List.length_append, List.length_cons] at h1 h2
   obtain ⟨az, a1, a2⟩ := cut_pcs hf N q n F (L ++ [⟨p.k, p.w, N - (p.w ++ txtF fl n q).length⟩]) hq' hs.2 (by omega) (by simp; omega)
   refine ⟨⟨p.k, p.w, N - (p.w ++ txtF fl n q).length⟩ :: az, by rw [List.map_cons, a1], ?_⟩
   rw [hsk, cutV, if_neg (by simp [hne]), hone]
   show (if L.length = 1500 then _ else cutV N F (zN false ((p.w ++ txtF fl n q).drop p.w.length)) _) = _
   rw [if_neg (by omega), List.drop_left, a2]
   simp
theorem tok_pcs {fl : Nat → UInt8 → By} (hf : FlOk fl) (q : List Pc) (h1 : ∀ x ∈ q, PcOk x) (h2 : Sep 32 q = true) (h3 : (tks q).length ≤ 1500) : ∃ r : List Tok, tokV (txtF fl 0 q) = .ok r ∧ r.map (fun t => (⟨t.k, t.t, 0⟩ : Tok)) = tks q ++ [⟨3, [], 0⟩] := by
 obtain ⟨az, a1, a2⟩ := cut_pcs hf (txtF fl 0 q).length q 0 ((txtF fl 0 q).length + 1) [] h1 h2 (Nat.le_refl _) (by simpa using h3)
 exact ⟨_, a2, by rw [List.nil_append, List.map_append, a1]; rfl⟩
def ownFl : Nat → UInt8 → By := fun _ c => [c]
theorem own_ok : FlOk ownFl := fun n c h => by
 refine ⟨⟨c, [], rfl, by rcases h with rfl | rfl <;> simp⟩, fun R => ?_⟩
 show zN false (c :: R) = _
 rw [zN, if_pos (by rcases h with rfl | rfl <;> simp)]
theorem own_txt : ∀ (q : List Pc) (n : Nat), (∀ x ∈ q, PcOk x) → txtF ownFl n q = txt q
 | [], _, _ => rfl
 | p :: q, n, h => by
  have ih := fun m => own_txt q m (fun x hx => h x (by simp [hx]))
  rw [txtF, txt_cons, ih, ih]
  split
  ·rename_i h9
   have : ownFl n (p.w.headD 32) = p.w := by
    rcases h p (by simp) with ⟨_, e | e⟩ | ⟨h1, _⟩ | ⟨h1, _⟩ | ⟨h1, _⟩ | ⟨h1, _⟩
    ·rw [e]; rfl
    ·rw [e]; rfl
    all_goals omega
   rw [this]
  ·rfl
end Go.Proofs.YtnfhpdbbfejioaaGreatDoor
