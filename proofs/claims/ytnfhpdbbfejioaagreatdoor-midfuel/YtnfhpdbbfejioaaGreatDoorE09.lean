/- UA UB UC -/
import Derived.Test.YtnfhpdbbfejioaaGreatDoorE08
namespace Go.Proofs.YtnfhpdbbfejioaaGreatDoor
set_option linter.unusedVariables false
set_option linter.unusedSimpArgs false
set_option maxRecDepth 100000
set_option maxHeartbeats 16000000
open Go Go.RowKit
abbrev st (c a : Int) (nm : By) (ix v th el : Tr) : Tr := .agg [.lit (.int .i64 c), .lit (.int .i64 a), .lit (.string nm), ix, v, th, el]
abbrev ef (l : List Tok) : Nat := 12 * l.length + 20
def zW (l : List Tok) : R Tr := exV (ef l) 0 1 0 .nil 0 l
def heldV (l : List Tok) : R Tr := exV (ef l) 5 0 0 .nil 0 l
def idxV (l : List Tok) : R Tr := exV (ef l) 6 0 0 .nil 0 l
def argsV (l : List Tok) : R Tr := argV (ef l) 0 l
def zP (a : Nat) (l : List Tok) : R Tr :=
 bnd (zQ l) fun nm l1 =>
  if (hd l1).t = [40] then bnd (argsV l1.tail) fun g l2 => .ok (st 8 a [] .nil (nd 5 a 0 nm [] .nil .nil g) ce ce, l2)
  else if (hd l1).t = [91] then bnd (idxV l1.tail) fun i l2 => bnd (zh [61] l2) fun _ l3 => bnd (zW l3) fun v l4 => .ok (st 3 a nm i v ce ce, l4)
  else bnd (zh [61] l1) fun _ l3 => bnd (zW l3) fun v l4 => .ok (st 2 a nm .nil v ce ce, l4)
def stV : Nat → Nat → Nat → List Tok → R Tr
 | 0, _, _, _ => .error (0, 0)
 | f + 1, 0, d, l => bnd (boundV d l) fun _ _ => bnd (zh [123] l) fun _ l1 => stV f 1 d l1
 | f + 1, 1, d, l => if (hd l).t = [125] then .ok (ce, l.tail) else bnd (stV f 2 (d + 1) l) fun t l1 => bnd (stV f 1 d l1) fun g l2 => .ok (cc t g, l2)
 | f + 1, 2, d, l =>
  if (hd l).k = 0 then bnd (zP (hd l).p l) fun t l1 => bnd (zh [59] l1) fun _ l2 => .ok (t, l2)
  else if (hd l).t = [118, 97, 114] then bnd (zQ l.tail) fun nm l1 => bnd (zh [61] l1) fun _ l2 => bnd (zW l2) fun v l3 => bnd (zh [59] l3) fun _ l4 => .ok (st 1 (hd l).p nm .nil v ce ce, l4)
  else if (hd l).t = [114, 101, 116, 117, 114, 110] then bnd (zW l.tail) fun v l3 => bnd (zh [59] l3) fun _ l4 => .ok (st 6 (hd l).p [] .nil v ce ce, l4)
  else if (hd l).t = [112, 114, 105, 110, 116] then bnd (zW l.tail) fun v l3 => bnd (zh [59] l3) fun _ l4 => .ok (st 7 (hd l).p [] .nil v ce ce, l4)
  else if (hd l).t = [105, 102] then bnd (heldV l.tail) fun v l1 => bnd (stV f 0 d l1) fun th l2 =>
   if (hd l2).t = [101, 108, 115, 101] then bnd (stV f 0 d l2.tail) fun el l3 => .ok (st 4 (hd l).p [] .nil v th el, l3) else .ok (st 4 (hd l).p [] .nil v th ce, l2)
  else if (hd l).t = [119, 104, 105, 108, 101] then bnd (heldV l.tail) fun v l1 => bnd (stV f 0 d l1) fun th l2 => .ok (st 5 (hd l).p [] .nil v th ce, l2)
  else .error (3, (hd l).p)
 | _ + 1, _ + 3, _, _ => .error (0, 0)
theorem zm {x : By} {l l' : List Tok} {u : Unit} (h : zh x l = .ok (u, l')) (hx : x ≠ []) (he : Ends l) : Ends l' ∧ l'.length < l.length := by
 obtain ⟨h1, rfl⟩ := qk h
 obtain ⟨e1, _, _, e4⟩ := he.tail (by rw [h1]; exact hx)
 exact ⟨e1, e4⟩
theorem qX {l l' : List Tok} {v : By} (h : zQ l = .ok (v, l')) (he : Ends l) : Ends l' ∧ l'.length < l.length := by
 obtain ⟨h1, _, _, rfl⟩ := name_ok h
 obtain ⟨e1, _, _, e4⟩ := he.tail (he.kind (by omega))
 exact ⟨e1, e4⟩
theorem qu {l l' : List Tok} {v : Tr} (h : zW l = .ok (v, l')) (he : Ends l) : Ends l' ∧ l'.length < l.length := by
 obtain ⟨a, _, c⟩ := zo _ 0 1 0 .nil 0 l v l' (fun _ => by omega) he h
 exact ⟨a, c (by decide) (by decide)⟩
theorem held_tail {l l' : List Tok} {v : Tr} (h : heldV l = .ok (v, l')) (he : Ends l) : Ends l' ∧ l'.length < l.length := by
 obtain ⟨a, _, c⟩ := zo _ 5 0 0 .nil 0 l v l' (fun h => by omega) he h
 exact ⟨a, c (by decide) (by decide)⟩
theorem idx_tail {l l' : List Tok} {v : Tr} (h : idxV l = .ok (v, l')) (he : Ends l) : Ends l' ∧ l'.length < l.length := by
 obtain ⟨a, _, c⟩ := zo _ 6 0 0 .nil 0 l v l' (fun h => by omega) he h
 exact ⟨a, c (by decide) (by decide)⟩
theorem argV_tail {n d : Nat} {l l' : List Tok} {v : Tr} (h : argV n d l = .ok (v, l')) (he : Ends l) : Ends l' ∧ l'.length < l.length := by
 unfold argV at h
 split at h
 ·rename_i h1
  obtain ⟨e1, _, _, e4⟩ := he.tail (by rw [h1]; simp)
  injection h with h
  injection h with _ h
  subst h
  exact ⟨e1, e4⟩
 ·obtain ⟨a, _, c⟩ := zo _ 7 0 d ce 0 l v l' (fun h => by omega) he h
  exact ⟨a, c (by decide) (by decide)⟩
theorem zu {x : By} {l : List Tok} (h : (hd l).t = x) (hx : x ≠ []) (he : Ends l) : Ends l.tail ∧ l.tail.length < l.length := by
 obtain ⟨e1, _, _, e4⟩ := he.tail (by rw [h]; exact hx)
 exact ⟨e1, e4⟩
theorem zj {t u : Tr} {l l' : List Tok} (h : (Except.ok (u, l) : R Tr) = .ok (t, l')) : u = t ∧ l = l' := by
 injection h with h
 injection h with h1 h2
 exact ⟨h1, h2⟩
theorem named_tail {a : Nat} {l l' : List Tok} {t : Tr} (h : zP a l = .ok (t, l')) (he : Ends l) : Ends l' ∧ l'.length < l.length := by
 unfold zP at h
 obtain ⟨nm, l1, h1, h⟩ := za h
 obtain ⟨e1, s1⟩ := qX h1 he
 split at h
 ·rename_i h40
  obtain ⟨e2, s2⟩ := zu h40 (by decide) e1
  obtain ⟨g, l2, h2, h⟩ := za h
  obtain ⟨e3, s3⟩ := argV_tail h2 e2
  obtain ⟨_, rfl⟩ := zj h
  exact ⟨e3, by omega⟩
 split at h
 ·rename_i h91
  obtain ⟨e2, s2⟩ := zu h91 (by decide) e1
  obtain ⟨g, l2, h2, h⟩ := za h
  obtain ⟨e3, s3⟩ := idx_tail h2 e2
  obtain ⟨_, l3, h3, h⟩ := za h
  obtain ⟨e4, s4⟩ := zm h3 (by decide) e3
  obtain ⟨v, l4, h4, h⟩ := za h
  obtain ⟨e5, s5⟩ := qu h4 e4
  obtain ⟨_, rfl⟩ := zj h
  exact ⟨e5, by omega⟩
 ·obtain ⟨_, l3, h3, h⟩ := za h
  obtain ⟨e4, s4⟩ := zm h3 (by decide) e1
  obtain ⟨v, l4, h4, h⟩ := za h
  obtain ⟨e5, s5⟩ := qu h4 e4
  obtain ⟨_, rfl⟩ := zj h
  exact ⟨e5, by omega⟩
theorem qy : ∀ (f g d : Nat) (l : List Tok) (t : Tr) (l' : List Tok), Ends l → stV f g d l = .ok (t, l') → Ends l' ∧ l'.length < l.length
 | 0, _, _, _, _, _, _, h => by simp [stV] at h
 | f + 1, 0, d, l, t, l', he, h => by
  rw [stV] at h
  obtain ⟨_, _, _, h⟩ := za h
  obtain ⟨_, l1, h1, h⟩ := za h
  obtain ⟨e1, s1⟩ := zm h1 (by decide) he
  obtain ⟨e2, s2⟩ := qy f 1 d l1 t l' e1 h
  exact ⟨e2, by omega⟩
 | f + 1, 1, d, l, t, l', he, h => by
  rw [stV] at h
  split at h
  ·rename_i h1
   obtain ⟨e1, s1⟩ := zu h1 (by decide) he
   obtain ⟨_, rfl⟩ := zj h
   exact ⟨e1, s1⟩
  ·obtain ⟨t1, l1, h1, h⟩ := za h
   obtain ⟨e1, s1⟩ := qy f 2 (d + 1) l t1 l1 he h1
   obtain ⟨g, l2, h2, h⟩ := za h
   obtain ⟨e2, s2⟩ := qy f 1 d l1 g l2 e1 h2
   obtain ⟨_, rfl⟩ := zj h
   exact ⟨e2, by omega⟩
 | f + 1, 2, d, l, t, l', he, h => by
  rw [stV] at h
  split at h
  ·obtain ⟨t1, l1, h1, h⟩ := za h
   obtain ⟨e1, s1⟩ := named_tail h1 he
   obtain ⟨_, l2, h2, h⟩ := za h
   obtain ⟨e2, s2⟩ := zm h2 (by decide) e1
   obtain ⟨_, rfl⟩ := zj h
   exact ⟨e2, by omega⟩
  split at h
  ·rename_i h0
   obtain ⟨e0, s0⟩ := zu h0 (by decide) he
   obtain ⟨nm, l1, h1, h⟩ := za h
   obtain ⟨e1, s1⟩ := qX h1 e0
   obtain ⟨_, l2, h2, h⟩ := za h
   obtain ⟨e2, s2⟩ := zm h2 (by decide) e1
   obtain ⟨v, l3, h3, h⟩ := za h
   obtain ⟨e3, s3⟩ := qu h3 e2
   obtain ⟨_, l4, h4, h⟩ := za h
   obtain ⟨e4, s4⟩ := zm h4 (by decide) e3
   obtain ⟨_, rfl⟩ := zj h
   exact ⟨e4, by omega⟩
  split at h
  ·rename_i h0
   obtain ⟨e0, s0⟩ := zu h0 (by decide) he
   obtain ⟨v, l3, h3, h⟩ := za h
   obtain ⟨e3, s3⟩ := qu h3 e0
   obtain ⟨_, l4, h4, h⟩ := za h
   obtain ⟨e4, s4⟩ := zm h4 (by decide) e3
   obtain ⟨_, rfl⟩ := zj h
   exact ⟨e4, by omega⟩
  split at h
  ·rename_i h0
   obtain ⟨e0, s0⟩ := zu h0 (by decide) he
   obtain ⟨v, l3, h3, h⟩ := za h
   obtain ⟨e3, s3⟩ := qu h3 e0
   obtain ⟨_, l4, h4, h⟩ := za h
   obtain ⟨e4, s4⟩ := zm h4 (by decide) e3
   obtain ⟨_, rfl⟩ := zj h
   exact ⟨e4, by omega⟩
  split at h
  ·rename_i h0
   obtain ⟨e0, s0⟩ := zu h0 (by decide) he
   obtain ⟨v, l3, h3, h⟩ := za h
   obtain ⟨e3, s3⟩ := held_tail h3 e0
   obtain ⟨th, l4, h4, h⟩ := za h
   obtain ⟨e4, s4⟩ := qy f 0 d l3 th l4 e3 h4
   split at h
   ·rename_i h5
    obtain ⟨e5, s5⟩ := zu h5 (by decide) e4
    obtain ⟨el, l6, h6, h⟩ := za h
    obtain ⟨e6, s6⟩ := qy f 0 d l4.tail el l6 e5 h6
    obtain ⟨_, rfl⟩ := zj h
    exact ⟨e6, by omega⟩
   ·obtain ⟨_, rfl⟩ := zj h
    exact ⟨e4, by omega⟩
  split at h
  ·rename_i h0
   obtain ⟨e0, s0⟩ := zu h0 (by decide) he
   obtain ⟨v, l3, h3, h⟩ := za h
   obtain ⟨e3, s3⟩ := held_tail h3 e0
   obtain ⟨th, l4, h4, h⟩ := za h
   obtain ⟨e4, s4⟩ := qy f 0 d l3 th l4 e3 h4
   obtain ⟨_, rfl⟩ := zj h
   exact ⟨e4, by omega⟩
  ·cases h
 | f + 1, g + 3, d, l, t, l', he, h => by simp [stV] at h
abbrev Ot (t : TypeId) : Prop := t ≠ 78 ∧ t ≠ 5 ∧ t ≠ 83
def Keeps (S : Nat → Prop) (w w' : World) : Prop := ∀ (b : Nat) (cs : Array Value) (t : TypeId), S b → Ot t → w.heap[b]? = some (.cells cs t) → w'.heap[b]? = some (.cells cs t)
theorem Keeps.trans {S : Nat → Prop} {a b c : World} (h : Keeps S a b) (g : Keeps S b c) : Keeps S a c := fun k cs t hk ht hb => g k cs t hk ht (h k cs t hk ht hb)
theorem Keeps.gr {S : Nat → Prop} {P T o c : Nat} {w w' : World} {l : List Tok} (hp : PS w P T o c l) (hg : Gr P w w') : Keeps S w w' := fun b cs t _ ht hb => by
 have hne : b ≠ P := fun e => by
  subst e
  rw [hp.own] at hb
  injection hb with hb
  injection hb with _ h2
  exact ht.1 h2.symm
 exact hg.blk hb hne
theorem Keeps.set {m q i : Nat} {w : World} {v : Value} (hq : q < m) : Keeps (Fr m) w (w.setCell ⟨q, i, none⟩ v) := fun b cs t hb ht h => by
 rw [heap_setCell_other _ _ _ _ (by show b ≠ q; have : m ≤ b := hb; omega)]
 exact h
theorem Keeps.ex {S : Nat → Prop} {w w' : World} (h : Keeps S w w') {t : Tr} {v : Value} (hx : ExAt S w t v) : ExAt S w' t v :=
 ExAt.kept (fun b cs t hb ht => h b cs t hb (by rcases ht with rfl | rfl <;> decide)) t v hx
theorem Keeps.row {S : Nat → Prop} {w w' : World} (h : Keeps S w w') {B e z n : Nat} {v : Value} {ys : List Value} (he : Ot e) (hr : w.ownsRow B e z v n ys) (hs : ∀ i, v.ownBlock = some i → S i) : w'.ownsRow B e z v n ys := by
 refine ⟨hr.1, ?_⟩
 rcases hr.2 with hh | ⟨g', cap, cur, hv, hb, hg, rest⟩
 ·exact .inl hh
 ·exact .inr ⟨g', cap, cur, hv, hb, h _ _ _ (hs g' (by rw [hv]; rfl)) he hg, rest⟩
def RowS (S : Nat → Prop) (w : World) (e z : Nat) (v : Value) (n : Nat) (cs : List Value) : Prop := w.ownsRow 0 e z v n cs ∧ ∀ i, v.ownBlock = some i → S i
theorem RowS.kept {S : Nat → Prop} {w w' : World} {e z n : Nat} {v : Value} {cs : List Value} (h : RowS S w e z v n cs) (hk : Keeps S w w') (he : Ot e) : RowS S w' e z v n cs := ⟨hk.row he h.1 h.2, h.2⟩
theorem RowS.mono {S S' : Nat → Prop} {w : World} {e z n : Nat} {v : Value} {cs : List Value} (h : RowS S w e z v n cs) (hm : ∀ b, S b → b < w.heap.size → S' b) : RowS S' w e z v n cs := ⟨h.1, fun i hi => hm i (h.2 i hi) (own_lt h.1 i hi)⟩
theorem RowS.none (S : Nat → Prop) (w : World) (e z : Nat) : RowS S w e z (.slice none 0 0) 0 [] := ⟨World.ownsRow_nil w _ _ _, fun i hi => by cases hi⟩
def StAt (S : Nat → Prop) (w : World) : Tr → List Value → Prop
 | .slice [.agg [.lit (.int _ c), .lit (.int _ a), .lit (.string nm), ix, v, th, el]] [g], cs =>
  ∃ (vi vv : Option Addr) (vt ve : Value) (nt ne : Nat) (ts es rest : List Value), cs = [.int .i64 c, .int .i64 a, str nm, .pointer vi, .pointer vv, vt, ve] ++ rest ∧ ExAt S w ix (.pointer vi) ∧ ExAt S w v (.pointer vv) ∧ RowS S w 147 7 vt nt ts ∧ StAt S w th ts ∧ RowS S w 147 7 ve ne es ∧ StAt S w el es ∧ StAt S w g rest
 | .slice [] [], cs => cs = []
 | _, _ => False
theorem StAt.kept {S : Nat → Prop} {w w' : World} (h1 : Keeps S w w') (t : Tr) (cs : List Value) (h : StAt S w t cs) : StAt S w' t cs := by
 unfold StAt at h
 split at h
 ·obtain ⟨vi, vv, vt, ve, nt, ne, ts, es, rest, e, a1, a2, a3, a4, a5, a6, a7⟩ := h
  rw [StAt]
  exact ⟨vi, vv, vt, ve, nt, ne, ts, es, rest, e, h1.ex a1, h1.ex a2, a3.kept h1 (by decide), StAt.kept h1 _ _ a4, a5.kept h1 (by decide), StAt.kept h1 _ _ a6, StAt.kept h1 _ _ a7⟩
 ·rw [StAt]; exact h
 ·exact h.elim
theorem StAt.mono {S S' : Nat → Prop} {w : World} (h1 : ∀ b, S b → b < w.heap.size → S' b) (t : Tr) (cs : List Value) (h : StAt S w t cs) : StAt S' w t cs := by
 unfold StAt at h
 split at h
 ·obtain ⟨vi, vv, vt, ve, nt, ne, ts, es, rest, e, a1, a2, a3, a4, a5, a6, a7⟩ := h
  rw [StAt]
  exact ⟨vi, vv, vt, ve, nt, ne, ts, es, rest, e, ExAt.mono h1 _ _ a1, ExAt.mono h1 _ _ a2, a3.mono h1, StAt.mono h1 _ _ a4, a5.mono h1, StAt.mono h1 _ _ a6, StAt.mono h1 _ _ a7⟩
 ·rw [StAt]; exact h
 ·exact h.elim
theorem StAt.old {m n : Nat} {w : World} {t : Tr} {cs : List Value} (h : StAt (Fr m) w t cs) (hm : n ≤ m) : StAt (Fr n) w t cs := StAt.mono (fun b hb _ => Nat.le_trans hm hb) t cs h
theorem st_none (S : Nat → Prop) (w : World) : StAt S w ce [] := by rw [StAt]
theorem st_plain {S : Nat → Prop} {w : World} {c a : Int} {nm : By} {ix v : Tr} {vi vv : Option Addr} (hi : ExAt S w ix (.pointer vi)) (hv : ExAt S w v (.pointer vv)) : StAt S w (cc (st c a nm ix v ce ce) ce) [.int .i64 c, .int .i64 a, str nm, .pointer vi, .pointer vv, .slice none 0 0, .slice none 0 0] := by
 rw [StAt]
 exact ⟨vi, vv, _, _, 0, 0, [], [], [], rfl, hi, hv, RowS.none S w 147 7, st_none S w, RowS.none S w 147 7, st_none S w, st_none S w⟩
theorem At.zero {w : World} {P T o c d : Nat} {l : List Tok} (h : At w P T o c d l) : At w P T o c 0 l := ⟨h.env, h.ps, h.ends, h.far, by have := h.deep; omega⟩
theorem expr_at {w : World} {P T o c d : Nat} {l : List Tok} (h : At w P T o c d l) : Calls Tryz.prog 206 #[.pointer (some ⟨P, 0, none⟩), .int .i64 0] w (ExPost w P T (zW l)) := expr_all _ _ (Nat.le_refl _) 0 w P T o c l h.zero (by unfold ef; omega)
theorem held_at {w : World} {P T o c d : Nat} {l : List Tok} (h : At w P T o c d l) : Calls Tryz.prog 207 #[.pointer (some ⟨P, 0, none⟩), .int .i64 0] w (ExPost w P T (heldV l)) := held_all _ 0 w P T o c l h.zero (by unfold ef; omega)
theorem idx_at {w : World} {P T o c d : Nat} {l : List Tok} (h : At w P T o c d l) (hd : 1 + l.length ≤ 100000) : Calls Tryz.prog 234 #[.pointer (some ⟨P, 0, none⟩), .int .i64 0] w (ExPost w P T (idxV l)) := idx_all _ _ (Nat.le_refl _) 0 w P T o c l ⟨h.env, h.ps, h.ends, h.far, hd⟩ (by unfold ef; omega)
theorem args_at {w : World} {P T o c d : Nat} {l : List Tok} (h : At w P T o c d l) (hd : 1 + l.length ≤ 100000) : Calls Tryz.prog 233 #[.pointer (some ⟨P, 0, none⟩), .int .i64 0] w (ArPost w P T (argsV l)) := args_all _ 0 w P T o c l ⟨h.env, h.ps, h.ends, h.far, hd⟩ (by unfold ef; omega)
theorem expr_ptr {S : Nat → Prop} {w : World} {l l' : List Tok} {t : Tr} {v : Value} (h : zW l = .ok (t, l')) (hx : ExAt S w t v) : ∃ b, v = .pointer (some ⟨b, 0, none⟩) := IsNd.ptr (zq _ 0 1 0 .nil 0 l t l' (by omega) (by omega) h) hx
theorem held_ptr {S : Nat → Prop} {w : World} {l l' : List Tok} {t : Tr} {v : Value} (h : heldV l = .ok (t, l')) (hx : ExAt S w t v) : ∃ b, v = .pointer (some ⟨b, 0, none⟩) := IsNd.ptr (zq _ 5 0 0 .nil 0 l t l' (by omega) (by omega) h) hx
theorem idx_ptr {S : Nat → Prop} {w : World} {l l' : List Tok} {t : Tr} {v : Value} (h : idxV l = .ok (t, l')) (hx : ExAt S w t v) : ∃ b, v = .pointer (some ⟨b, 0, none⟩) := IsNd.ptr (zq _ 6 0 0 .nil 0 l t l' (by omega) (by omega) h) hx
def NmPost (w0 w : World) (P T q : Nat) (r : R Tr) (e : Ending) (w' : World) : Prop :=
 (∃ t l' cs o' c', r = .ok (t, l') ∧ e = .returned (.tuple #[]) ∧ w'.heap[q]? = some (.cells cs 147) ∧ StAt (Fr w.heap.size) w' (cc t ce) cs.toList ∧ PS w' P T o' c' l' ∧ Gr P w0 w') ∨ (∃ k p, r = .error (k, p) ∧ zC k p e w' ∧ Gr P w0 w')
theorem call_new {S : Nat → Prop} {w : World} {B : Nat} {p : Int} {m : By} {x : ByteArray} {g : Tr} {vg : Value} {ys : List Value} (hx : str m = .string x) (hs : S w.heap.size) (ho : w.ownsRow B 145 1 vg ys.length ys) (hS : ∀ i, vg.ownBlock = some i → S i) (hg : ExAt S w g (.tuple ys.toArray)) : ExAt S (w.alloc (.cells #[.int .i64 5, .int .i64 p, .int .i64 0, .string x, .string ⟨#[]⟩, .pointer none, .pointer none, vg] 252)) (nd 5 p 0 m [] .nil .nil g) (.pointer (some ⟨w.heap.size, 0, none⟩)) := by
 refine node_at2 hs (by rw [hx]; exact heap_alloc_last _ _) (qj _ _) (qj _ _) (own_mono (ho.alloc _) (Nat.zero_le _)) hS (ex_alloc hg _)
theorem at_of {w0 W : World} {P T o c d : Nat} {l : List Tok} (he : Env w0) (hg : Gr P w0 W) (hf : 14 ≤ P) (hp : PS W P T o c l) (hl : Ends l) (hd : d + l.length ≤ 100000) : At W P T o c d l := ⟨he.gr hg hf, hp, hl, hf, hd⟩
theorem named_walk (a d : Nat) (w0 w : World) (P T q o c : Nat) (l : List Tok) (h : At w P T o c d l) (he0 : Env w0) (hg0 : Gr P w0 w) (hq : w0.heap.size ≤ q) (hPq : P < q) (hTq : T < q)
  (hX : w.heap[q]? = some (.cells #[.int .i64 0, .int .i64 (a : Int), .string ⟨#[]⟩, .pointer none, .pointer none, .slice none 0 0, .slice none 0 0] 147)) :
  Calls Tryz.prog 205 #[.pointer (some ⟨P, 0, none⟩), .pointer (some ⟨q, 0, none⟩)] w (NmPost w0 w P T q (zP a l)) := by
 obtain ⟨y, hy, hyt⟩ := zM (hd l).t
 have HA : Hid (At w P T o c d l) := h
 have HG : Hid (Gr P w0 w) := hg0
 have HE0 : Hid (Env w0) := he0
 have HQ : Hid (w0.heap.size ≤ q ∧ P < q ∧ T < q ∧ q < w.heap.size) := ⟨hq, hPq, hTq, (Array.getElem?_eq_some_iff.1 hX).1⟩
 have HX : Hid (w.heap[q]? = some (.cells #[.int .i64 0, .int .i64 (a : Int), .string ⟨#[]⟩, .pointer none, .pointer none, .slice none 0 0, .slice none 0 0] 147)) := hX
 have HY : Hid (str (hd l).t = .string y) := hy
 have HG0 : Hid (∀ e w', NmPost w0 w P T q (zP a l) e w' → NmPost w0 w P T q (zP a l) e w') := fun _ _ h => h
 generalize hG : NmPost w0 w P T q (zP a l) = G at *
 clear HG0
 have HG0 : Hid (∀ e w', NmPost w0 w P T q (zP a l) e w' → G e w') := fun e w' h => by rw [← hG]; exact h
 clear h he0 hg0 hq hPq hTq hX hy hyt hG
 go_enter Tryz.func205, Tryz.ntmps205
 go_wp2_with (go_at_call 93; fail)
 refine (nm_at HA.out).mono ?_
 rintro e w2 (⟨hv, rfl, hp, hg, he, hlt⟩ | ⟨k, hv, ⟨b, rfl, hb⟩, hg⟩)
 rotate_left
 ·refine ⟨rfl, HG0.out _ _ (.inr ⟨k, _, ?_, ⟨b, rfl, hb⟩, HG.out.trans hg⟩)⟩
  unfold zP
  rw [hv]
  rfl
 have HN2 : Hid (zQ l = .ok ((hd l).t, l.tail)) := hv
 have HX2 : Hid (w2.heap[q]? = some (.cells #[.int .i64 0, .int .i64 (a : Int), .string ⟨#[]⟩, .pointer none, .pointer none, .slice none 0 0, .slice none 0 0] 147)) := hg.blk HX.out (by have := HQ.out; omega)
 have HG2 : Hid (Gr P w0 w2) := HG.out.trans hg
 have HS2 : Hid (w.heap.size ≤ w2.heap.size) := hg.size
 have HA2 : Hid (At w2 P T (o + 3) (c - 1) d l.tail) := HA.out.go hg hp he (by have := HA.out.deep; omega)
 have HL2 : Hid (l.tail.length < l.length) := hlt
 rw [HY.out]
 clear hv hp hg he hlt HX HG
 go_wp2_with (go_at_call 94; fail)
 refine (qH HA2.out ⟨#[40]⟩ (by decide)).mono ?_
 rintro e w3 (⟨hv, rfl, hp, hg, he, hlt⟩ | ⟨hv, rfl, hb⟩)
 ·have hx3 := hg.blk HX2.out (by have := HQ.out; omega)
  have f0 := zb hx3 0
  have c0 := z_ (i := 0) hx3 rfl
  have HX3 : Hid (w3.heap[q]? = some (.cells #[.int .i64 0, .int .i64 (a : Int), .string ⟨#[]⟩, .pointer none, .pointer none, .slice none 0 0, .slice none 0 0] 147)) := hx3
  have HG3 : Hid (Gr P w0 w3) := HG2.out.trans hg
  have HS3 : Hid (w.heap.size ≤ w3.heap.size) := Nat.le_trans HS2.out hg.size
  have HV3 : Hid ((hd l.tail).t = [40]) := hv
  have HP3 : Hid (PS w3 P T (o + 3 + 3) (c - 1 - 1) l.tail.tail) := hp
  have HE3 : Hid (Ends l.tail.tail ∧ l.tail.tail.length < l.tail.length) := ⟨he, hlt⟩
  clear hx3 hv hp hg he hlt HX2 HG2
  go_wp2_with fail
  obtain ⟨W3, hW3⟩ : ∃ W3, W3 = w3.setCell ⟨q, 0, none⟩ (.int .i64 8) := ⟨_, rfl⟩
  have HX4 : Hid (W3.heap[q]? = some (.cells #[.int .i64 8, .int .i64 (a : Int), .string ⟨#[]⟩, .pointer none, .pointer none, .slice none 0 0, .slice none 0 0] 147)) := by
   show _ = _
   rw [hW3]
   exact heap_setCell_same _ _ _ _ _ _ HX3.out
  have HX4d : Hid (W3.drew.heap[q]? = some (.cells #[.int .i64 8, .int .i64 (a : Int), .string ⟨#[]⟩, .pointer none, .pointer none, .slice none 0 0, .slice none 0 0] 147)) := HX4.out
  have HP4 : Hid (PS W3.drew P T (o + 3 + 3) (c - 1 - 1) l.tail.tail) := by
   show PS _ _ _ _ _ _
   rw [hW3]
   exact (HP3.out.set HQ.out.2.1 HQ.out.2.2.1).below (Below.refl _ _).drew
  have HG4 : Hid (Gr P w0 W3.drew) := by
   show Gr _ _ _
   rw [hW3]
   exact (HG3.out.set HQ.out.1).trans (ze (Below.refl _ _).drew)
  have HS4 : Hid (w.heap.size ≤ W3.drew.heap.size) := by
   show _ ≤ _
   rw [hW3]
   show w.heap.size ≤ (w3.setCell ⟨q, 0, none⟩ (.int .i64 8)).heap.size
   simp
   exact HS3.out
  rw [← hW3]
  clear hW3 HX3 HP3 HG3 f0 c0
  have HA4 : Hid (At W3.drew P T (o + 3 + 3) (c - 1 - 1) d l.tail.tail) := at_of HE0.out HG4.out HA.out.far HP4.out HE3.out.1 (by have := HA.out.deep; have := HL2.out; have := HE3.out.2; omega)
  have hc1 : W3.cell? ⟨q, 1, none⟩ = some (.int .i64 (a : Int)) := z_ HX4.out rfl
  go_region_with (go_at_call 233; refine (args_at HA4.out (by have := HA.out.deep; have := HL2.out; have := HE3.out.2; omega)).mono ?_; intro e w5 hpost; rcases hpost.parts with ⟨t1, l1, v1, ys, o1, c1, hr, rfl, ho5, hx5, hp5, hg5⟩ | ⟨k, p, hr, ⟨b, rfl, hb⟩, hg5⟩; rotate_left; exact (by refine ⟨rfl, HG0.out _ _ (.inr ⟨k, p, ?_, ⟨b, rfl, hb⟩, HG4.out.trans hg5⟩)⟩; unfold zP; rw [HN2.out]; show (if (hd l.tail).t = [40] then _ else _) = _; rw [if_pos HV3.out, hr]; rfl); obtain ⟨qv, cv, rfl⟩ := zd ho5; have hx5q := hg5.blk HX4d.out (by have := HQ.out; omega); have f4 := zb hx5q 4; have cc1 := z_ (i := 1) hx5q rfl; have cc4 := z_ (i := 4) hx5q rfl; have HX5 : Hid (w5.heap[q]? = some (.cells #[.int .i64 8, .int .i64 (a : Int), .string ⟨#[]⟩, .pointer none, .pointer none, .slice none 0 0, .slice none 0 0] 147)) := hx5q; have HO5 : Hid (w5.ownsRow W3.drew.heap.size 145 1 (.slice qv ys.length cv) ys.length ys) := ho5; have HT5 : Hid (ExAt (Fr W3.drew.heap.size) w5 t1 (.tuple ys.toArray)) := hx5; have HP5 : Hid (PS w5 P T o1 c1 l1) := hp5; have HG5 : Hid (Gr P w0 w5) := HG4.out.trans hg5; have HS5 : Hid (w.heap.size ≤ w5.heap.size) := Nat.le_trans HS4.out hg5.size; have HR : Hid (argsV l.tail.tail = .ok (t1, l1)) := hr; have hqs : q < w5.heap.size := (Array.getElem?_eq_some_iff.1 hx5q).1; clear hpost hr ho5 hx5 hp5 hg5 hx5q)
  all_goals
   go_wp2
   refine bodyPost_ret (results_none rfl _ _ _) rfl ?_
   refine HG0.out _ _ (.inl ⟨st 8 (a : Int) [] .nil (nd 5 (a : Int) 0 (hd l).t [] .nil .nil t1) ce ce, l1, #[.int .i64 8, .int .i64 (a : Int), .string ⟨#[]⟩, .pointer none, .pointer (some ⟨w5.heap.size, 0, none⟩), .slice none 0 0, .slice none 0 0], o1, c1, ?_, rfl, ?_, ?_, ?_, ?_⟩)
   ·unfold zP
    rw [HN2.out]
    show (if (hd l.tail).t = [40] then _ else _) = _
    rw [if_pos HV3.out, HR.out]
    rfl
   ·rw [zc (by simp; omega)]
    exact heap_setCell_same _ _ _ _ _ _ HX5.out
   ·have hqm : q < W3.drew.heap.size := (Array.getElem?_eq_some_iff.1 HX4d.out).1
    have hk : Keeps (Fr W3.drew.heap.size) w5 (w5.setCell ⟨q, 4, none⟩ (.pointer (some ⟨w5.heap.size, 0, none⟩))) := Keeps.set hqm
    have hsz : (w5.setCell ⟨q, 4, none⟩ (.pointer (some ⟨w5.heap.size, 0, none⟩))).heap.size = w5.heap.size := by simp
    have hn := call_new (S := Fr w.heap.size) (p := (a : Int)) (w := w5.setCell ⟨q, 4, none⟩ (.pointer (some ⟨w5.heap.size, 0, none⟩))) HY.out (by show w.heap.size ≤ _; rw [hsz]; exact HS5.out) (hk.row (by decide) HO5.out (fun i hi => (HO5.out.lt i hi).1)) (fun i hi => Nat.le_trans HS4.out (HO5.out.lt i hi).1) ((hk.ex HT5.out).old HS4.out)
    rw [hsz] at hn
    exact st_plain (qj _ _) hn
   ·exact (HP5.out.set HQ.out.2.1 HQ.out.2.2.1).below ((Below.refl _ _).alloc (Nat.le_refl _) _)
   ·exact (HG5.out.set HQ.out.1).alloc _
 ·have hg : Gr P w2 w3 := ze hb
  have hx3 := hg.blk HX2.out (by have := HQ.out; omega)
  have f0 := zb hx3 0
  have f2 := zb hx3 2
  have c0 := z_ (i := 0) hx3 rfl
  have c2 := z_ (i := 2) hx3 rfl
  have HX3 : Hid (w3.heap[q]? = some (.cells #[.int .i64 0, .int .i64 (a : Int), .string ⟨#[]⟩, .pointer none, .pointer none, .slice none 0 0, .slice none 0 0] 147)) := hx3
  have HG3 : Hid (Gr P w0 w3) := HG2.out.trans hg
  have HS3 : Hid (w.heap.size ≤ w3.heap.size) := Nat.le_trans HS2.out hg.size
  have HV3 : Hid (¬ (hd l.tail).t = [40]) := hv
  have HP3 : Hid (PS w3 P T (o + 3) (c - 1) l.tail) := HA2.out.ps.below hb
  have HE2 : Hid (Ends l.tail) := HA2.out.ends
  clear hx3 hv hg hb HX2 HG2 HA2
  go_wp2_with (go_at_call 94; fail)
  obtain ⟨W4, hW4⟩ : ∃ W4, W4 = (w3.setCell ⟨q, 0, none⟩ (.int .i64 2)).setCell ⟨q, 2, none⟩ (.string y) := ⟨_, rfl⟩
  have HX4 : Hid (W4.heap[q]? = some (.cells #[.int .i64 2, .int .i64 (a : Int), .string y, .pointer none, .pointer none, .slice none 0 0, .slice none 0 0] 147)) := by
   show _ = _
   rw [hW4]
   exact heap_setCell_same _ _ _ _ _ _ (heap_setCell_same _ _ _ _ _ _ HX3.out)
  have HP4 : Hid (PS W4 P T (o + 3) (c - 1) l.tail) := by
   show PS _ _ _ _ _ _
   rw [hW4]
   exact (HP3.out.set HQ.out.2.1 HQ.out.2.2.1).set HQ.out.2.1 HQ.out.2.2.1
  have HG4 : Hid (Gr P w0 W4) := by
   show Gr _ _ _
   rw [hW4]
   exact (HG3.out.set HQ.out.1).set HQ.out.1
  have HS4 : Hid (w.heap.size ≤ W4.heap.size) := by
   show _ ≤ _
   rw [hW4]
   simp
   exact HS3.out
  rw [← hW4]
  clear hW4 HX3 HP3 HG3 HS3 f0 c0 f2 c2
  have HA4 : Hid (At W4 P T (o + 3) (c - 1) d l.tail) := at_of HE0.out HG4.out HA.out.far HP4.out HE2.out (by have := HA.out.deep; have := HL2.out; omega)
  refine (qH HA4.out ⟨#[91]⟩ (by decide)).mono ?_
  rintro e w5 (⟨hv, rfl, hp, hg, he, hlt⟩ | ⟨hv, rfl, hb⟩)
  ·have hx5 := hg.blk HX4.out (by have := HQ.out; omega)
   have HX5 : Hid (w5.heap[q]? = some (.cells #[.int .i64 2, .int .i64 (a : Int), .string y, .pointer none, .pointer none, .slice none 0 0, .slice none 0 0] 147)) := hx5
   have HG5 : Hid (Gr P w0 w5) := HG4.out.trans hg
   have HS5 : Hid (w.heap.size ≤ w5.heap.size) := Nat.le_trans HS4.out hg.size
   have HV5 : Hid ((hd l.tail).t = [91]) := hv
   have HA5 : Hid (At w5 P T (o + 3 + 3) (c - 1 - 1) d l.tail.tail) := at_of HE0.out HG5.out HA.out.far hp he (by have := HA.out.deep; have := HL2.out; omega)
   have HL5 : Hid (1 + l.tail.tail.length ≤ 100000) := by show _ ≤ _; have := HA.out.deep; have := HL2.out; omega
   clear hx5 hv hp hg he hlt HX4 HG4 HS4 HP4 HA4
   go_wp2_with (go_at_call 234; fail)
   refine (idx_at HA5.out HL5.out).mono ?_
   intro e w6 hpost
   rcases hpost.parts with ⟨t1, l1, v1, o1, c1, hr, rfl, hx6, hp6, hg6⟩ | ⟨k, p, hr, ⟨b, rfl, hb⟩, hg6⟩
   rotate_left
   ·refine ⟨rfl, HG0.out _ _ (.inr ⟨k, p, ?_, ⟨b, rfl, hb⟩, HG5.out.trans hg6⟩)⟩
    unfold zP
    rw [HN2.out]
    show (if (hd l.tail).t = [40] then _ else if (hd l.tail).t = [91] then _ else _) = _
    rw [if_neg HV3.out, if_pos HV5.out, hr]
    rfl
   obtain ⟨vb, rfl⟩ := idx_ptr hr hx6
   obtain ⟨he6, hlt6⟩ := idx_tail hr HA5.out.ends
   have hx6q := hg6.blk HX5.out (by have := HQ.out; omega)
   have f0 := zb hx6q 0
   have f3 := zb hx6q 3
   have c0 := z_ (i := 0) hx6q rfl
   have c3 := z_ (i := 3) hx6q rfl
   have HX6 : Hid (w6.heap[q]? = some (.cells #[.int .i64 2, .int .i64 (a : Int), .string y, .pointer none, .pointer none, .slice none 0 0, .slice none 0 0] 147)) := hx6q
   have HT6 : Hid (ExAt (Fr w5.heap.size) w6 t1 (.pointer (some ⟨vb, 0, none⟩))) := hx6
   have HP6 : Hid (PS w6 P T o1 c1 l1) := hp6
   have HG6 : Hid (Gr P w0 w6) := HG5.out.trans hg6
   have HS6 : Hid (w.heap.size ≤ w6.heap.size) := Nat.le_trans HS5.out hg6.size
   have HE6 : Hid (Ends l1 ∧ l1.length < l.tail.tail.length) := ⟨he6, hlt6⟩
   have HR6 : Hid (idxV l.tail.tail = .ok (t1, l1)) := hr
   clear hpost hr hx6 hp6 hg6 hx6q he6 hlt6 HX5 HG5
   go_wp2_with (go_at_call 92; fail)
   obtain ⟨W7, hW7⟩ : ∃ W7, W7 = (w6.setCell ⟨q, 0, none⟩ (.int .i64 3)).setCell ⟨q, 3, none⟩ (.pointer (some ⟨vb, 0, none⟩)) := ⟨_, rfl⟩
   have HX7 : Hid (W7.heap[q]? = some (.cells #[.int .i64 3, .int .i64 (a : Int), .string y, .pointer (some ⟨vb, 0, none⟩), .pointer none, .slice none 0 0, .slice none 0 0] 147)) := by
    show _ = _
    rw [hW7]
    exact heap_setCell_same _ _ _ _ _ _ (heap_setCell_same _ _ _ _ _ _ HX6.out)
   have HT7 : Hid (ExAt (Fr w.heap.size) W7 t1 (.pointer (some ⟨vb, 0, none⟩))) := by
    show ExAt _ _ _ _
    rw [hW7]
    have hq5 : q < w5.heap.size := by have := HQ.out; have := HS5.out; omega
    exact (((Keeps.set hq5).trans (Keeps.set hq5)).ex HT6.out).old HS5.out
   have HP7 : Hid (PS W7 P T o1 c1 l1) := by
    show PS _ _ _ _ _ _
    rw [hW7]
    exact (HP6.out.set HQ.out.2.1 HQ.out.2.2.1).set HQ.out.2.1 HQ.out.2.2.1
   have HG7 : Hid (Gr P w0 W7) := by
    show Gr _ _ _
    rw [hW7]
    exact (HG6.out.set HQ.out.1).set HQ.out.1
   have HS7 : Hid (w.heap.size ≤ W7.heap.size) := by
    show _ ≤ _
    rw [hW7]
    simp
    exact HS6.out
   rw [← hW7]
   clear hW7 HX6 HP6 HG6 HS6 f0 c0 f3 c3 HT6
   have HA7 : Hid (At W7 P T o1 c1 d l1) := at_of HE0.out HG7.out HA.out.far HP7.out HE6.out.1 (by have := HA.out.deep; have := HL2.out; have := HA5.out.deep; have := HE6.out.2; omega)
   refine (nee_at HA7.out ⟨#[61]⟩ (by decide)).mono ?_
   rintro e w8 (⟨hv, rfl, hp, hg, he, hlt⟩ | ⟨hv, ⟨b, rfl, hb⟩, hg⟩)
   rotate_left
   ·refine ⟨rfl, HG0.out _ _ (.inr ⟨_, _, ?_, ⟨b, rfl, hb⟩, HG7.out.trans hg⟩)⟩
    unfold zP
    rw [HN2.out]
    show (if (hd l.tail).t = [40] then _ else if (hd l.tail).t = [91] then _ else _) = _
    rw [if_neg HV3.out, if_pos HV5.out, HR6.out]
    show bnd (zh [61] l1) _ = _
    have hv' : zh [61] l1 = _ := hv
    rw [hv']
    rfl
   have HX8 : Hid (w8.heap[q]? = some (.cells #[.int .i64 3, .int .i64 (a : Int), .string y, .pointer (some ⟨vb, 0, none⟩), .pointer none, .slice none 0 0, .slice none 0 0] 147)) := hg.blk HX7.out (by have := HQ.out; omega)
   have HG8 : Hid (Gr P w0 w8) := HG7.out.trans hg
   have HS8 : Hid (w.heap.size ≤ w8.heap.size) := Nat.le_trans HS7.out hg.size
   have HT8 : Hid (ExAt (Fr w.heap.size) w8 t1 (.pointer (some ⟨vb, 0, none⟩))) := qP HP7.out hg HT7.out
   have HV8 : Hid (zh [61] l1 = .ok ((), l1.tail)) := hv
   have HA8 : Hid (At w8 P T (o1 + 3) (c1 - 1) d l1.tail) := at_of HE0.out HG8.out HA.out.far hp he (by have := HA7.out.deep; omega)
   clear hv hp hg he hlt HX7 HT7 HP7 HG7 HA7
   go_wp2_with (go_at_call 206; fail)
   refine (expr_at HA8.out).mono ?_
   intro e w9 hpost
   rcases hpost.parts with ⟨t2, l2, v2, o2, c2, hr, rfl, hx9, hp9, hg9⟩ | ⟨k, p, hr, ⟨b, rfl, hb⟩, hg9⟩
   rotate_left
   ·refine ⟨rfl, HG0.out _ _ (.inr ⟨k, p, ?_, ⟨b, rfl, hb⟩, HG8.out.trans hg9⟩)⟩
    unfold zP
    rw [HN2.out]
    show (if (hd l.tail).t = [40] then _ else if (hd l.tail).t = [91] then _ else _) = _
    rw [if_neg HV3.out, if_pos HV5.out, HR6.out]
    show bnd (zh [61] l1) _ = _
    rw [HV8.out]
    show bnd (zW l1.tail) _ = _
    rw [hr]
    rfl
   obtain ⟨vb2, rfl⟩ := expr_ptr hr hx9
   have hx9q := hg9.blk HX8.out (by have := HQ.out; omega)
   have f4 := zb hx9q 4
   have c4 := z_ (i := 4) hx9q rfl
   have HX9 : Hid (w9.heap[q]? = some (.cells #[.int .i64 3, .int .i64 (a : Int), .string y, .pointer (some ⟨vb, 0, none⟩), .pointer none, .slice none 0 0, .slice none 0 0] 147)) := hx9q
   have HT9 : Hid (ExAt (Fr w8.heap.size) w9 t2 (.pointer (some ⟨vb2, 0, none⟩))) := hx9
   have HT1 : Hid (ExAt (Fr w.heap.size) w9 t1 (.pointer (some ⟨vb, 0, none⟩))) := qP HA8.out.ps hg9 HT8.out
   have HP9 : Hid (PS w9 P T o2 c2 l2) := hp9
   have HG9 : Hid (Gr P w0 w9) := HG8.out.trans hg9
   have HR9 : Hid (zW l1.tail = .ok (t2, l2)) := hr
   clear hpost hr hx9 hp9 hg9 hx9q
   go_wp2
   go_end0
   have hq8 : q < w8.heap.size := by have := HQ.out; have := HS8.out; omega
   refine HG0.out _ _ (.inl ⟨st 3 (a : Int) (hd l).t t1 t2 ce ce, l2, #[.int .i64 3, .int .i64 (a : Int), .string y, .pointer (some ⟨vb, 0, none⟩), .pointer (some ⟨vb2, 0, none⟩), .slice none 0 0, .slice none 0 0], o2, c2, ?_, rfl, ?_, ?_, ?_, ?_⟩)
   ·unfold zP
    rw [HN2.out]
    show (if (hd l.tail).t = [40] then _ else if (hd l.tail).t = [91] then _ else _) = _
    rw [if_neg HV3.out, if_pos HV5.out, HR6.out]
    show bnd (zh [61] l1) _ = _
    rw [HV8.out]
    show bnd (zW l1.tail) _ = _
    rw [HR9.out]
    rfl
   ·exact heap_setCell_same _ _ _ _ _ _ HX9.out
   ·show StAt _ _ _ [.int .i64 3, .int .i64 (a : Int), .string y, .pointer (some ⟨vb, 0, none⟩), .pointer (some ⟨vb2, 0, none⟩), .slice none 0 0, .slice none 0 0]
    rw [← HY.out]
    exact st_plain ((Keeps.set HQ.out.2.2.2).ex HT1.out) (((Keeps.set hq8).ex HT9.out).old HS8.out)
   ·exact HP9.out.set HQ.out.2.1 HQ.out.2.2.1
   ·exact HG9.out.set HQ.out.1
  ·have hg : Gr P W4 w5 := ze hb
   have HX7 : Hid (w5.heap[q]? = some (.cells #[.int .i64 2, .int .i64 (a : Int), .string y, .pointer none, .pointer none, .slice none 0 0, .slice none 0 0] 147)) := hg.blk HX4.out (by have := HQ.out; omega)
   have HG7 : Hid (Gr P w0 w5) := HG4.out.trans hg
   have HS7 : Hid (w.heap.size ≤ w5.heap.size) := Nat.le_trans HS4.out hg.size
   have HV5 : Hid (¬ (hd l.tail).t = [91]) := hv
   have HA7 : Hid (At w5 P T (o + 3) (c - 1) d l.tail) := HA4.out.below hb
   clear hv hb hg HX4 HG4 HS4 HP4 HA4
   go_wp2_with (go_at_call 92; fail)
   refine (nee_at HA7.out ⟨#[61]⟩ (by decide)).mono ?_
   rintro e w8 (⟨hv, rfl, hp, hg, he, hlt⟩ | ⟨hv, ⟨b, rfl, hb⟩, hg⟩)
   rotate_left
   ·refine ⟨rfl, HG0.out _ _ (.inr ⟨_, _, ?_, ⟨b, rfl, hb⟩, HG7.out.trans hg⟩)⟩
    unfold zP
    rw [HN2.out]
    show (if (hd l.tail).t = [40] then _ else if (hd l.tail).t = [91] then _ else bnd (zh [61] l.tail) _) = _
    rw [if_neg HV3.out, if_neg HV5.out]
    have hv' : zh [61] l.tail = _ := hv
    rw [hv']
    rfl
   have HX8 : Hid (w8.heap[q]? = some (.cells #[.int .i64 2, .int .i64 (a : Int), .string y, .pointer none, .pointer none, .slice none 0 0, .slice none 0 0] 147)) := hg.blk HX7.out (by have := HQ.out; omega)
   have HG8 : Hid (Gr P w0 w8) := HG7.out.trans hg
   have HS8 : Hid (w.heap.size ≤ w8.heap.size) := Nat.le_trans HS7.out hg.size
   have HV8 : Hid (zh [61] l.tail = .ok ((), l.tail.tail)) := hv
   have HA8 : Hid (At w8 P T (o + 3 + 3) (c - 1 - 1) d l.tail.tail) := at_of HE0.out HG8.out HA.out.far hp he (by have := HA7.out.deep; omega)
   clear hv hp hg he hlt HX7 HG7 HA7
   go_wp2_with (go_at_call 206; fail)
   refine (expr_at HA8.out).mono ?_
   intro e w9 hpost
   rcases hpost.parts with ⟨t2, l2, v2, o2, c2, hr, rfl, hx9, hp9, hg9⟩ | ⟨k, p, hr, ⟨b, rfl, hb⟩, hg9⟩
   rotate_left
   ·refine ⟨rfl, HG0.out _ _ (.inr ⟨k, p, ?_, ⟨b, rfl, hb⟩, HG8.out.trans hg9⟩)⟩
    unfold zP
    rw [HN2.out]
    show (if (hd l.tail).t = [40] then _ else if (hd l.tail).t = [91] then _ else bnd (zh [61] l.tail) _) = _
    rw [if_neg HV3.out, if_neg HV5.out, HV8.out]
    show bnd (zW l.tail.tail) _ = _
    rw [hr]
    rfl
   obtain ⟨vb2, rfl⟩ := expr_ptr hr hx9
   have hx9q := hg9.blk HX8.out (by have := HQ.out; omega)
   have f4 := zb hx9q 4
   have c4 := z_ (i := 4) hx9q rfl
   have HX9 : Hid (w9.heap[q]? = some (.cells #[.int .i64 2, .int .i64 (a : Int), .string y, .pointer none, .pointer none, .slice none 0 0, .slice none 0 0] 147)) := hx9q
   have HT9 : Hid (ExAt (Fr w8.heap.size) w9 t2 (.pointer (some ⟨vb2, 0, none⟩))) := hx9
   have HP9 : Hid (PS w9 P T o2 c2 l2) := hp9
   have HG9 : Hid (Gr P w0 w9) := HG8.out.trans hg9
   have HR9 : Hid (zW l.tail.tail = .ok (t2, l2)) := hr
   clear hpost hr hx9 hp9 hg9 hx9q
   go_wp2
   go_end0
   have hq8 : q < w8.heap.size := by have := HQ.out; have := HS8.out; omega
   refine HG0.out _ _ (.inl ⟨st 2 (a : Int) (hd l).t .nil t2 ce ce, l2, #[.int .i64 2, .int .i64 (a : Int), .string y, .pointer none, .pointer (some ⟨vb2, 0, none⟩), .slice none 0 0, .slice none 0 0], o2, c2, ?_, rfl, ?_, ?_, ?_, ?_⟩)
   ·unfold zP
    rw [HN2.out]
    show (if (hd l.tail).t = [40] then _ else if (hd l.tail).t = [91] then _ else bnd (zh [61] l.tail) _) = _
    rw [if_neg HV3.out, if_neg HV5.out, HV8.out]
    show bnd (zW l.tail.tail) _ = _
    rw [HR9.out]
    rfl
   ·exact heap_setCell_same _ _ _ _ _ _ HX9.out
   ·show StAt _ _ _ [.int .i64 2, .int .i64 (a : Int), .string y, .pointer none, .pointer (some ⟨vb2, 0, none⟩), .slice none 0 0, .slice none 0 0]
    rw [← HY.out]
    exact st_plain (qj _ _) (((Keeps.set hq8).ex HT9.out).old HS8.out)
   ·exact HP9.out.set HQ.out.2.1 HQ.out.2.2.1
   ·exact HG9.out.set HQ.out.1
end Go.Proofs.YtnfhpdbbfejioaaGreatDoor
