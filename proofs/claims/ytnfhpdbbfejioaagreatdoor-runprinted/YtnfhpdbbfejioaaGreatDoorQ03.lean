/- TC TN TD TF TG -/
import Derived.Test.YtnfhpdbbfejioaaGreatDoorQ02
namespace Go.Proofs.YtnfhpdbbfejioaaGreatDoor
set_option linter.unusedVariables false
set_option linter.unusedSimpArgs false
set_option maxRecDepth 100000
set_option maxHeartbeats 4000000
open Go Go.RowKit
theorem node_at {S : Nat → Prop} {w : World} {b : Nat} {c a n : Int} {nm op : By} {l r : Tr} {vl vr : Value} (hs : S b) (hb : w.heap[b]? = some (.cells #[.int .i64 c, .int .i64 a, .int .i64 n, str nm, str op, vl, vr, .slice none 0 0] 252)) (hl : ExAt S w l vl) (hr : ExAt S w r vr) : ExAt S w (nd c a n nm op l r ce) (.pointer (some ⟨b, 0, none⟩)) := by
 rw [ExAt]
 exact ⟨b, vl, vr, .slice none 0 0, [], hs, rfl, hb, hl, hr, World.ownsRow_nil w _ _ _, fun i hi => (by cases hi), (by rw [ExAt])⟩
theorem qo (S : Nat → Prop) (w : World) : ExAt S w .nil (.pointer none) := by rw [ExAt]
theorem ex_alloc {S : Nat → Prop} {w : World} {t : Tr} {v : Value} (h : ExAt S w t v) (A : Obj) : ExAt S (w.alloc A) t v :=
 ExAt.kept (fun b cs t _ _ hb => by rw [zn (Array.getElem?_eq_some_iff.1 hb).1]; exact hb) t v h
theorem node_new {S : Nat → Prop} {w : World} {c a n : Int} {nm op : By} {l r : Tr} {vl vr : Value} (hs : S w.heap.size) (hl : ExAt S w l vl) (hr : ExAt S w r vr) : ExAt S (w.alloc (.cells #[.int .i64 c, .int .i64 a, .int .i64 n, str nm, str op, vl, vr, .slice none 0 0] 252)) (nd c a n nm op l r ce) (.pointer (some ⟨w.heap.size, 0, none⟩)) :=
 node_at hs (by show (w.heap.push _)[w.heap.size]? = _; simp) (ex_alloc hl _) (ex_alloc hr _)
def OneC (n : Nat) : Prop := ∀ (d : Nat) (w : World) (P T o c : Nat) (l : List Tok), At w P T o c d l → 12 * l.length + 2 ≤ n → Calls Tryz.prog 247 #[.pointer (some ⟨P, 0, none⟩), .int .i64 (d : Int)] w (ExPost w P T (exV n 2 0 d .nil 0 l))
theorem bin_last (n : Nat) (IH : OneC n) (d : Nat) (w : World) (P T o c : Nat) (l : List Tok) (h : At w P T o c d l) (hn : 12 * l.length + 2 ≤ n) :
  Calls Tryz.prog 235 #[.pointer (some ⟨P, 0, none⟩), .int .i64 7, .int .i64 (d : Int)] w (ExPost w P T (exV (n + 1) 0 7 d .nil 0 l)) := by
 have HB : Hid (Calls Tryz.prog 247 #[.pointer (some ⟨P, 0, none⟩), .int .i64 (d : Int)] w (ExPost w P T (exV n 2 0 d .nil 0 l))) := IH d w P T o c l h hn
 clear h IH
 have hM : exV (n + 1) 0 7 d .nil 0 l = exV n 2 0 d .nil 0 l := by
  rw [exV]
  simp
 rw [hM]
 cases hr : exV n 2 0 d .nil 0 l with
 | error kp =>
  obtain ⟨k, p⟩ := kp
  rw [hr] at HB
  have HB2 : Hid (Calls Tryz.prog 247 #[.pointer (some ⟨P, 0, none⟩), .int .i64 (d : Int)] w fun e w' => zH k p e w' ∧ Gr P w w') := HB.out
  have HPo : Hid (∀ e w', zH k p e w' ∧ Gr P w w' → ExPost w P T (.error (k, p)) e w') := fun e w' h => h
  clear HB hr hM hn
  go_enter Tryz.func235, Tryz.ntmps235
  go_wp2_with (go_at_call 247; refine HB2.out.mono ?_; rintro e w1 ⟨⟨a, rfl, ha⟩, hg⟩; have HA : Hid (w1.heap[a]? = some (.cells #[.int .i64 k, .int .i64 (p : Int)] 139)) := ha; have HG : Hid (Gr P w w1) := hg; clear ha hg)
  exact ⟨rfl, HPo.out _ _ ⟨⟨a, rfl, HA.out⟩, HG.out⟩⟩
 | ok tl =>
  obtain ⟨t, l'⟩ := tl
  rw [hr] at HB
  have HB2 : Hid (Calls Tryz.prog 247 #[.pointer (some ⟨P, 0, none⟩), .int .i64 (d : Int)] w fun e w' => (∃ v o' c', e = .returned v ∧ ExAt (Fr w.heap.size) w' t v ∧ PS w' P T o' c' l') ∧ Gr P w w') := HB.out
  have HPo : Hid (∀ e w', ((∃ v o' c', e = .returned v ∧ ExAt (Fr w.heap.size) w' t v ∧ PS w' P T o' c' l') ∧ Gr P w w') → ExPost w P T (.ok (t, l')) e w') := fun e w' h => h
  clear HB hr hM hn
  go_enter Tryz.func235, Tryz.ntmps235
  go_wp2_with (go_at_call 247; refine HB2.out.mono ?_; rintro e w1 ⟨⟨v, o', c', rfl, hx, hp⟩, hg⟩; have HX : Hid (ExAt (Fr w.heap.size) w1 t v) := hx; have HP : Hid (PS w1 P T o' c' l') := hp; have HG : Hid (Gr P w w1) := hg; clear hx hp hg)
  go_ret
  exact HPo.out _ _ ⟨⟨v, o', c', rfl, HX.out, HP.out⟩, HG.out⟩
theorem one_deep (n : Nat) (d : Nat) (w : World) (P T o c : Nat) (l : List Tok) (h : At w P T o c d l) (hd1 : 12 < d) (hk : (hd l).k ≠ 3) :
  Calls Tryz.prog 247 #[.pointer (some ⟨P, 0, none⟩), .int .i64 (d : Int)] w (ExPost w P T (exV (n + 1) 2 0 d .nil 0 l)) := by
 have hdd := h.deep
 have hp' : PS w P T o c (hd l :: l.tail) := by rw [← h.ends.cons]; exact h.ps
 have HB : Hid (Calls Tryz.prog 148 #[.pointer (some ⟨P, 0, none⟩), .int .i64 (d : Int)] w fun e w' => zH 4 (hd l).p e w' ∧ Gr P w w') := (bound_no w P T o c (hd l) l.tail hp' d hd1 (by omega) hk).mono fun e w' ⟨a, b⟩ => ⟨a, zd b⟩
 have HPo : Hid (∀ e w', zH 4 (hd l).p e w' ∧ Gr P w w' → ExPost w P T (exV (n + 1) 2 0 d .nil 0 l) e w') := fun e w' h => by
  rw [exV]
  unfold qU
  rw [if_pos ⟨hd1, hk⟩]
  exact h
 clear h hdd hp' hk hd1
 go_enter Tryz.func247, Tryz.ntmps247
 go_wp2_with (go_at_call 148; fail)
 refine HB.out.mono ?_
 rintro e w1 ⟨⟨a, rfl, ha⟩, hg⟩
 exact ⟨rfl, HPo.out _ _ ⟨⟨a, rfl, ha⟩, hg⟩⟩
theorem look_at {w : World} {P T o c d : Nat} {l : List Tok} (h : At w P T o c d l) (y : ByteArray) (hy : str (hd l).t = .string y) (W : World) (hb : Below w.heap.size w W) :
  Calls Tryz.prog 59 #[.pointer (some ⟨P, 0, none⟩)] W fun e w' => e = .returned (.agg #[.int .i64 ((hd l).k : Int), .string y, .int .i64 ((hd l).p : Int)]) ∧ Below w.heap.size w w' := by
 have hp' : PS W P T o c (hd l :: l.tail) := by rw [← h.ends.cons]; exact h.ps.below hb
 exact (qM W P T o c (hd l) l.tail hp' y hy).mono fun e w' ⟨a, b⟩ => ⟨a, hb.trans (b.mono hb.size)⟩
theorem bound_at {w : World} {P T o c d : Nat} {l : List Tok} (h : At w P T o c d l) (hk : d ≤ 12 ∨ (hd l).k = 3) :
  Calls Tryz.prog 148 #[.pointer (some ⟨P, 0, none⟩), .int .i64 (d : Int)] w fun e w' => e = .returned (.tuple #[]) ∧ Below w.heap.size w w' := by
 have hdd := h.deep
 have hp' : PS w P T o c (hd l :: l.tail) := by rw [← h.ends.cons]; exact h.ps
 exact bound_yes w P T o c (hd l) l.tail hp' d (by omega) hk
def IsNd (t : Tr) : Prop := ∃ c a n nm op l r g, t = nd c a n nm op l r g
theorem isNd (c a n : Int) (nm op : By) (l r g : Tr) : IsNd (nd c a n nm op l r g) := ⟨c, a, n, nm, op, l, r, g, rfl⟩
theorem IsNd.ptr {S : Nat → Prop} {w : World} {t : Tr} {v : Value} (h : IsNd t) (hx : ExAt S w t v) : ∃ b, v = .pointer (some ⟨b, 0, none⟩) := by
 obtain ⟨c, a, n, nm, op, l, r, g, rfl⟩ := h
 rw [ExAt] at hx
 obtain ⟨b, _, _, _, _, _, e, _⟩ := hx
 exact ⟨b, e⟩
theorem ok_nd {t u : Tr} {l l' : List Tok} (h : (Except.ok (u, l) : R Tr) = .ok (t, l')) (hu : IsNd u) : IsNd t := by
 injection h with h
 injection h with h1 h2
 rw [← h1]; exact hu
theorem zw : ∀ (f g lv d : Nat) (x : Tr) (p : Nat) (l : List Tok) (t : Tr) (l' : List Tok), (g = 1 ∨ g = 3 → IsNd x) → g ≠ 7 → exV f g lv d x p l = .ok (t, l') → IsNd t
 | 0, _, _, _, _, _, _, _, _, _, _, h => by simp [exV] at h
 | f + 1, 0, lv, d, x, p, l, t, l', hx, hg, h => by
  rw [exV] at h
  split at h
  ·exact zw f 2 0 d .nil 0 l t l' (by omega) (by omega) h
  ·obtain ⟨y, l1, h1, h2⟩ := za h
   exact zw f 1 lv d y _ l1 t l' (fun _ => zw f 0 (lv + 1) d .nil 0 l y l1 (by omega) (by omega) h1) (by omega) h2
 | f + 1, 1, lv, d, x, p, l, t, l', hx, hg, h => by
  rw [exV] at h
  split at h
  ·obtain ⟨y, l1, h1, h2⟩ := za h
   exact zw f 1 lv d _ _ l1 t l' (fun _ => isNd _ _ _ _ _ _ _ _) (by omega) h2
  ·exact ok_nd h (hx (.inl rfl))
 | f + 1, 2, lv, d, x, p, l, t, l', hx, hg, h => by
  rw [exV] at h
  obtain ⟨_, _, _, h⟩ := za h
  split at h
  ·obtain ⟨y, l1, h1, h2⟩ := za h
   exact ok_nd h2 (isNd _ _ _ _ _ _ _ _)
  ·obtain ⟨y, l1, h1, h2⟩ := za h
   exact zw f 3 0 d y _ l1 t l' (fun _ => zw f 4 0 d .nil 0 l y l1 (by omega) (by omega) h1) (by omega) h2
 | f + 1, 3, lv, d, x, p, l, t, l', hx, hg, h => by
  rw [exV] at h
  split at h
  ·obtain ⟨y, l1, h1, h2⟩ := za h
   exact zw f 3 0 d _ _ l1 t l' (fun _ => isNd _ _ _ _ _ _ _ _) (by omega) h2
  ·exact ok_nd h (hx (.inr rfl))
 | f + 1, 4, lv, d, x, p, l, t, l', hx, hg, h => by
  rw [exV] at h
  split at h
  ·obtain ⟨y, l1, h1, h2⟩ := za h
   exact ok_nd h2 (isNd _ _ _ _ _ _ _ _)
  split at h
  ·obtain ⟨y, l1, h1, h2⟩ := za h
   split at h2
   ·split at h2
    ·exact ok_nd h2 (isNd _ _ _ _ _ _ _ _)
    ·obtain ⟨y2, l2, h3, h4⟩ := za h2
     exact ok_nd h4 (isNd _ _ _ _ _ _ _ _)
   ·exact ok_nd h2 (isNd _ _ _ _ _ _ _ _)
  split at h
  ·obtain ⟨y, l1, h1, h2⟩ := za h
   exact ok_nd h2 (isNd _ _ _ _ _ _ _ _)
  split at h
  ·obtain ⟨y, l1, h1, h2⟩ := za h
   exact ok_nd h2 (isNd _ _ _ _ _ _ _ _)
  split at h
  ·obtain ⟨y, l1, h1, h2⟩ := za h
   obtain ⟨y2, l2, h3, h4⟩ := za h2
   exact ok_nd h4 (isNd _ _ _ _ _ _ _ _)
  ·exact zw f 5 0 d .nil 0 l t l' (by omega) (by omega) h
 | f + 1, 5, lv, d, x, p, l, t, l', hx, hg, h => by
  rw [exV] at h
  obtain ⟨_, l1, h1, h⟩ := za h
  obtain ⟨y, l2, h2, h⟩ := za h
  obtain ⟨_, l3, h3, h⟩ := za h
  exact ok_nd h (zw f 0 1 (d + 1) .nil 0 l1 y l2 (by omega) (by omega) h2)
 | f + 1, 6, lv, d, x, p, l, t, l', hx, hg, h => by
  rw [exV] at h
  obtain ⟨y, l2, h2, h⟩ := za h
  obtain ⟨_, l3, h3, h⟩ := za h
  exact ok_nd h (zw f 0 1 (d + 1) .nil 0 l y l2 (by omega) (by omega) h2)
 | f + 1, 7, lv, d, x, p, l, t, l', hx, hg, h => absurd rfl hg
 | f + 1, g + 8, lv, d, x, p, l, t, l', hx, hg, h => by rw [exV] at h; cases h
theorem i64_same {x : Int} (h1 : -1000000 ≤ x) (h2 : x ≤ 1000000) : IntKind.i64.wrap x = x := by
 simp only [IntKind.wrap, IntKind.signed, IntKind.bits]
 simp
 omega
theorem take_at2 {w : World} {P T o c d : Nat} {l : List Tok} (h : At w P T o c d l) (x : ByteArray) (hx : (hd l).t = x.data.toList) (hne : x.data.toList ≠ []) (W : World) (hb : Below w.heap.size w W) :
  Calls Tryz.prog 94 #[.pointer (some ⟨P, 0, none⟩), .string x] W fun e w' => e = .returned (.bool true) ∧ PS w' P T (o + 3) (c - 1) l.tail ∧ Gr P w w' ∧ Gr P W w' := by
 obtain ⟨e1, e2, e3, e4⟩ := h.ends.tail (by rw [hx]; exact hne)
 have hp' : PS W P T o c (hd l :: l.tail) := by rw [← e3]; exact h.ps.below hb
 exact (accept_yes W P T o c (hd l) l.tail hp' e2 x hx).mono fun e w' ⟨a, b, g⟩ => ⟨a, b, (zd hb).trans g, g⟩
theorem Gr.blk {P q : Nat} {w w' : World} {A : Obj} (h : Gr P w w') (hq : w.heap[q]? = some A) (hne : q ≠ P) : w'.heap[q]? = some A := by
 rw [h.block q (Array.getElem?_eq_some_iff.1 hq).1 (by intro e; injection e with e; exact hne e)]
 exact hq
theorem un_new {S : Nat → Prop} {w : World} {p : Int} {m : By} {x : ByteArray} {t : Tr} {v : Value} (hx : m = x.data.toList) (hs : S w.heap.size) (h : ExAt S w t v) : ExAt S (w.alloc (.cells #[.int .i64 4, .int .i64 p, .int .i64 0, .string ⟨#[]⟩, .string x, v, .pointer none, .slice none 0 0] 252)) (nd 4 p 0 [] m t .nil ce) (.pointer (some ⟨w.heap.size, 0, none⟩)) := by
 subst hx
 exact node_new hs h (qo S w)
theorem ExPost.parts {w w' : World} {P T : Nat} {r : R Tr} {e : Ending} (h : ExPost w P T r e w') :
  (∃ t l' v o' c', r = .ok (t, l') ∧ e = .returned v ∧ ExAt (Fr w.heap.size) w' t v ∧ PS w' P T o' c' l' ∧ Gr P w w') ∨ (∃ k p, r = .error (k, p) ∧ zH k p e w' ∧ Gr P w w') := by
 match r, h with
 | .ok (t, l'), ⟨⟨v, o', c', a, b, d⟩, g⟩ => exact .inl ⟨t, l', v, o', c', rfl, a, b, d, g⟩
 | .error (k, p), ⟨a, b⟩ => exact .inr ⟨k, p, rfl, a, b⟩
theorem one_minus (n : Nat) (IH : OneC n) (d : Nat) (w : World) (P T o c : Nat) (l : List Tok) (h : At w P T o c d l) (hk : d ≤ 12 ∨ (hd l).k = 3) (hn : 12 * l.length + 2 ≤ n + 1) (x : ByteArray) (hx : (hd l).t = x.data.toList) (hxx : x = ⟨#[45]⟩) :
  Calls Tryz.prog 247 #[.pointer (some ⟨P, 0, none⟩), .int .i64 (d : Int)] w (ExPost w P T (exV (n + 1) 2 0 d .nil 0 l)) := by
 have hy : str (hd l).t = .string x := by rw [hx]
 have HF : Hid (∀ W, Below w.heap.size w W → Calls Tryz.prog 59 #[.pointer (some ⟨P, 0, none⟩)] W fun e w' => e = .returned (.agg #[.int .i64 ((hd l).k : Int), .string x, .int .i64 ((hd l).p : Int)]) ∧ Below w.heap.size w w') := fun W hb => look_at h x hy W hb
 have HB : Hid (Calls Tryz.prog 148 #[.pointer (some ⟨P, 0, none⟩), .int .i64 (d : Int)] w fun e w' => e = .returned (.tuple #[]) ∧ Below w.heap.size w w') := bound_at h hk
 have HT : Hid (∀ W, Below w.heap.size w W → Calls Tryz.prog 94 #[.pointer (some ⟨P, 0, none⟩), .string ⟨#[45]⟩] W fun e w' => e = .returned (.bool true) ∧ PS w' P T (o + 3) (c - 1) l.tail ∧ Gr P w w' ∧ Gr P W w') := fun W hb => take_at2 h ⟨#[45]⟩ (by rw [hx, hxx]) (by decide) W hb
 obtain ⟨e1, e2, e3, e4⟩ := h.ends.tail (by rw [hx, hxx]; decide)
 have hdd := h.deep
 have HO : Hid (∀ W, PS W P T (o + 3) (c - 1) l.tail → Gr P w W → Calls Tryz.prog 247 #[.pointer (some ⟨P, 0, none⟩), .int .i64 (IntKind.i64.wrap ((d : Int) + 1))] W (ExPost W P T (exV n 2 0 (d + 1) .nil 0 l.tail))) := fun W hp hg => by
  have := IH (d + 1) W P T (o + 3) (c - 1) l.tail ⟨h.env.gr hg h.far, hp, e1, h.far, by omega⟩ (by omega)
  rw [show ((d + 1 : Nat) : Int) = IntKind.i64.wrap ((d : Int) + 1) by rw [i64_same (by omega) (by omega)]; omega] at this
  exact this
 have hM : exV (n + 1) 2 0 d .nil 0 l = bnd (exV n 2 0 (d + 1) .nil 0 l.tail) fun y l1 => .ok (nd 4 (hd l).p 0 [] (hd l).t y .nil ce, l1) := by
  rw [exV]
  unfold qU
  rw [if_neg (by omega)]
  show (if (hd l).t = [45] ∨ (hd l).t = [33] then _ else _) = _
  rw [if_pos (by left; rw [hx, hxx])]
 have hd2 : d ≤ 100000 := by omega
 have HPl : Hid (P < w.heap.size) := (Array.getElem?_eq_some_iff.1 h.ps.own).1
 have HPok : Hid (∀ t l' e w', exV n 2 0 (d + 1) .nil 0 l.tail = .ok (t, l') → (∃ v o' c', e = .returned v ∧ ExAt (Fr w.heap.size) w' (nd 4 (hd l).p 0 [] (hd l).t t .nil ce) v ∧ PS w' P T o' c' l') → Gr P w w' → ExPost w P T (exV (n + 1) 2 0 d .nil 0 l) e w') := fun t l' e w' h1 h2 h3 => by
  rw [hM, h1]
  exact ⟨h2, h3⟩
 have HPer : Hid (∀ k p e w', exV n 2 0 (d + 1) .nil 0 l.tail = .error (k, p) → zH k p e w' → Gr P w w' → ExPost w P T (exV (n + 1) 2 0 d .nil 0 l) e w') := fun k p e w' h1 h2 h3 => by
  rw [hM, h1]
  exact ⟨h2, h3⟩
 have HXT : Hid ((hd l).t = x.data.toList) := hx
 clear h hk hn hx hxx hy e1 e2 e3 e4 hdd hM IH
 go_enter Tryz.func247, Tryz.ntmps247
 go_wp2_with (go_at_call 148; fail)
 refine HB.out.mono ?_
 rintro e w1 ⟨rfl, hb⟩
 have HB1 : Hid (Below w.heap.size w w1) := hb
 clear hb
 go_wp2_with (go_at_call 59; fail)
 refine (HF.out _ HB1.out).mono ?_
 rintro e w2 ⟨rfl, hb⟩
 have HB2 : Hid (Below w.heap.size w w2) := hb
 clear hb
 go_wp2_with (go_at_call 94; fail)
 obtain ⟨W2, hW2⟩ : ∃ W2, W2 = w2.alloc (.cells #[.int .i64 ((hd l).k : Int), .string x, .int .i64 ((hd l).p : Int)] 136) := ⟨_, rfl⟩
 obtain ⟨q, hq⟩ : ∃ q, q = w2.heap.size := ⟨_, rfl⟩
 have HQ2 : Hid (W2.heap[q]? = some (.cells #[.int .i64 ((hd l).k : Int), .string x, .int .i64 ((hd l).p : Int)] 136)) := by rw [hW2, hq]; exact heap_alloc_last _ _
 have HNE : Hid (q ≠ P) := fun e => by have := HB2.out.size; have := HPl.out; omega
 have HB3 : Hid (Below w.heap.size w W2) := by rw [hW2]; exact HB2.out.alloc HB2.out.size _
 rw [← hW2, ← hq]
 clear hW2 hq HB2
 refine (HT.out _ HB3.out).mono ?_
 rintro e w3 ⟨rfl, hp, hg, hg'⟩
 have HQ3 : Hid (w3.drew.heap[q]? = some (.cells #[.int .i64 ((hd l).k : Int), .string x, .int .i64 ((hd l).p : Int)] 136)) := hg'.blk HQ2.out HNE.out
 have HP3d : Hid (PS w3.drew P T (o + 3) (c - 1) l.tail) := hp.below (Below.refl _ _).drew
 have HG3d : Hid (Gr P w w3.drew) := hg.trans (zd (Below.refl _ _).drew)
 have hc1 : w3.cell? ⟨q, 1, none⟩ = some (.string x) := by have := hg'.blk HQ2.out HNE.out; simp [World.cell?, this]
 have hc2 : w3.cell? ⟨q, 2, none⟩ = some (.int .i64 ((hd l).p : Int)) := by have := hg'.blk HQ2.out HNE.out; simp [World.cell?, this]
 clear hp hg hg'
 go_wp2_with fail
 go_region_with (go_at_call 247; refine (HO.out _ HP3d.out HG3d.out).mono ?_; intro e w4 hpost; rcases hpost.parts with ⟨t, l', v, o', c', hr, rfl, hx4, hp4, hg5⟩ | ⟨k, p, hr, ⟨a, rfl, ha⟩, hg5⟩; rotate_left; exact ⟨rfl, HPer.out k p _ _ hr ⟨a, rfl, ha⟩ (HG3d.out.trans hg5)⟩; obtain ⟨vb, rfl⟩ := IsNd.ptr (zw n 2 0 (d + 1) .nil 0 l.tail t l' (by omega) (by omega) hr) hx4; have HR : Hid (exV n 2 0 (d + 1) .nil 0 l.tail = .ok (t, l')) := hr; have hQ4 : w4.heap[q]? = some (.cells #[.int .i64 ((hd l).k : Int), .string x, .int .i64 ((hd l).p : Int)] 136) := hg5.blk HQ3.out HNE.out; have HX4 : Hid (ExAt (Fr w.heap.size) w4 t (.pointer (some ⟨vb, 0, none⟩))) := hx4.old HG3d.out.size; have HP4 : Hid (PS w4 P T o' c' l') := hp4; have HG4 : Hid (Gr P w w4) := HG3d.out.trans hg5; have hc3 : w4.cell? ⟨q, 1, none⟩ = some (.string x) := (by simp [World.cell?, hQ4]); have hc4 : w4.cell? ⟨q, 2, none⟩ = some (.int .i64 ((hd l).p : Int)) := (by simp [World.cell?, hQ4]); clear hx4 hp4 hg5 hQ4 hpost hr)
 all_goals
  go_wp2
  go_ret
  exact HPok.out t l' _ _ HR.out ⟨_, o', c', rfl, un_new HXT.out HG4.out.size HX4.out, HP4.out.below ((Below.refl _ _).alloc (Nat.le_refl _) _)⟩ (HG4.out.alloc _)
theorem At.go {w W : World} {P T o c d o' c' d' : Nat} {l l' : List Tok} (h : At w P T o c d l) (hg : Gr P w W) (hp : PS W P T o' c' l') (he : Ends l') (hd : d' + l'.length ≤ 100000) : At W P T o' c' d' l' := ⟨h.env.gr hg h.far, hp, he, h.far, hd⟩
theorem At.below {w W : World} {P T o c d : Nat} {l : List Tok} (h : At w P T o c d l) (hb : Below w.heap.size w W) : At W P T o c d l := h.go (zd hb) (h.ps.below hb) h.ends h.deep
theorem At.psc {w : World} {P T o c d : Nat} {l : List Tok} (h : At w P T o c d l) : PS w P T o c (hd l :: l.tail) := by rw [← h.ends.cons]; exact h.ps
theorem At.ltP {w : World} {P T o c d : Nat} {l : List Tok} (h : At w P T o c d l) : P < w.heap.size := (Array.getElem?_eq_some_iff.1 h.ps.own).1
theorem At.ltT {w : World} {P T o c d : Nat} {l : List Tok} (h : At w P T o c d l) : T < w.heap.size := h.psc.ltT
theorem Gr.set {P q i : Nat} {w w' : World} {v : Value} (h : Gr P w w') (hq : w.heap.size ≤ q) : Gr P w (w'.setCell ⟨q, i, none⟩ v) :=
 ⟨h.os, h.tape, h.output, by simp; exact h.size, fun k hk hne => by rw [heap_setCell_other _ _ _ _ (by show k ≠ q; omega)]; exact h.block k hk hne⟩
theorem PS.set {P T o c q i : Nat} {w : World} {v : Value} {l : List Tok} (h : PS w P T o c l) (hP : P < q) (hT : T < q) : PS (w.setCell ⟨q, i, none⟩ v) P T o c l :=
 h.of (heap_setCell_other _ _ _ _ (by show P ≠ q; omega)) (heap_setCell_other _ _ _ _ (by show T ≠ q; omega))
theorem z_ {w : World} {q i : Nat} {cs : Array Value} {t : TypeId} {v : Value} (h : w.heap[q]? = some (.cells cs t)) (hi : cs[i]? = some v) : w.cell? ⟨q, i, none⟩ = some v := by
 rw [cell_of_row _ _ _ _ _ _ h]; exact hi
theorem num_yes_at {w : World} {P T o c d : Nat} {l : List Tok} (h : At w P T o c d l) (hk : (hd l).k ≠ 3) (v : Int) (hv : Lib.parseIntB 64 (hd l).t = .ok v) :
  Calls Tryz.prog 259 #[.pointer (some ⟨P, 0, none⟩)] w fun e w' => e = .returned (.int .i64 v) ∧ PS w' P T (o + 3) (c - 1) l.tail ∧ Gr P w w' := by
 obtain ⟨e1, e2, e3, e4⟩ := h.ends.tail (h.ends.kind hk)
 have := h.ends.short
 exact number_yes w P T o c (hd l) l.tail h.psc e2 (by omega) v hv
theorem num_no_at {w : World} {P T o c d : Nat} {l : List Tok} (h : At w P T o c d l) (hv : ∀ v, Lib.parseIntB 64 (hd l).t ≠ .ok v) :
  Calls Tryz.prog 259 #[.pointer (some ⟨P, 0, none⟩)] w fun e w' => zH 4 (hd l).p e w' ∧ Gr P w w' := by
 have := h.ends.short
 exact (number_no w h.env P T o c (hd l) l.tail h.psc (by omega) hv).mono fun e w' ⟨a, b⟩ => ⟨a, zd b⟩
theorem num_at {w : World} {P T o c d : Nat} {l : List Tok} (h : At w P T o c d l) (hk : (hd l).k ≠ 3) :
  Calls Tryz.prog 259 #[.pointer (some ⟨P, 0, none⟩)] w fun e w' => (∃ v, numVv l = .ok (v, l.tail) ∧ e = .returned (.int .i64 v) ∧ PS w' P T (o + 3) (c - 1) l.tail ∧ Gr P w w') ∨ (numVv l = .error (4, (hd l).p) ∧ zH 4 (hd l).p e w' ∧ Gr P w w') := by
 cases hv : Lib.parseIntB 64 (hd l).t with
 | ok v => exact (num_yes_at h hk v hv).mono fun e w' ⟨a, b, g⟩ => .inl ⟨v, by unfold numVv; rw [hv], a, b, g⟩
 | _ => exact (num_no_at h (by intro v; rw [hv]; intro e; cases e)).mono fun e w' ⟨a, g⟩ => .inr ⟨by unfold numVv; rw [hv], a, g⟩
theorem nm_at {w : World} {P T o c d : Nat} {l : List Tok} (h : At w P T o c d l) :
  Calls Tryz.prog 93 #[.pointer (some ⟨P, 0, none⟩)] w fun e w' => (zI l = .ok ((hd l).t, l.tail) ∧ e = .returned (str (hd l).t) ∧ PS w' P T (o + 3) (c - 1) l.tail ∧ Gr P w w' ∧ Ends l.tail ∧ l.tail.length < l.length) ∨ (∃ k, zI l = .error (k, (hd l).p) ∧ zH k (hd l).p e w' ∧ Gr P w w') := by
 have hsh := h.ends.short
 by_cases hk : (hd l).k = 0
 ·by_cases hn : (hd l).t.length ≤ 12
  ·obtain ⟨e1, e2, e3, e4⟩ := h.ends.tail (h.ends.kind (by omega))
   refine (name_yes w P T o c (hd l) l.tail h.psc e2 hk hn).mono fun e w' ⟨a, b, g⟩ => .inl ⟨?_, a, b, g, e1, e4⟩
   unfold zI
   rw [if_neg (by omega), if_neg (by omega)]
  ·refine (name_no w P T o c (hd l) l.tail h.psc 4 (.inr ⟨hk, by omega, rfl⟩) (by omega)).mono fun e w' ⟨a, b⟩ => .inr ⟨4, ?_, a, zd b⟩
   unfold zI
   rw [if_neg (by omega), if_pos (by omega)]
 ·refine (name_no w P T o c (hd l) l.tail h.psc 3 (.inl ⟨hk, rfl⟩) (by omega)).mono fun e w' ⟨a, b⟩ => .inr ⟨3, ?_, a, zd b⟩
  unfold zI
  rw [if_pos hk]
theorem qW {w : World} {P T o c d : Nat} {l : List Tok} (h : At w P T o c d l) (x : ByteArray) (hne : x.data.toList ≠ []) :
  Calls Tryz.prog 94 #[.pointer (some ⟨P, 0, none⟩), .string x] w fun e w' => ((hd l).t = x.data.toList ∧ e = .returned (.bool true) ∧ PS w' P T (o + 3) (c - 1) l.tail ∧ Gr P w w' ∧ Ends l.tail ∧ l.tail.length < l.length) ∨ ((hd l).t ≠ x.data.toList ∧ e = .returned (.bool false) ∧ Below w.heap.size w w') := by
 by_cases hx : (hd l).t = x.data.toList
 ·obtain ⟨e1, e2, e3, e4⟩ := h.ends.tail (by rw [hx]; exact hne)
  exact (accept_yes w P T o c (hd l) l.tail h.psc e2 x hx).mono fun e w' ⟨a, b, g⟩ => .inl ⟨hx, a, b, g, e1, e4⟩
 ·exact (accept_no w P T o c (hd l) l.tail h.psc x hx).mono fun e w' ⟨a, b⟩ => .inr ⟨hx, a, b⟩
theorem nee_at {w : World} {P T o c d : Nat} {l : List Tok} (h : At w P T o c d l) (x : ByteArray) (hne : x.data.toList ≠ []) :
  Calls Tryz.prog 92 #[.pointer (some ⟨P, 0, none⟩), .string x] w fun e w' => (zf x.data.toList l = .ok ((), l.tail) ∧ e = .returned (.tuple #[]) ∧ PS w' P T (o + 3) (c - 1) l.tail ∧ Gr P w w' ∧ Ends l.tail ∧ l.tail.length < l.length) ∨ (zf x.data.toList l = .error (3, (hd l).p) ∧ zH 3 (hd l).p e w' ∧ Gr P w w') := by
 by_cases hx : (hd l).t = x.data.toList
 ·obtain ⟨e1, e2, e3, e4⟩ := h.ends.tail (by rw [hx]; exact hne)
  exact (need_yes w P T o c (hd l) l.tail h.psc e2 x hx).mono fun e w' ⟨a, b, g⟩ => .inl ⟨by unfold zf; rw [if_pos hx], a, b, g, e1, e4⟩
 ·exact (need_no w P T o c (hd l) l.tail h.psc x hx).mono fun e w' ⟨a, b⟩ => .inr ⟨by unfold zf; rw [if_neg hx], a, zd b⟩
theorem leaf_num (n : Nat) (d : Nat) (w : World) (P T o c : Nat) (l : List Tok) (h : At w P T o c d l) (hk : (hd l).k = 2) :
  Calls Tryz.prog 256 #[.pointer (some ⟨P, 0, none⟩), .int .i64 (d : Int)] w (ExPost w P T (exV (n + 1) 4 0 d .nil 0 l)) := by
 obtain ⟨y, hy, hyt⟩ := zt (hd l).t
 have HF : Hid (Calls Tryz.prog 59 #[.pointer (some ⟨P, 0, none⟩)] w fun e w' => e = .returned (.agg #[.int .i64 2, .string y, .int .i64 ((hd l).p : Int)]) ∧ Below w.heap.size w w') := by
  have := look_at h y hy w (Below.refl _ _)
  rw [hk] at this
  exact this
 have HA : Hid (At w P T o c d l) := h
 have HK : Hid ((hd l).k = 2) := hk
 have hM : exV (n + 1) 4 0 d .nil 0 l = bnd (numVv l) fun v l1 => .ok (nd 1 (hd l).p v [] [] .nil .nil ce, l1) := by
  rw [exV, if_pos hk]
 rw [hM]
 have HPok : Hid (∀ v e w', numVv l = .ok (v, l.tail) → (∃ z o' c', e = .returned z ∧ ExAt (Fr w.heap.size) w' (nd 1 (hd l).p v [] [] .nil .nil ce) z ∧ PS w' P T o' c' l.tail) → Gr P w w' → ExPost w P T (bnd (numVv l) fun v l1 => .ok (nd 1 (hd l).p v [] [] .nil .nil ce, l1)) e w') := fun v e w' h1 h2 h3 => by
  rw [h1]
  exact ⟨h2, h3⟩
 have HPer : Hid (∀ k p e w', numVv l = .error (k, p) → zH k p e w' → Gr P w w' → ExPost w P T (bnd (numVv l) fun v l1 => .ok (nd 1 (hd l).p v [] [] .nil .nil ce, l1)) e w') := fun k p e w' h1 h2 h3 => by
  rw [h1]
  exact ⟨h2, h3⟩
 generalize hG : ExPost w P T (bnd (numVv l) fun v l1 => .ok (nd 1 (hd l).p v [] [] .nil .nil ce, l1)) = G at *
 clear h hk hy hyt hM hG
 go_enter Tryz.func256, Tryz.ntmps256
 go_wp2_with (go_at_call 59; fail)
 refine HF.out.mono ?_
 rintro e w1 ⟨rfl, hb⟩
 have HB1 : Hid (Below w.heap.size w w1) := hb
 clear hb
 go_wp2_with (go_at_call 259; fail)
 obtain ⟨W, hW⟩ : ∃ W, W = (w1.alloc (.cells #[.int .i64 2, .string y, .int .i64 ((hd l).p : Int)] 136)).alloc (.cells #[.int .i64 0, .int .i64 ((hd l).p : Int), .int .i64 0, .string ⟨#[]⟩, .string ⟨#[]⟩, .pointer none, .pointer none, .slice none 0 0] 252) := ⟨_, rfl⟩
 obtain ⟨q, hq⟩ : ∃ q, q = w1.heap.size + 1 := ⟨_, rfl⟩
 have HXW : Hid (W.heap[q]? = some (.cells #[.int .i64 0, .int .i64 ((hd l).p : Int), .int .i64 0, .string ⟨#[]⟩, .string ⟨#[]⟩, .pointer none, .pointer none, .slice none 0 0] 252)) := by
  show _ = _
  rw [hW, hq]
  have := heap_alloc_last (w1.alloc (.cells #[.int .i64 2, .string y, .int .i64 ((hd l).p : Int)] 136)) (.cells #[.int .i64 0, .int .i64 ((hd l).p : Int), .int .i64 0, .string ⟨#[]⟩, .string ⟨#[]⟩, .pointer none, .pointer none, .slice none 0 0] 252)
  simpa using this
 have HQ : Hid (w.heap.size ≤ q ∧ P < q ∧ T < q) := by
  show _ ∧ _
  have := HB1.out.size
  have := HA.out.ltP
  have := HA.out.ltT
  omega
 have HBW : Hid (Below w.heap.size w W) := by
  show Below _ _ _
  rw [hW]
  exact (HB1.out.alloc HB1.out.size _).alloc (by simp; have := HB1.out.size; omega) _
 rw [← hW, ← hq]
 clear hW hq HB1
 refine (num_at (HA.out.below HBW.out) (by rw [HK.out]; decide)).mono ?_
 rintro e w2 (⟨v, hv, rfl, hp, hg⟩ | ⟨hv, ⟨a, rfl, ha⟩, hg⟩)
 rotate_left
 ·exact ⟨rfl, HPer.out _ _ _ _ hv ⟨a, rfl, ha⟩ ((zd HBW.out).trans hg)⟩
 have hx2 := hg.blk HXW.out (by have := HQ.out; omega)
 have f0 := zb hx2 0
 have f2 := zb hx2 2
 have c0 := z_ (i := 0) hx2 rfl
 have c2 := z_ (i := 2) hx2 rfl
 have HX2 : Hid (w2.heap[q]? = some (.cells #[.int .i64 0, .int .i64 ((hd l).p : Int), .int .i64 0, .string ⟨#[]⟩, .string ⟨#[]⟩, .pointer none, .pointer none, .slice none 0 0] 252)) := hx2
 have HP2 : Hid (PS w2 P T (o + 3) (c - 1) l.tail) := hp
 have HG2 : Hid (Gr P w w2) := (zd HBW.out).trans hg
 have HV : Hid (numVv l = .ok (v, l.tail)) := hv
 have hq2 : q < w2.heap.size := (Array.getElem?_eq_some_iff.1 hx2).1
 clear hx2 hp hg hv HXW HBW
 go_wp2
 refine HPok.out v _ _ HV.out ⟨_, _, _, rfl, node_at HQ.out.1 (heap_setCell_same _ _ _ _ _ _ (heap_setCell_same _ _ _ _ _ _ HX2.out)) (qo _ _) (qo _ _), (HP2.out.set HQ.out.2.1 HQ.out.2.2).set HQ.out.2.1 HQ.out.2.2⟩ ((HG2.out.set HQ.out.1).set HQ.out.1)
def argV (n d : Nat) (l : List Tok) : R Tr := if (hd l).t = [41] then .ok (ce, l.tail) else exV n 7 0 d ce 0 l
def ArPost (w : World) (P T : Nat) (r : R Tr) (e : Ending) (w' : World) : Prop :=
 match r with
 | .ok (t, l') => (∃ v ys o' c', e = .returned v ∧ w'.ownsRow w.heap.size 145 1 v ys.length ys ∧ ExAt (Fr w.heap.size) w' t (.tuple ys.toArray) ∧ PS w' P T o' c' l') ∧ Gr P w w'
 | .error (k, p) => zH k p e w' ∧ Gr P w w'
theorem ArPost.parts {w w' : World} {P T : Nat} {r : R Tr} {e : Ending} (h : ArPost w P T r e w') :
  (∃ t l' v ys o' c', r = .ok (t, l') ∧ e = .returned v ∧ w'.ownsRow w.heap.size 145 1 v ys.length ys ∧ ExAt (Fr w.heap.size) w' t (.tuple ys.toArray) ∧ PS w' P T o' c' l' ∧ Gr P w w') ∨ (∃ k p, r = .error (k, p) ∧ zH k p e w' ∧ Gr P w w') := by
 match r, h with
 | .ok (t, l'), ⟨⟨v, ys, o', c', a, b, d, f⟩, g⟩ => exact .inl ⟨t, l', v, ys, o', c', rfl, a, b, d, f, g⟩
 | .error (k, p), ⟨a, b⟩ => exact .inr ⟨k, p, rfl, a, b⟩
def ArgsC (n : Nat) : Prop := ∀ (d : Nat) (w : World) (P T o c : Nat) (l : List Tok), At w P T o c (d + 1) l → 12 * l.length + 10 ≤ n → Calls Tryz.prog 233 #[.pointer (some ⟨P, 0, none⟩), .int .i64 (d : Int)] w (ArPost w P T (argV n d l))
theorem own_mono {w : World} {B B' e z n : Nat} {v : Value} {l : List Value} (h : w.ownsRow B e z v n l) (hb : B' ≤ B) : w.ownsRow B' e z v n l := by
 refine ⟨h.1, ?_⟩
 rcases h.2 with hh | ⟨g, cap, cur, a, b, r⟩
 ·exact .inl hh
 ·exact .inr ⟨g, cap, cur, a, Nat.le_trans hb b, r⟩
theorem set_keeps {m q i : Nat} {w : World} {v : Value} (hq : q < m) (b : Nat) (cs : Array Value) (t : TypeId) (hb : Fr m b) (ht : t = 252 ∨ t = 145) (h : w.heap[b]? = some (.cells cs t)) : (w.setCell ⟨q, i, none⟩ v).heap[b]? = some (.cells cs t) := by
 rw [heap_setCell_other _ _ _ _ (by show b ≠ q; have : m ≤ b := hb; omega)]
 exact h
theorem node_at2 {S : Nat → Prop} {w : World} {b B : Nat} {c a n : Int} {nm op : By} {l r g : Tr} {vl vr vg : Value} {ys : List Value} (hs : S b) (hb : w.heap[b]? = some (.cells #[.int .i64 c, .int .i64 a, .int .i64 n, str nm, str op, vl, vr, vg] 252)) (hl : ExAt S w l vl) (hr : ExAt S w r vr) (ho : w.ownsRow B 145 1 vg ys.length ys) (hS : ∀ i, vg.ownBlock = some i → S i) (hg : ExAt S w g (.tuple ys.toArray)) : ExAt S w (nd c a n nm op l r g) (.pointer (some ⟨b, 0, none⟩)) := by
 rw [ExAt]
 exact ⟨b, vl, vr, vg, ys, hs, rfl, hb, hl, hr, own_mono ho (Nat.zero_le _), hS, hg⟩
theorem leaf_name (n : Nat) (IA : ArgsC n) (d : Nat) (w : World) (P T o c : Nat) (l : List Tok) (h : At w P T o c d l) (hn : 12 * l.length + 1 ≤ n + 1) (hk : (hd l).k = 0) :
  Calls Tryz.prog 256 #[.pointer (some ⟨P, 0, none⟩), .int .i64 (d : Int)] w (ExPost w P T (exV (n + 1) 4 0 d .nil 0 l)) := by
 obtain ⟨y, hy, hyt⟩ := zt (hd l).t
 have HF : Hid (Calls Tryz.prog 59 #[.pointer (some ⟨P, 0, none⟩)] w fun e w' => e = .returned (.agg #[.int .i64 0, .string y, .int .i64 ((hd l).p : Int)]) ∧ Below w.heap.size w w') := by
  have := look_at h y hy w (Below.refl _ _)
  rw [hk] at this
  exact this
 have HA : Hid (At w P T o c d l) := h
 have HY : Hid (str (hd l).t = .string y) := hy
 have HN : Hid (12 * l.length + 1 ≤ n + 1) := hn
 have HIA : Hid (ArgsC n) := IA
 have HM : Hid (exV (n + 1) 4 0 d .nil 0 l = bnd (zI l) fun nm l1 => if (hd l1).t = [40] then bnd (argV n d l1.tail) fun g l2 => .ok (nd 5 (hd l).p 0 nm [] .nil .nil g, l2) else .ok (nd 2 (hd l).p 0 nm [] .nil .nil ce, l1)) := by
  show _ = _
  rw [exV, if_neg (by omega), if_pos hk]
  congr 1
  funext nm l1
  unfold argV
  split
  ·split <;> rfl
  ·rfl
 have HG0 : Hid (∀ e w', ExPost w P T (exV (n + 1) 4 0 d .nil 0 l) e w' → ExPost w P T (exV (n + 1) 4 0 d .nil 0 l) e w') := fun _ _ h => h
 generalize hG : ExPost w P T (exV (n + 1) 4 0 d .nil 0 l) = G at *
 rw [← hG] at HG0
 have HG0 : Hid (∀ e w', ExPost w P T (exV (n + 1) 4 0 d .nil 0 l) e w' → G e w') := fun e w' h => by rw [← hG]; exact h
 clear h hk hy hyt hG hn IA
 go_enter Tryz.func256, Tryz.ntmps256
 go_wp2_with (go_at_call 59; fail)
 refine HF.out.mono ?_
 rintro e w1 ⟨rfl, hb⟩
 have HB1 : Hid (Below w.heap.size w w1) := hb
 clear hb
 go_wp2_with (go_at_call 93; fail)
 obtain ⟨W, hW⟩ : ∃ W, W = (w1.alloc (.cells #[.int .i64 0, .string y, .int .i64 ((hd l).p : Int)] 136)).alloc (.cells #[.int .i64 0, .int .i64 ((hd l).p : Int), .int .i64 0, .string ⟨#[]⟩, .string ⟨#[]⟩, .pointer none, .pointer none, .slice none 0 0] 252) := ⟨_, rfl⟩
 obtain ⟨q, hq⟩ : ∃ q, q = w1.heap.size + 1 := ⟨_, rfl⟩
 have HXW : Hid (W.heap[q]? = some (.cells #[.int .i64 0, .int .i64 ((hd l).p : Int), .int .i64 0, .string ⟨#[]⟩, .string ⟨#[]⟩, .pointer none, .pointer none, .slice none 0 0] 252)) := by
  show _ = _
  rw [hW, hq]
  have := heap_alloc_last (w1.alloc (.cells #[.int .i64 0, .string y, .int .i64 ((hd l).p : Int)] 136)) (.cells #[.int .i64 0, .int .i64 ((hd l).p : Int), .int .i64 0, .string ⟨#[]⟩, .string ⟨#[]⟩, .pointer none, .pointer none, .slice none 0 0] 252)
  simpa using this
 have HQ : Hid (w.heap.size ≤ q ∧ P < q ∧ T < q) := by
  show _ ∧ _
  have := HB1.out.size
  have := HA.out.ltP
  have := HA.out.ltT
  omega
 have HBW : Hid (Below w.heap.size w W) := by
  show Below _ _ _
  rw [hW]
  exact (HB1.out.alloc HB1.out.size _).alloc (by simp; have := HB1.out.size; omega) _
 rw [← hW, ← hq]
 clear hW hq HB1
 have hAW := HA.out.below HBW.out
 refine (nm_at hAW).mono ?_
 rintro e w2 (⟨hv, rfl, hp, hg, he, hlt⟩ | ⟨k, hv, ⟨a, rfl, ha⟩, hg⟩)
 rotate_left
 ·refine ⟨rfl, HG0.out _ _ ?_⟩
  rw [HM.out, hv]
  exact ⟨⟨a, rfl, ha⟩, (zd HBW.out).trans hg⟩
 have hx2 := hg.blk HXW.out (by have := HQ.out; omega)
 have f0 := zb hx2 0
 have f3 := zb hx2 3
 have c0 := z_ (i := 0) hx2 rfl
 have c3 := z_ (i := 3) hx2 rfl
 have HX2 : Hid (w2.heap[q]? = some (.cells #[.int .i64 0, .int .i64 ((hd l).p : Int), .int .i64 0, .string ⟨#[]⟩, .string ⟨#[]⟩, .pointer none, .pointer none, .slice none 0 0] 252)) := hx2
 have HP2 : Hid (PS w2 P T (o + 3) (c - 1) l.tail) := hp
 have HG2 : Hid (Gr P w w2) := (zd HBW.out).trans hg
 have HV : Hid (zI l = .ok ((hd l).t, l.tail)) := hv
 have HE : Hid (Ends l.tail) := he
 have HL : Hid (l.tail.length < l.length) := hlt
 rw [HY.out]
 clear hx2 hp hg hv HXW HBW hAW he hlt
 go_wp2_with (go_at_call 94; fail)
 obtain ⟨W3, hW3⟩ : ∃ W3, W3 = (w2.setCell ⟨q, 0, none⟩ (.int .i64 2)).setCell ⟨q, 3, none⟩ (.string y) := ⟨_, rfl⟩
 have HX3 : Hid (W3.heap[q]? = some (.cells #[.int .i64 2, .int .i64 ((hd l).p : Int), .int .i64 0, .string y, .string ⟨#[]⟩, .pointer none, .pointer none, .slice none 0 0] 252)) := by
  show _ = _
  rw [hW3]
  exact heap_setCell_same _ _ _ _ _ _ (heap_setCell_same _ _ _ _ _ _ HX2.out)
 have HP3 : Hid (PS W3 P T (o + 3) (c - 1) l.tail) := by
  show PS _ _ _ _ _ _
  rw [hW3]
  exact (HP2.out.set HQ.out.2.1 HQ.out.2.2).set HQ.out.2.1 HQ.out.2.2
 have HG3 : Hid (Gr P w W3) := by
  show Gr _ _ _
  rw [hW3]
  exact (HG2.out.set HQ.out.1).set HQ.out.1
 rw [← hW3]
 clear hW3 HX2 HP2 HG2 f0 f3 c0 c3
 have hA3 : At W3 P T (o + 3) (c - 1) d l.tail := HA.out.go HG3.out HP3.out HE.out (by have := HA.out.deep; have := HL.out; omega)
 refine (qW hA3 ⟨#[40]⟩ (by decide)).mono ?_
 rintro e w4 (⟨hv, rfl, hp, hg, he, hlt⟩ | ⟨hv, rfl, hb⟩)
 ·have hx4 := hg.blk HX3.out (by have := HQ.out; omega)
  have HX4 : Hid (w4.heap[q]? = some (.cells #[.int .i64 2, .int .i64 ((hd l).p : Int), .int .i64 0, .string y, .string ⟨#[]⟩, .pointer none, .pointer none, .slice none 0 0] 252)) := hx4
  have HG4 : Hid (Gr P w w4) := HG3.out.trans hg
  have HA4 : Hid (At w4 P T (o + 3 + 3) (c - 1 - 1) (d + 1) l.tail.tail) := HA.out.go HG4.out hp he (by have := HA.out.deep; have := HL.out; omega)
  have HV4 : Hid ((hd l.tail).t = [40]) := hv
  have HL4 : Hid (12 * l.tail.tail.length + 10 ≤ n) := by show _ ≤ _; have := HN.out; have := HL.out; omega
  clear hA3 hx4 hv hp hg he hlt HX3 HP3 HG3
  go_wp2_with (go_at_call 233; fail)
  refine (HIA.out d w4 P T _ _ l.tail.tail HA4.out HL4.out).mono ?_
  intro e w5 hpost
  rcases hpost.parts with ⟨t, l', v, ys, o', c', hr, rfl, ho5, hx5, hp5, hg5⟩ | ⟨k, p, hr, ⟨a, rfl, ha⟩, hg5⟩
  rotate_left
  ·refine ⟨rfl, HG0.out _ _ ?_⟩
   rw [HM.out, HV.out]
   show ExPost w P T (if (hd l.tail).t = [40] then _ else _) _ _
   rw [if_pos HV4.out, hr]
   exact ⟨⟨a, rfl, ha⟩, HG4.out.trans hg5⟩
  have hx5q := hg5.blk HX4.out (by have := HQ.out; omega)
  have f0 := zb hx5q 0
  have f7 := zb hx5q 7
  have c0 := z_ (i := 0) hx5q rfl
  have c7 := z_ (i := 7) hx5q rfl
  have HX5 : Hid (w5.heap[q]? = some (.cells #[.int .i64 2, .int .i64 ((hd l).p : Int), .int .i64 0, .string y, .string ⟨#[]⟩, .pointer none, .pointer none, .slice none 0 0] 252)) := hx5q
  have HP5 : Hid (PS w5 P T o' c' l') := hp5
  have HG5 : Hid (Gr P w w5) := HG4.out.trans hg5
  have HT5 : Hid (ExAt (Fr w4.heap.size) w5 t (.tuple ys.toArray)) := hx5
  have HO5 : Hid (w5.ownsRow w4.heap.size 145 1 v ys.length ys) := ho5
  have HR : Hid (argV n d l.tail.tail = .ok (t, l')) := hr
  have HQ4 : Hid (q < w4.heap.size) := (Array.getElem?_eq_some_iff.1 HX4.out).1
  obtain ⟨qv, cv, rfl⟩ := ze ho5
  clear hpost hr ho5 hx5 hp5 hg5 hx5q HX4
  go_wp2
  refine HG0.out _ _ ?_
  rw [HM.out, HV.out]
  show ExPost w P T (if (hd l.tail).t = [40] then _ else _) _ _
  rw [if_pos HV4.out, HR.out]
  have hk2 : ∀ (b : Nat) (cs : Array Value) (t : TypeId), Fr w4.heap.size b → t = 252 ∨ t = 145 → w5.heap[b]? = some (.cells cs t) → ((w5.setCell ⟨q, 0, none⟩ (.int .i64 5)).setCell ⟨q, 7, none⟩ (.slice qv ys.length cv)).heap[b]? = some (.cells cs t) := fun b cs t hb ht h => set_keeps HQ4.out b cs t hb ht (set_keeps HQ4.out b cs t hb ht h)
  have hs4 : w.heap.size ≤ w4.heap.size := HG4.out.size
  refine ⟨⟨_, o', c', rfl, node_at2 (b := q) (vl := .pointer none) (vr := .pointer none) HQ.out.1 (by rw [HY.out]; exact heap_setCell_same _ _ _ _ _ _ (heap_setCell_same _ _ _ _ _ _ HX5.out)) (qo _ _) (qo _ _) (own_kept hk2 (own_mono HO5.out (Nat.zero_le _)) (fun i hi => (HO5.out.lt i hi).1)) (fun i hi => Nat.le_trans hs4 (HO5.out.lt i hi).1) ((ExAt.kept hk2 _ _ HT5.out).old hs4), (HP5.out.set HQ.out.2.1 HQ.out.2.2).set HQ.out.2.1 HQ.out.2.2⟩, (HG5.out.set HQ.out.1).set HQ.out.1⟩
 ·have hg : Gr P W3 w4 := zd hb
  have HX4 : Hid (w4.heap[q]? = some (.cells #[.int .i64 2, .int .i64 ((hd l).p : Int), .int .i64 0, .string y, .string ⟨#[]⟩, .pointer none, .pointer none, .slice none 0 0] 252)) := hg.blk HX3.out (by have := HQ.out; omega)
  have HG4 : Hid (Gr P w w4) := HG3.out.trans hg
  have HP4 : Hid (PS w4 P T (o + 3) (c - 1) l.tail) := HP3.out.below hb
  have HV4 : Hid (¬ (hd l.tail).t = [40]) := hv
  clear hA3 hg hb hv HX3 HG3 HP3
  go_wp2
  refine HG0.out _ _ ?_
  rw [HM.out, HV.out]
  show ExPost w P T (if (hd l.tail).t = [40] then _ else _) _ _
  rw [if_neg HV4.out]
  exact ⟨⟨_, _, _, rfl, node_at (b := q) HQ.out.1 (by rw [HY.out]; exact HX4.out) (qo _ _) (qo _ _), HP4.out⟩, HG4.out⟩
end Go.Proofs.YtnfhpdbbfejioaaGreatDoor
