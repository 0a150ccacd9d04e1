/- TF TG TH -/
import Derived.Test.YtnfhpdbbfejioaaGreatDoorE05
namespace Go.Proofs.YtnfhpdbbfejioaaGreatDoor
set_option linter.unusedVariables false
set_option linter.unusedSimpArgs false
set_option maxRecDepth 100000
set_option maxHeartbeats 16000000
open Go Go.RowKit
theorem At.go {w W : World} {P T o c d o' c' d' : Nat} {l l' : List Tok} (h : At w P T o c d l) (hg : Gr P w W) (hp : PS W P T o' c' l') (he : Ends l') (hd : d' + l'.length ≤ 100000) : At W P T o' c' d' l' := ⟨h.env.gr hg h.far, hp, he, h.far, hd⟩
theorem At.below {w W : World} {P T o c d : Nat} {l : List Tok} (h : At w P T o c d l) (hb : Below w.heap.size w W) : At W P T o c d l := h.go (ze hb) (h.ps.below hb) h.ends h.deep
theorem At.psc {w : World} {P T o c d : Nat} {l : List Tok} (h : At w P T o c d l) : PS w P T o c (hd l :: l.tail) := by rw [← h.ends.cons]; exact h.ps
theorem At.ltP {w : World} {P T o c d : Nat} {l : List Tok} (h : At w P T o c d l) : P < w.heap.size := (Array.getElem?_eq_some_iff.1 h.ps.own).1
theorem At.ltT {w : World} {P T o c d : Nat} {l : List Tok} (h : At w P T o c d l) : T < w.heap.size := h.psc.ltT
theorem Gr.set {P q i : Nat} {w w' : World} {v : Value} (h : Gr P w w') (hq : w.heap.size ≤ q) : Gr P w (w'.setCell ⟨q, i, none⟩ v) :=
 ⟨h.os, h.tape, h.output, by simp; exact h.size, fun k hk hne => by rw [heap_setCell_other _ _ _ _ (by show k ≠ q; omega)]; exact h.block k hk hne⟩
theorem PS.set {P T o c q i : Nat} {w : World} {v : Value} {l : List Tok} (h : PS w P T o c l) (hP : P < q) (hT : T < q) : PS (w.setCell ⟨q, i, none⟩ v) P T o c l :=
 h.of (heap_setCell_other _ _ _ _ (by show P ≠ q; omega)) (heap_setCell_other _ _ _ _ (by show T ≠ q; omega))
theorem z_ {w : World} {q i : Nat} {cs : Array Value} {t : TypeId} {v : Value} (h : w.heap[q]? = some (.cells cs t)) (hi : cs[i]? = some v) : w.cell? ⟨q, i, none⟩ = some v := by
 rw [cell_of_row _ _ _ _ _ _ h]; exact hi
theorem num_yes_at {w : World} {P T o c d : Nat} {l : List Tok} (h : At w P T o c d l) (hk : (hd l).k ≠ 3) (v : Int) (hv : Lib.parseIntB 64 (hd l).t = .ok v) :
  Calls Tryz.prog 259 #[.pointer (some ⟨P, 0, none⟩)] w fun e w' => e = .returned (.int .i64 v) ∧ PS w' P T (o + 3) (c - 1) l.tail ∧ Gr P w w' := by
 obtain ⟨e1, e2, e3, e4⟩ := h.ends.tail (h.ends.kind hk)
 have := h.ends.short
 exact number_yes w P T o c (hd l) l.tail h.psc e2 (by omega) v hv
theorem num_no_at {w : World} {P T o c d : Nat} {l : List Tok} (h : At w P T o c d l) (hv : ∀ v, Lib.parseIntB 64 (hd l).t ≠ .ok v) :
  Calls Tryz.prog 259 #[.pointer (some ⟨P, 0, none⟩)] w fun e w' => zC 4 (hd l).p e w' ∧ Gr P w w' := by
 have := h.ends.short
 exact (number_no w h.env P T o c (hd l) l.tail h.psc (by omega) hv).mono fun e w' ⟨a, b⟩ => ⟨a, ze b⟩
theorem num_at {w : World} {P T o c d : Nat} {l : List Tok} (h : At w P T o c d l) (hk : (hd l).k ≠ 3) :
  Calls Tryz.prog 259 #[.pointer (some ⟨P, 0, none⟩)] w fun e w' => (∃ v, numVv l = .ok (v, l.tail) ∧ e = .returned (.int .i64 v) ∧ PS w' P T (o + 3) (c - 1) l.tail ∧ Gr P w w') ∨ (numVv l = .error (4, (hd l).p) ∧ zC 4 (hd l).p e w' ∧ Gr P w w') := by
 cases hv : Lib.parseIntB 64 (hd l).t with
 | ok v => exact (num_yes_at h hk v hv).mono fun e w' ⟨a, b, g⟩ => .inl ⟨v, by unfold numVv; rw [hv], a, b, g⟩
 | _ => exact (num_no_at h (by intro v; rw [hv]; intro e; cases e)).mono fun e w' ⟨a, g⟩ => .inr ⟨by unfold numVv; rw [hv], a, g⟩
theorem nm_at {w : World} {P T o c d : Nat} {l : List Tok} (h : At w P T o c d l) :
  Calls Tryz.prog 93 #[.pointer (some ⟨P, 0, none⟩)] w fun e w' => (zQ l = .ok ((hd l).t, l.tail) ∧ e = .returned (str (hd l).t) ∧ PS w' P T (o + 3) (c - 1) l.tail ∧ Gr P w w' ∧ Ends l.tail ∧ l.tail.length < l.length) ∨ (∃ k, zQ l = .error (k, (hd l).p) ∧ zC k (hd l).p e w' ∧ Gr P w w') := by
 have hsh := h.ends.short
 by_cases hk : (hd l).k = 0
 ·by_cases hn : (hd l).t.length ≤ 12
  ·obtain ⟨e1, e2, e3, e4⟩ := h.ends.tail (h.ends.kind (by omega))
   refine (name_yes w P T o c (hd l) l.tail h.psc e2 hk hn).mono fun e w' ⟨a, b, g⟩ => .inl ⟨?_, a, b, g, e1, e4⟩
   unfold zQ
   rw [if_neg (by omega), if_neg (by omega)]
  ·refine (name_no w P T o c (hd l) l.tail h.psc 4 (.inr ⟨hk, by omega, rfl⟩) (by omega)).mono fun e w' ⟨a, b⟩ => .inr ⟨4, ?_, a, ze b⟩
   unfold zQ
   rw [if_neg (by omega), if_pos (by omega)]
 ·refine (name_no w P T o c (hd l) l.tail h.psc 3 (.inl ⟨hk, rfl⟩) (by omega)).mono fun e w' ⟨a, b⟩ => .inr ⟨3, ?_, a, ze b⟩
  unfold zQ
  rw [if_pos hk]
theorem qH {w : World} {P T o c d : Nat} {l : List Tok} (h : At w P T o c d l) (x : ByteArray) (hne : x.data.toList ≠ []) :
  Calls Tryz.prog 94 #[.pointer (some ⟨P, 0, none⟩), .string x] w fun e w' => ((hd l).t = x.data.toList ∧ e = .returned (.bool true) ∧ PS w' P T (o + 3) (c - 1) l.tail ∧ Gr P w w' ∧ Ends l.tail ∧ l.tail.length < l.length) ∨ ((hd l).t ≠ x.data.toList ∧ e = .returned (.bool false) ∧ Below w.heap.size w w') := by
 by_cases hx : (hd l).t = x.data.toList
 ·obtain ⟨e1, e2, e3, e4⟩ := h.ends.tail (by rw [hx]; exact hne)
  exact (accept_yes w P T o c (hd l) l.tail h.psc e2 x hx).mono fun e w' ⟨a, b, g⟩ => .inl ⟨hx, a, b, g, e1, e4⟩
 ·exact (accept_no w P T o c (hd l) l.tail h.psc x hx).mono fun e w' ⟨a, b⟩ => .inr ⟨hx, a, b⟩
theorem nee_at {w : World} {P T o c d : Nat} {l : List Tok} (h : At w P T o c d l) (x : ByteArray) (hne : x.data.toList ≠ []) :
  Calls Tryz.prog 92 #[.pointer (some ⟨P, 0, none⟩), .string x] w fun e w' => (zh x.data.toList l = .ok ((), l.tail) ∧ e = .returned (.tuple #[]) ∧ PS w' P T (o + 3) (c - 1) l.tail ∧ Gr P w w' ∧ Ends l.tail ∧ l.tail.length < l.length) ∨ (zh x.data.toList l = .error (3, (hd l).p) ∧ zC 3 (hd l).p e w' ∧ Gr P w w') := by
 by_cases hx : (hd l).t = x.data.toList
 ·obtain ⟨e1, e2, e3, e4⟩ := h.ends.tail (by rw [hx]; exact hne)
  exact (need_yes w P T o c (hd l) l.tail h.psc e2 x hx).mono fun e w' ⟨a, b, g⟩ => .inl ⟨by unfold zh; rw [if_pos hx], a, b, g, e1, e4⟩
 ·exact (need_no w P T o c (hd l) l.tail h.psc x hx).mono fun e w' ⟨a, b⟩ => .inr ⟨by unfold zh; rw [if_neg hx], a, ze b⟩
theorem leaf_num (n : Nat) (d : Nat) (w : World) (P T o c : Nat) (l : List Tok) (h : At w P T o c d l) (hk : (hd l).k = 2) :
  Calls Tryz.prog 256 #[.pointer (some ⟨P, 0, none⟩), .int .i64 (d : Int)] w (ExPost w P T (exV (n + 1) 4 0 d .nil 0 l)) := by
 obtain ⟨y, hy, hyt⟩ := zM (hd l).t
 have HF : Hid (Calls Tryz.prog 59 #[.pointer (some ⟨P, 0, none⟩)] w fun e w' => e = .returned (.agg #[.int .i64 2, .string y, .int .i64 ((hd l).p : Int)]) ∧ Below w.heap.size w w') := by
  have := look_at h y hy w (Below.refl _ _)
  rw [hk] at this
  exact this
 have HA : Hid (At w P T o c d l) := h
 have HK : Hid ((hd l).k = 2) := hk
 have hM : exV (n + 1) 4 0 d .nil 0 l = bnd (numVv l) fun v l1 => .ok (nd 1 (hd l).p v [] [] .nil .nil ce, l1) := by
  rw [exV, if_pos hk]
 rw [hM]
 have HPok : Hid (∀ v e w', numVv l = .ok (v, l.tail) → (∃ z o' c', e = .returned z ∧ ExAt (Fr w.heap.size) w' (nd 1 (hd l).p v [] [] .nil .nil ce) z ∧ PS w' P T o' c' l.tail) → Gr P w w' → ExPost w P T (bnd (numVv l) fun v l1 => .ok (nd 1 (hd l).p v [] [] .nil .nil ce, l1)) e w') := fun v e w' h1 h2 h3 => by
  rw [h1]
  exact ⟨h2, h3⟩
 have HPer : Hid (∀ k p e w', numVv l = .error (k, p) → zC k p e w' → Gr P w w' → ExPost w P T (bnd (numVv l) fun v l1 => .ok (nd 1 (hd l).p v [] [] .nil .nil ce, l1)) e w') := fun k p e w' h1 h2 h3 => by
  rw [h1]
  exact ⟨h2, h3⟩
 generalize hG : ExPost w P T (bnd (numVv l) fun v l1 => .ok (nd 1 (hd l).p v [] [] .nil .nil ce, l1)) = G at *
 clear h hk hy hyt hM hG
 go_enter Tryz.func256, Tryz.ntmps256
 go_wp2_with (go_at_call 59; fail)
 refine HF.out.mono ?_
 rintro e w1 ⟨rfl, hb⟩
 have HB1 : Hid (Below w.heap.size w w1) := hb
 clear hb
 go_wp2_with (go_at_call 259; fail)
 obtain ⟨W, hW⟩ : ∃ W, W = (w1.alloc (.cells #[.int .i64 2, .string y, .int .i64 ((hd l).p : Int)] 136)).alloc (.cells #[.int .i64 0, .int .i64 ((hd l).p : Int), .int .i64 0, .string ⟨#[]⟩, .string ⟨#[]⟩, .pointer none, .pointer none, .slice none 0 0] 252) := ⟨_, rfl⟩
 obtain ⟨q, hq⟩ : ∃ q, q = w1.heap.size + 1 := ⟨_, rfl⟩
 have HXW : Hid (W.heap[q]? = some (.cells #[.int .i64 0, .int .i64 ((hd l).p : Int), .int .i64 0, .string ⟨#[]⟩, .string ⟨#[]⟩, .pointer none, .pointer none, .slice none 0 0] 252)) := by
  show _ = _
  rw [hW, hq]
  have := heap_alloc_last (w1.alloc (.cells #[.int .i64 2, .string y, .int .i64 ((hd l).p : Int)] 136)) (.cells #[.int .i64 0, .int .i64 ((hd l).p : Int), .int .i64 0, .string ⟨#[]⟩, .string ⟨#[]⟩, .pointer none, .pointer none, .slice none 0 0] 252)
  simpa using this
 have HQ : Hid (w.heap.size ≤ q ∧ P < q ∧ T < q) := by
  show _ ∧ _
  have := HB1.out.size
  have := HA.out.ltP
  have := HA.out.ltT
  omega
 have HBW : Hid (Below w.heap.size w W) := by
  show Below _ _ _
  rw [hW]
  exact (HB1.out.alloc HB1.out.size _).alloc (by simp; have := HB1.out.size; omega) _
 rw [← hW, ← hq]
 clear hW hq HB1
 refine (num_at (HA.out.below HBW.out) (by rw [HK.out]; decide)).mono ?_
 rintro e w2 (⟨v, hv, rfl, hp, hg⟩ | ⟨hv, ⟨a, rfl, ha⟩, hg⟩)
 rotate_left
 ·exact ⟨rfl, HPer.out _ _ _ _ hv ⟨a, rfl, ha⟩ ((ze HBW.out).trans hg)⟩
 have hx2 := hg.blk HXW.out (by have := HQ.out; omega)
 have f0 := zb hx2 0
 have f2 := zb hx2 2
 have c0 := z_ (i := 0) hx2 rfl
 have c2 := z_ (i := 2) hx2 rfl
 have HX2 : Hid (w2.heap[q]? = some (.cells #[.int .i64 0, .int .i64 ((hd l).p : Int), .int .i64 0, .string ⟨#[]⟩, .string ⟨#[]⟩, .pointer none, .pointer none, .slice none 0 0] 252)) := hx2
 have HP2 : Hid (PS w2 P T (o + 3) (c - 1) l.tail) := hp
 have HG2 : Hid (Gr P w w2) := (ze HBW.out).trans hg
 have HV : Hid (numVv l = .ok (v, l.tail)) := hv
 have hq2 : q < w2.heap.size := (Array.getElem?_eq_some_iff.1 hx2).1
 clear hx2 hp hg hv HXW HBW
 go_wp2
 refine HPok.out v _ _ HV.out ⟨_, _, _, rfl, node_at HQ.out.1 (heap_setCell_same _ _ _ _ _ _ (heap_setCell_same _ _ _ _ _ _ HX2.out)) (qj _ _) (qj _ _), (HP2.out.set HQ.out.2.1 HQ.out.2.2).set HQ.out.2.1 HQ.out.2.2⟩ ((HG2.out.set HQ.out.1).set HQ.out.1)
def argV (n d : Nat) (l : List Tok) : R Tr := if (hd l).t = [41] then .ok (ce, l.tail) else exV n 7 0 d ce 0 l
def ArPost (w : World) (P T : Nat) (r : R Tr) (e : Ending) (w' : World) : Prop :=
 match r with
 | .ok (t, l') => (∃ v ys o' c', e = .returned v ∧ w'.ownsRow w.heap.size 145 1 v ys.length ys ∧ ExAt (Fr w.heap.size) w' t (.tuple ys.toArray) ∧ PS w' P T o' c' l') ∧ Gr P w w'
 | .error (k, p) => zC k p e w' ∧ Gr P w w'
theorem ArPost.parts {w w' : World} {P T : Nat} {r : R Tr} {e : Ending} (h : ArPost w P T r e w') :
  (∃ t l' v ys o' c', r = .ok (t, l') ∧ e = .returned v ∧ w'.ownsRow w.heap.size 145 1 v ys.length ys ∧ ExAt (Fr w.heap.size) w' t (.tuple ys.toArray) ∧ PS w' P T o' c' l' ∧ Gr P w w') ∨ (∃ k p, r = .error (k, p) ∧ zC k p e w' ∧ Gr P w w') := by
 match r, h with
 | .ok (t, l'), ⟨⟨v, ys, o', c', a, b, d, f⟩, g⟩ => exact .inl ⟨t, l', v, ys, o', c', rfl, a, b, d, f, g⟩
 | .error (k, p), ⟨a, b⟩ => exact .inr ⟨k, p, rfl, a, b⟩
def ArgsC (n : Nat) : Prop := ∀ (d : Nat) (w : World) (P T o c : Nat) (l : List Tok), At w P T o c (d + 1) l → 12 * l.length + 10 ≤ n → Calls Tryz.prog 233 #[.pointer (some ⟨P, 0, none⟩), .int .i64 (d : Int)] w (ArPost w P T (argV n d l))
theorem own_mono {w : World} {B B' e z n : Nat} {v : Value} {l : List Value} (h : w.ownsRow B e z v n l) (hb : B' ≤ B) : w.ownsRow B' e z v n l := by
 refine ⟨h.1, ?_⟩
 rcases h.2 with hh | ⟨g, cap, cur, a, b, r⟩
 ·exact .inl hh
 ·exact .inr ⟨g, cap, cur, a, Nat.le_trans hb b, r⟩
theorem set_keeps {m q i : Nat} {w : World} {v : Value} (hq : q < m) (b : Nat) (cs : Array Value) (t : TypeId) (hb : Fr m b) (ht : t = 252 ∨ t = 145) (h : w.heap[b]? = some (.cells cs t)) : (w.setCell ⟨q, i, none⟩ v).heap[b]? = some (.cells cs t) := by
 rw [heap_setCell_other _ _ _ _ (by show b ≠ q; have : m ≤ b := hb; omega)]
 exact h
theorem node_at2 {S : Nat → Prop} {w : World} {b B : Nat} {c a n : Int} {nm op : By} {l r g : Tr} {vl vr vg : Value} {ys : List Value} (hs : S b) (hb : w.heap[b]? = some (.cells #[.int .i64 c, .int .i64 a, .int .i64 n, str nm, str op, vl, vr, vg] 252)) (hl : ExAt S w l vl) (hr : ExAt S w r vr) (ho : w.ownsRow B 145 1 vg ys.length ys) (hS : ∀ i, vg.ownBlock = some i → S i) (hg : ExAt S w g (.tuple ys.toArray)) : ExAt S w (nd c a n nm op l r g) (.pointer (some ⟨b, 0, none⟩)) := by
 rw [ExAt]
 exact ⟨b, vl, vr, vg, ys, hs, rfl, hb, hl, hr, own_mono ho (Nat.zero_le _), hS, hg⟩
theorem leaf_name (n : Nat) (IA : ArgsC n) (d : Nat) (w : World) (P T o c : Nat) (l : List Tok) (h : At w P T o c d l) (hn : 12 * l.length + 1 ≤ n + 1) (hk : (hd l).k = 0) :
  Calls Tryz.prog 256 #[.pointer (some ⟨P, 0, none⟩), .int .i64 (d : Int)] w (ExPost w P T (exV (n + 1) 4 0 d .nil 0 l)) := by
 obtain ⟨y, hy, hyt⟩ := zM (hd l).t
 have HF : Hid (Calls Tryz.prog 59 #[.pointer (some ⟨P, 0, none⟩)] w fun e w' => e = .returned (.agg #[.int .i64 0, .string y, .int .i64 ((hd l).p : Int)]) ∧ Below w.heap.size w w') := by
  have := look_at h y hy w (Below.refl _ _)
  rw [hk] at this
  exact this
 have HA : Hid (At w P T o c d l) := h
 have HY : Hid (str (hd l).t = .string y) := hy
 have HN : Hid (12 * l.length + 1 ≤ n + 1) := hn
 have HIA : Hid (ArgsC n) := IA
 have HM : Hid (exV (n + 1) 4 0 d .nil 0 l = bnd (zQ l) fun nm l1 => if (hd l1).t = [40] then bnd (argV n d l1.tail) fun g l2 => .ok (nd 5 (hd l).p 0 nm [] .nil .nil g, l2) else .ok (nd 2 (hd l).p 0 nm [] .nil .nil ce, l1)) := by
  show _ = _
  rw [exV, if_neg (by omega), if_pos hk]
  congr 1
  funext nm l1
  unfold argV
  split
  ·split <;> rfl
  ·rfl
 have HG0 : Hid (∀ e w', ExPost w P T (exV (n + 1) 4 0 d .nil 0 l) e w' → ExPost w P T (exV (n + 1) 4 0 d .nil 0 l) e w') := fun _ _ h => h
 generalize hG : ExPost w P T (exV (n + 1) 4 0 d .nil 0 l) = G at *
 rw [← hG] at HG0
 have HG0 : Hid (∀ e w', ExPost w P T (exV (n + 1) 4 0 d .nil 0 l) e w' → G e w') := fun e w' h => by rw [← hG]; exact h
 clear h hk hy hyt hG hn IA
 go_enter Tryz.func256, Tryz.ntmps256
 go_wp2_with (go_at_call 59; fail)
 refine HF.out.mono ?_
 rintro e w1 ⟨rfl, hb⟩
 have HB1 : Hid (Below w.heap.size w w1) := hb
 clear hb
 go_wp2_with (go_at_call 93; fail)
 obtain ⟨W, hW⟩ : ∃ W, W = (w1.alloc (.cells #[.int .i64 0, .string y, .int .i64 ((hd l).p : Int)] 136)).alloc (.cells #[.int .i64 0, .int .i64 ((hd l).p : Int), .int .i64 0, .string ⟨#[]⟩, .string ⟨#[]⟩, .pointer none, .pointer none, .slice none 0 0] 252) := ⟨_, rfl⟩
 obtain ⟨q, hq⟩ : ∃ q, q = w1.heap.size + 1 := ⟨_, rfl⟩
 have HXW : Hid (W.heap[q]? = some (.cells #[.int .i64 0, .int .i64 ((hd l).p : Int), .int .i64 0, .string ⟨#[]⟩, .string ⟨#[]⟩, .pointer none, .pointer none, .slice none 0 0] 252)) := by
  show _ = _
  rw [hW, hq]
  have := heap_alloc_last (w1.alloc (.cells #[.int .i64 0, .string y, .int .i64 ((hd l).p : Int)] 136)) (.cells #[.int .i64 0, .int .i64 ((hd l).p : Int), .int .i64 0, .string ⟨#[]⟩, .string ⟨#[]⟩, .pointer none, .pointer none, .slice none 0 0] 252)
  simpa using this
 have HQ : Hid (w.heap.size ≤ q ∧ P < q ∧ T < q) := by
  show _ ∧ _
  have := HB1.out.size
  have := HA.out.ltP
  have := HA.out.ltT
  omega
 have HBW : Hid (Below w.heap.size w W) := by
  show Below _ _ _
  rw [hW]
  exact (HB1.out.alloc HB1.out.size _).alloc (by simp; have := HB1.out.size; omega) _
 rw [← hW, ← hq]
 clear hW hq HB1
 have hAW := HA.out.below HBW.out
 refine (nm_at hAW).mono ?_
 rintro e w2 (⟨hv, rfl, hp, hg, he, hlt⟩ | ⟨k, hv, ⟨a, rfl, ha⟩, hg⟩)
 rotate_left
 ·refine ⟨rfl, HG0.out _ _ ?_⟩
  rw [HM.out, hv]
  exact ⟨⟨a, rfl, ha⟩, (ze HBW.out).trans hg⟩
 have hx2 := hg.blk HXW.out (by have := HQ.out; omega)
 have f0 := zb hx2 0
 have f3 := zb hx2 3
 have c0 := z_ (i := 0) hx2 rfl
 have c3 := z_ (i := 3) hx2 rfl
 have HX2 : Hid (w2.heap[q]? = some (.cells #[.int .i64 0, .int .i64 ((hd l).p : Int), .int .i64 0, .string ⟨#[]⟩, .string ⟨#[]⟩, .pointer none, .pointer none, .slice none 0 0] 252)) := hx2
 have HP2 : Hid (PS w2 P T (o + 3) (c - 1) l.tail) := hp
 have HG2 : Hid (Gr P w w2) := (ze HBW.out).trans hg
 have HV : Hid (zQ l = .ok ((hd l).t, l.tail)) := hv
 have HE : Hid (Ends l.tail) := he
 have HL : Hid (l.tail.length < l.length) := hlt
 rw [HY.out]
 clear hx2 hp hg hv HXW HBW hAW he hlt
 go_wp2_with (go_at_call 94; fail)
 obtain ⟨W3, hW3⟩ : ∃ W3, W3 = (w2.setCell ⟨q, 0, none⟩ (.int .i64 2)).setCell ⟨q, 3, none⟩ (.string y) := ⟨_, rfl⟩
 have HX3 : Hid (W3.heap[q]? = some (.cells #[.int .i64 2, .int .i64 ((hd l).p : Int), .int .i64 0, .string y, .string ⟨#[]⟩, .pointer none, .pointer none, .slice none 0 0] 252)) := by
  show _ = _
  rw [hW3]
  exact heap_setCell_same _ _ _ _ _ _ (heap_setCell_same _ _ _ _ _ _ HX2.out)
 have HP3 : Hid (PS W3 P T (o + 3) (c - 1) l.tail) := by
  show PS _ _ _ _ _ _
  rw [hW3]
  exact (HP2.out.set HQ.out.2.1 HQ.out.2.2).set HQ.out.2.1 HQ.out.2.2
 have HG3 : Hid (Gr P w W3) := by
  show Gr _ _ _
  rw [hW3]
  exact (HG2.out.set HQ.out.1).set HQ.out.1
 rw [← hW3]
 clear hW3 HX2 HP2 HG2 f0 f3 c0 c3
 have hA3 : At W3 P T (o + 3) (c - 1) d l.tail := HA.out.go HG3.out HP3.out HE.out (by have := HA.out.deep; have := HL.out; omega)
 refine (qH hA3 ⟨#[40]⟩ (by decide)).mono ?_
 rintro e w4 (⟨hv, rfl, hp, hg, he, hlt⟩ | ⟨hv, rfl, hb⟩)
 ·have hx4 := hg.blk HX3.out (by have := HQ.out; omega)
  have HX4 : Hid (w4.heap[q]? = some (.cells #[.int .i64 2, .int .i64 ((hd l).p : Int), .int .i64 0, .string y, .string ⟨#[]⟩, .pointer none, .pointer none, .slice none 0 0] 252)) := hx4
  have HG4 : Hid (Gr P w w4) := HG3.out.trans hg
  have HA4 : Hid (At w4 P T (o + 3 + 3) (c - 1 - 1) (d + 1) l.tail.tail) := HA.out.go HG4.out hp he (by have := HA.out.deep; have := HL.out; omega)
  have HV4 : Hid ((hd l.tail).t = [40]) := hv
  have HL4 : Hid (12 * l.tail.tail.length + 10 ≤ n) := by show _ ≤ _; have := HN.out; have := HL.out; omega
  clear hA3 hx4 hv hp hg he hlt HX3 HP3 HG3
  go_wp2_with (go_at_call 233; fail)
  refine (HIA.out d w4 P T _ _ l.tail.tail HA4.out HL4.out).mono ?_
  intro e w5 hpost
  rcases hpost.parts with ⟨t, l', v, ys, o', c', hr, rfl, ho5, hx5, hp5, hg5⟩ | ⟨k, p, hr, ⟨a, rfl, ha⟩, hg5⟩
  rotate_left
  ·refine ⟨rfl, HG0.out _ _ ?_⟩
   rw [HM.out, HV.out]
   show ExPost w P T (if (hd l.tail).t = [40] then _ else _) _ _
   rw [if_pos HV4.out, hr]
   exact ⟨⟨a, rfl, ha⟩, HG4.out.trans hg5⟩
  have hx5q := hg5.blk HX4.out (by have := HQ.out; omega)
  have f0 := zb hx5q 0
  have f7 := zb hx5q 7
  have c0 := z_ (i := 0) hx5q rfl
  have c7 := z_ (i := 7) hx5q rfl
  have HX5 : Hid (w5.heap[q]? = some (.cells #[.int .i64 2, .int .i64 ((hd l).p : Int), .int .i64 0, .string y, .string ⟨#[]⟩, .pointer none, .pointer none, .slice none 0 0] 252)) := hx5q
  have HP5 : Hid (PS w5 P T o' c' l') := hp5
  have HG5 : Hid (Gr P w w5) := HG4.out.trans hg5
  have HT5 : Hid (ExAt (Fr w4.heap.size) w5 t (.tuple ys.toArray)) := hx5
  have HO5 : Hid (w5.ownsRow w4.heap.size 145 1 v ys.length ys) := ho5
  have HR : Hid (argV n d l.tail.tail = .ok (t, l')) := hr
  have HQ4 : Hid (q < w4.heap.size) := (Array.getElem?_eq_some_iff.1 HX4.out).1
  obtain ⟨qv, cv, rfl⟩ := zd ho5
  clear hpost hr ho5 hx5 hp5 hg5 hx5q HX4
  go_wp2
  refine HG0.out _ _ ?_
  rw [HM.out, HV.out]
  show ExPost w P T (if (hd l.tail).t = [40] then _ else _) _ _
  rw [if_pos HV4.out, HR.out]
  have hk2 : ∀ (b : Nat) (cs : Array Value) (t : TypeId), Fr w4.heap.size b → t = 252 ∨ t = 145 → w5.heap[b]? = some (.cells cs t) → ((w5.setCell ⟨q, 0, none⟩ (.int .i64 5)).setCell ⟨q, 7, none⟩ (.slice qv ys.length cv)).heap[b]? = some (.cells cs t) := fun b cs t hb ht h => set_keeps HQ4.out b cs t hb ht (set_keeps HQ4.out b cs t hb ht h)
  have hs4 : w.heap.size ≤ w4.heap.size := HG4.out.size
  refine ⟨⟨_, o', c', rfl, node_at2 (b := q) (vl := .pointer none) (vr := .pointer none) HQ.out.1 (by rw [HY.out]; exact heap_setCell_same _ _ _ _ _ _ (heap_setCell_same _ _ _ _ _ _ HX5.out)) (qj _ _) (qj _ _) (own_kept hk2 (own_mono HO5.out (Nat.zero_le _)) (fun i hi => (HO5.out.lt i hi).1)) (fun i hi => Nat.le_trans hs4 (HO5.out.lt i hi).1) ((ExAt.kept hk2 _ _ HT5.out).old hs4), (HP5.out.set HQ.out.2.1 HQ.out.2.2).set HQ.out.2.1 HQ.out.2.2⟩, (HG5.out.set HQ.out.1).set HQ.out.1⟩
 ·have hg : Gr P W3 w4 := ze hb
  have HX4 : Hid (w4.heap[q]? = some (.cells #[.int .i64 2, .int .i64 ((hd l).p : Int), .int .i64 0, .string y, .string ⟨#[]⟩, .pointer none, .pointer none, .slice none 0 0] 252)) := hg.blk HX3.out (by have := HQ.out; omega)
  have HG4 : Hid (Gr P w w4) := HG3.out.trans hg
  have HP4 : Hid (PS w4 P T (o + 3) (c - 1) l.tail) := HP3.out.below hb
  have HV4 : Hid (¬ (hd l.tail).t = [40]) := hv
  clear hA3 hg hb hv HX3 HG3 HP3
  go_wp2
  refine HG0.out _ _ ?_
  rw [HM.out, HV.out]
  show ExPost w P T (if (hd l.tail).t = [40] then _ else _) _ _
  rw [if_neg HV4.out]
  exact ⟨⟨_, _, _, rfl, node_at (b := q) HQ.out.1 (by rw [HY.out]; exact HX4.out) (qj _ _) (qj _ _), HP4.out⟩, HG4.out⟩
def HeldC (n : Nat) : Prop := ∀ (d : Nat) (w : World) (P T o c : Nat) (l : List Tok), At w P T o c d l → 12 * l.length ≤ n → Calls Tryz.prog 207 #[.pointer (some ⟨P, 0, none⟩), .int .i64 (d : Int)] w (ExPost w P T (exV n 5 0 d .nil 0 l))
theorem leaf_rest (n : Nat) (IH : HeldC n) (d : Nat) (w : World) (P T o c : Nat) (l : List Tok) (h : At w P T o c d l) (hn : 12 * l.length + 1 ≤ n + 1) (hk2 : (hd l).k ≠ 2) (hk0 : (hd l).k ≠ 0) :
  Calls Tryz.prog 256 #[.pointer (some ⟨P, 0, none⟩), .int .i64 (d : Int)] w (ExPost w P T (exV (n + 1) 4 0 d .nil 0 l)) := by
 obtain ⟨y, hy, hyt⟩ := zM (hd l).t
 have HF : Hid (Calls Tryz.prog 59 #[.pointer (some ⟨P, 0, none⟩)] w fun e w' => e = .returned (.agg #[.int .i64 ((hd l).k : Int), .string y, .int .i64 ((hd l).p : Int)]) ∧ Below w.heap.size w w') := look_at h y hy w (Below.refl _ _)
 have HA : Hid (At w P T o c d l) := h
 have HN : Hid (12 * l.length + 1 ≤ n + 1) := hn
 have HIH : Hid (HeldC n) := IH
 have b2 : (((hd l).k : Int) == 2) = false := by simp; omega
 have b0 : (((hd l).k : Int) == 0) = false := by simp; omega
 have HM : Hid (exV (n + 1) 4 0 d .nil 0 l = if (hd l).t = [110, 101, 119] then bnd (exV n 5 0 d .nil 0 l.tail) fun y l1 => .ok (nd 6 (hd l).p 0 [] [] y .nil ce, l1)
   else if (hd l).t = [108, 101, 110] then bnd (exV n 5 0 d .nil 0 l.tail) fun y l1 => .ok (nd 7 (hd l).p 0 [] [] y .nil ce, l1)
   else if (hd l).t = [105, 110, 112, 117, 116] then bnd (zh [40] l.tail) fun _ l1 => bnd (zh [41] l1) fun _ l2 => .ok (nd 9 (hd l).p 0 [] [] .nil .nil ce, l2)
   else exV n 5 0 d .nil 0 l) := by
  show _ = _
  rw [exV, if_neg hk2, if_neg hk0]
 have HG0 : Hid (∀ e w', ExPost w P T (exV (n + 1) 4 0 d .nil 0 l) e w' → ExPost w P T (exV (n + 1) 4 0 d .nil 0 l) e w') := fun _ _ h => h
 generalize hG : ExPost w P T (exV (n + 1) 4 0 d .nil 0 l) = G at *
 clear HG0
 have HG0 : Hid (∀ e w', ExPost w P T (exV (n + 1) 4 0 d .nil 0 l) e w' → G e w') := fun e w' h => by rw [← hG]; exact h
 clear h hk2 hk0 hy hyt hG hn IH
 go_enter Tryz.func256, Tryz.ntmps256
 go_wp2_with (go_at_call 59; fail)
 refine HF.out.mono ?_
 rintro e w1 ⟨rfl, hb⟩
 have HB1 : Hid (Below w.heap.size w w1) := hb
 clear hb
 go_wp2_with (go_at_call 94; fail)
 obtain ⟨W, hW⟩ : ∃ W, W = (w1.alloc (.cells #[.int .i64 ((hd l).k : Int), .string y, .int .i64 ((hd l).p : Int)] 136)).alloc (.cells #[.int .i64 0, .int .i64 ((hd l).p : Int), .int .i64 0, .string ⟨#[]⟩, .string ⟨#[]⟩, .pointer none, .pointer none, .slice none 0 0] 252) := ⟨_, rfl⟩
 obtain ⟨q, hq⟩ : ∃ q, q = w1.heap.size + 1 := ⟨_, rfl⟩
 have HXW : Hid (W.heap[q]? = some (.cells #[.int .i64 0, .int .i64 ((hd l).p : Int), .int .i64 0, .string ⟨#[]⟩, .string ⟨#[]⟩, .pointer none, .pointer none, .slice none 0 0] 252)) := by
  show _ = _
  rw [hW, hq]
  have := heap_alloc_last (w1.alloc (.cells #[.int .i64 ((hd l).k : Int), .string y, .int .i64 ((hd l).p : Int)] 136)) (.cells #[.int .i64 0, .int .i64 ((hd l).p : Int), .int .i64 0, .string ⟨#[]⟩, .string ⟨#[]⟩, .pointer none, .pointer none, .slice none 0 0] 252)
  simpa using this
 have HQ : Hid (w.heap.size ≤ q ∧ P < q ∧ T < q) := by
  show _ ∧ _
  have := HB1.out.size
  have := HA.out.ltP
  have := HA.out.ltT
  omega
 have HBW : Hid (Below w.heap.size w W) := by
  show Below _ _ _
  rw [hW]
  exact (HB1.out.alloc HB1.out.size _).alloc (by simp; have := HB1.out.size; omega) _
 rw [← hW, ← hq]
 clear hW hq HB1
 have hA0 := HA.out.below HBW.out
 refine (qH hA0 ⟨#[110, 101, 119]⟩ (by decide)).mono ?_
 rintro e w2 (⟨hv, rfl, hp, hg, he, hlt⟩ | ⟨hv, rfl, hb⟩)
 ·have HX4 : Hid (w2.heap[q]? = some (.cells #[.int .i64 0, .int .i64 ((hd l).p : Int), .int .i64 0, .string ⟨#[]⟩, .string ⟨#[]⟩, .pointer none, .pointer none, .slice none 0 0] 252)) := hg.blk HXW.out (by have := HQ.out; omega)
  have HG4 : Hid (Gr P w w2) := (ze HBW.out).trans hg
  have HA4 : Hid (At w2 P T (o + 3) (c - 1) d l.tail) := HA.out.go HG4.out hp he (by have := HA.out.deep; omega)
  have HYes : Hid ((hd l).t = [110, 101, 119]) := hv
  have HL4 : Hid (12 * l.tail.length ≤ n) := by show _ ≤ _; have := HN.out; omega
  clear hA0 hv hp hg he hlt HXW HBW
  go_wp2_with (go_at_call 207; fail)
  refine (HIH.out d w2 P T _ _ l.tail HA4.out HL4.out).mono ?_
  intro e w5 hpost
  rcases hpost.parts with ⟨t, l', v, o', c', hr, rfl, hx5, hp5, hg5⟩ | ⟨k, p, hr, ⟨a, rfl, ha⟩, hg5⟩
  rotate_left
  ·refine ⟨rfl, HG0.out _ _ ?_⟩
   rw [HM.out, if_pos HYes.out, hr]
   exact ⟨⟨a, rfl, ha⟩, HG4.out.trans hg5⟩
  obtain ⟨vb, rfl⟩ := IsNd.ptr (zq n 5 0 d .nil 0 l.tail t l' (by omega) (by omega) hr) hx5
  have hx5q := hg5.blk HX4.out (by have := HQ.out; omega)
  have f0 := zb hx5q 0
  have f5 := zb hx5q 5
  have c0 := z_ (i := 0) hx5q rfl
  have c5 := z_ (i := 5) hx5q rfl
  have HX5 : Hid (w5.heap[q]? = some (.cells #[.int .i64 0, .int .i64 ((hd l).p : Int), .int .i64 0, .string ⟨#[]⟩, .string ⟨#[]⟩, .pointer none, .pointer none, .slice none 0 0] 252)) := hx5q
  have HP5 : Hid (PS w5 P T o' c' l') := hp5
  have HG5 : Hid (Gr P w w5) := HG4.out.trans hg5
  have HT5 : Hid (ExAt (Fr w2.heap.size) w5 t (.pointer (some ⟨vb, 0, none⟩))) := hx5
  have HR : Hid (exV n 5 0 d .nil 0 l.tail = .ok (t, l')) := hr
  have HQ4 : Hid (q < w2.heap.size) := (Array.getElem?_eq_some_iff.1 HX4.out).1
  clear hpost hr hx5 hp5 hg5 hx5q HX4
  go_wp2
  refine HG0.out _ _ ?_
  rw [HM.out, if_pos HYes.out, HR.out]
  have hk2 : ∀ (b : Nat) (cs : Array Value) (t : TypeId), Fr w2.heap.size b → t = 252 ∨ t = 145 → w5.heap[b]? = some (.cells cs t) → ((w5.setCell ⟨q, 0, none⟩ (.int .i64 6)).setCell ⟨q, 5, none⟩ (.pointer (some ⟨vb, 0, none⟩))).heap[b]? = some (.cells cs t) := fun b cs t hb ht h => set_keeps HQ4.out b cs t hb ht (set_keeps HQ4.out b cs t hb ht h)
  refine ⟨⟨_, o', c', rfl, node_at (b := q) HQ.out.1 (heap_setCell_same _ _ _ _ _ _ (heap_setCell_same _ _ _ _ _ _ HX5.out)) ((ExAt.kept hk2 _ _ HT5.out).old HG4.out.size) (qj _ _), (HP5.out.set HQ.out.2.1 HQ.out.2.2).set HQ.out.2.1 HQ.out.2.2⟩, (HG5.out.set HQ.out.1).set HQ.out.1⟩
 have HXw2 : Hid (w2.heap[q]? = some (.cells #[.int .i64 0, .int .i64 ((hd l).p : Int), .int .i64 0, .string ⟨#[]⟩, .string ⟨#[]⟩, .pointer none, .pointer none, .slice none 0 0] 252)) := (ze (P := P) hb).blk HXW.out (by have := HQ.out; omega)
 have HBw2 : Hid (Below w.heap.size w w2) := HBW.out.trans (hb.mono HBW.out.size)
 have HNo0 : Hid (¬ (hd l).t = [110, 101, 119]) := hv
 clear hA0 hv hb HXW HBW
 go_wp2_with (go_at_call 94; fail)
 have hA1 := HA.out.below HBw2.out
 refine (qH hA1 ⟨#[108, 101, 110]⟩ (by decide)).mono ?_
 rintro e w3 (⟨hv, rfl, hp, hg, he, hlt⟩ | ⟨hv, rfl, hb⟩)
 ·have HX4 : Hid (w3.heap[q]? = some (.cells #[.int .i64 0, .int .i64 ((hd l).p : Int), .int .i64 0, .string ⟨#[]⟩, .string ⟨#[]⟩, .pointer none, .pointer none, .slice none 0 0] 252)) := hg.blk HXw2.out (by have := HQ.out; omega)
  have HG4 : Hid (Gr P w w3) := (ze HBw2.out).trans hg
  have HA4 : Hid (At w3 P T (o + 3) (c - 1) d l.tail) := HA.out.go HG4.out hp he (by have := HA.out.deep; omega)
  have HYes : Hid ((hd l).t = [108, 101, 110]) := hv
  have HL4 : Hid (12 * l.tail.length ≤ n) := by show _ ≤ _; have := HN.out; omega
  clear hA1 hv hp hg he hlt HXw2 HBw2
  go_wp2_with (go_at_call 207; fail)
  refine (HIH.out d w3 P T _ _ l.tail HA4.out HL4.out).mono ?_
  intro e w5 hpost
  rcases hpost.parts with ⟨t, l', v, o', c', hr, rfl, hx5, hp5, hg5⟩ | ⟨k, p, hr, ⟨a, rfl, ha⟩, hg5⟩
  rotate_left
  ·refine ⟨rfl, HG0.out _ _ ?_⟩
   rw [HM.out, if_neg HNo0.out, if_pos HYes.out, hr]
   exact ⟨⟨a, rfl, ha⟩, HG4.out.trans hg5⟩
  obtain ⟨vb, rfl⟩ := IsNd.ptr (zq n 5 0 d .nil 0 l.tail t l' (by omega) (by omega) hr) hx5
  have hx5q := hg5.blk HX4.out (by have := HQ.out; omega)
  have f0 := zb hx5q 0
  have f5 := zb hx5q 5
  have c0 := z_ (i := 0) hx5q rfl
  have c5 := z_ (i := 5) hx5q rfl
  have HX5 : Hid (w5.heap[q]? = some (.cells #[.int .i64 0, .int .i64 ((hd l).p : Int), .int .i64 0, .string ⟨#[]⟩, .string ⟨#[]⟩, .pointer none, .pointer none, .slice none 0 0] 252)) := hx5q
  have HP5 : Hid (PS w5 P T o' c' l') := hp5
  have HG5 : Hid (Gr P w w5) := HG4.out.trans hg5
  have HT5 : Hid (ExAt (Fr w3.heap.size) w5 t (.pointer (some ⟨vb, 0, none⟩))) := hx5
  have HR : Hid (exV n 5 0 d .nil 0 l.tail = .ok (t, l')) := hr
  have HQ4 : Hid (q < w3.heap.size) := (Array.getElem?_eq_some_iff.1 HX4.out).1
  clear hpost hr hx5 hp5 hg5 hx5q HX4
  go_wp2
  refine HG0.out _ _ ?_
  rw [HM.out, if_neg HNo0.out, if_pos HYes.out, HR.out]
  have hk2 : ∀ (b : Nat) (cs : Array Value) (t : TypeId), Fr w3.heap.size b → t = 252 ∨ t = 145 → w5.heap[b]? = some (.cells cs t) → ((w5.setCell ⟨q, 0, none⟩ (.int .i64 7)).setCell ⟨q, 5, none⟩ (.pointer (some ⟨vb, 0, none⟩))).heap[b]? = some (.cells cs t) := fun b cs t hb ht h => set_keeps HQ4.out b cs t hb ht (set_keeps HQ4.out b cs t hb ht h)
  refine ⟨⟨_, o', c', rfl, node_at (b := q) HQ.out.1 (heap_setCell_same _ _ _ _ _ _ (heap_setCell_same _ _ _ _ _ _ HX5.out)) ((ExAt.kept hk2 _ _ HT5.out).old HG4.out.size) (qj _ _), (HP5.out.set HQ.out.2.1 HQ.out.2.2).set HQ.out.2.1 HQ.out.2.2⟩, (HG5.out.set HQ.out.1).set HQ.out.1⟩
 have HXw3 : Hid (w3.heap[q]? = some (.cells #[.int .i64 0, .int .i64 ((hd l).p : Int), .int .i64 0, .string ⟨#[]⟩, .string ⟨#[]⟩, .pointer none, .pointer none, .slice none 0 0] 252)) := (ze (P := P) hb).blk HXw2.out (by have := HQ.out; omega)
 have HBw3 : Hid (Below w.heap.size w w3) := HBw2.out.trans (hb.mono HBw2.out.size)
 have HNo1 : Hid (¬ (hd l).t = [108, 101, 110]) := hv
 clear hA1 hv hb HXw2 HBw2
 go_wp2_with (go_at_call 94; fail)
 have hA2 := HA.out.below HBw3.out
 refine (qH hA2 ⟨#[105, 110, 112, 117, 116]⟩ (by decide)).mono ?_
 rintro e w4 (⟨hv, rfl, hp, hg, he, hlt⟩ | ⟨hv, rfl, hb⟩)
 ·have hx4 := hg.blk HXw3.out (by have := HQ.out; omega)
  have f0 := zb hx4 0
  have c0 := z_ (i := 0) hx4 rfl
  have HX4 : Hid (w4.heap[q]? = some (.cells #[.int .i64 0, .int .i64 ((hd l).p : Int), .int .i64 0, .string ⟨#[]⟩, .string ⟨#[]⟩, .pointer none, .pointer none, .slice none 0 0] 252)) := hx4
  have HG4 : Hid (Gr P w w4) := (ze HBw3.out).trans hg
  have HP4 : Hid (PS w4 P T (o + 3) (c - 1) l.tail) := hp
  have HE4 : Hid (Ends l.tail) := he
  have HL4 : Hid (l.tail.length < l.length) := hlt
  have HYes : Hid ((hd l).t = [105, 110, 112, 117, 116]) := hv
  clear hA2 hx4 hv hp hg he hlt HXw3 HBw3
  go_wp2_with (go_at_call 92; fail)
  obtain ⟨W5, hW5⟩ : ∃ W5, W5 = w4.setCell ⟨q, 0, none⟩ (.int .i64 9) := ⟨_, rfl⟩
  have HX5 : Hid (W5.heap[q]? = some (.cells #[.int .i64 9, .int .i64 ((hd l).p : Int), .int .i64 0, .string ⟨#[]⟩, .string ⟨#[]⟩, .pointer none, .pointer none, .slice none 0 0] 252)) := by
   show _ = _
   rw [hW5]
   exact heap_setCell_same _ _ _ _ _ _ HX4.out
  have HP5 : Hid (PS W5 P T (o + 3) (c - 1) l.tail) := by
   show PS _ _ _ _ _ _
   rw [hW5]
   exact HP4.out.set HQ.out.2.1 HQ.out.2.2
  have HG5 : Hid (Gr P w W5) := by
   show Gr _ _ _
   rw [hW5]
   exact HG4.out.set HQ.out.1
  rw [← hW5]
  clear hW5 HX4 HP4 HG4 f0 c0
  have hA5 : At W5 P T (o + 3) (c - 1) d l.tail := HA.out.go HG5.out HP5.out HE4.out (by have := HA.out.deep; have := HL4.out; omega)
  refine (nee_at hA5 ⟨#[40]⟩ (by decide)).mono ?_
  rintro e w6 (⟨hv, rfl, hp, hg, he, hlt⟩ | ⟨hv, ⟨a, rfl, ha⟩, hg⟩)
  rotate_left
  ·refine ⟨rfl, HG0.out _ _ ?_⟩
   rw [HM.out, if_neg HNo0.out, if_neg HNo1.out, if_pos HYes.out]
   have hv' : zh [40] l.tail = _ := hv
   rw [hv']
   exact ⟨⟨a, rfl, ha⟩, HG5.out.trans hg⟩
  have HX6 : Hid (w6.heap[q]? = some (.cells #[.int .i64 9, .int .i64 ((hd l).p : Int), .int .i64 0, .string ⟨#[]⟩, .string ⟨#[]⟩, .pointer none, .pointer none, .slice none 0 0] 252)) := hg.blk HX5.out (by have := HQ.out; omega)
  have HG6 : Hid (Gr P w w6) := HG5.out.trans hg
  have HA6 : Hid (At w6 P T (o + 3 + 3) (c - 1 - 1) d l.tail.tail) := HA.out.go HG6.out hp he (by have := HA.out.deep; have := HL4.out; omega)
  have HV6 : Hid (zh [40] l.tail = .ok ((), l.tail.tail)) := hv
  clear hA5 hv hp hg he hlt HX5 HP5 HG5
  go_wp2_with (go_at_call 92; fail)
  refine (nee_at HA6.out ⟨#[41]⟩ (by decide)).mono ?_
  rintro e w7 (⟨hv, rfl, hp, hg, he, hlt⟩ | ⟨hv, ⟨a, rfl, ha⟩, hg⟩)
  rotate_left
  ·refine ⟨rfl, HG0.out _ _ ?_⟩
   rw [HM.out, if_neg HNo0.out, if_neg HNo1.out, if_pos HYes.out, HV6.out]
   have hv' : zh [41] l.tail.tail = _ := hv
   show ExPost w P T (bnd (zh [41] l.tail.tail) _) _ _
   rw [hv']
   exact ⟨⟨a, rfl, ha⟩, HG6.out.trans hg⟩
  have HX7 : Hid (w7.heap[q]? = some (.cells #[.int .i64 9, .int .i64 ((hd l).p : Int), .int .i64 0, .string ⟨#[]⟩, .string ⟨#[]⟩, .pointer none, .pointer none, .slice none 0 0] 252)) := hg.blk HX6.out (by have := HQ.out; omega)
  have HG7 : Hid (Gr P w w7) := HG6.out.trans hg
  have HP7 : Hid (PS w7 P T (o + 3 + 3 + 3) (c - 1 - 1 - 1) l.tail.tail.tail) := hp
  have HV7 : Hid (zh [41] l.tail.tail = .ok ((), l.tail.tail.tail)) := hv
  clear hv hp hg he hlt HX6 HG6 HA6
  go_wp2
  refine HG0.out _ _ ?_
  rw [HM.out, if_neg HNo0.out, if_neg HNo1.out, if_pos HYes.out, HV6.out]
  show ExPost w P T (bnd (zh [41] l.tail.tail) _) _ _
  rw [HV7.out]
  exact ⟨⟨_, _, _, rfl, node_at (b := q) HQ.out.1 HX7.out (qj _ _) (qj _ _), HP7.out⟩, HG7.out⟩
 have HBw4 : Hid (Below w.heap.size w w4) := HBw3.out.trans (hb.mono HBw3.out.size)
 have HNo2 : Hid (¬ (hd l).t = [105, 110, 112, 117, 116]) := hv
 clear hA2 hv hb HXw3 HBw3
 go_wp2_with (go_at_call 207; fail)
 refine (HIH.out d w4 P T _ _ l (HA.out.below HBw4.out) (by have := HN.out; omega)).mono ?_
 intro e w5 hpost
 have hfin : ExPost w P T (exV (n + 1) 4 0 d .nil 0 l) e w5 := by
  rw [HM.out, if_neg HNo0.out, if_neg HNo1.out, if_neg HNo2.out]
  exact ExPost.back (ze HBw4.out) hpost
 rcases hpost.parts with ⟨t, l', v, o', c', hr, rfl, hx5, hp5, hg5⟩ | ⟨k, p, hr, ⟨a, rfl, ha⟩, hg5⟩
 rotate_left
 ·exact ⟨rfl, HG0.out _ _ hfin⟩
 have HFin : Hid (ExPost w P T (exV (n + 1) 4 0 d .nil 0 l) (.returned v) w5) := hfin
 clear hpost hfin hr hx5 hp5 hg5
 go_wp2
 exact HG0.out _ _ HFin.out
end Go.Proofs.YtnfhpdbbfejioaaGreatDoor
