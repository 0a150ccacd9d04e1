/- leaf: what is common; a number. -/
import Derived.Test.YtpakgaegckkmnaaGreatDoorTD
namespace Go.Proofs.YtpakgaegckkmnaaGreatDoor
set_option linter.unusedVariables false
set_option linter.unusedSimpArgs false
open Go Go.RowKit

theorem At.go {w W : World} {P T o c d o' c' d' : Nat} {l l' : List Tok} (h : At w P T o c d l) (hg : Gr P w W) (hp : PS W P T o' c' l') (he : Ends l') (hd : d' + l'.length ≤ 100000) : At W P T o' c' d' l' := ⟨h.env.gr hg h.far, hp, he, h.far, hd⟩
theorem At.below {w W : World} {P T o c d : Nat} {l : List Tok} (h : At w P T o c d l) (hb : Below w.heap.size w W) : At W P T o c d l := h.go (gr_below hb) (h.ps.below hb) h.ends h.deep
theorem At.psc {w : World} {P T o c d : Nat} {l : List Tok} (h : At w P T o c d l) : PS w P T o c (hd l :: l.tail) := by rw [← h.ends.cons]; exact h.ps
theorem At.ltP {w : World} {P T o c d : Nat} {l : List Tok} (h : At w P T o c d l) : P < w.heap.size := (Array.getElem?_eq_some_iff.1 h.ps.own).1
theorem At.ltT {w : World} {P T o c d : Nat} {l : List Tok} (h : At w P T o c d l) : T < w.heap.size := h.psc.ltT
/-- A new block is written. -/
theorem Gr.set {P q i : Nat} {w w' : World} {v : Value} (h : Gr P w w') (hq : w.heap.size ≤ q) : Gr P w (w'.setCell ⟨q, i, none⟩ v) :=
  ⟨h.os, h.tape, h.output, by simp; exact h.size, fun k hk hne => by rw [heap_setCell_other _ _ _ _ (by show k ≠ q; omega)]; exact h.block k hk hne⟩
theorem PS.set {P T o c q i : Nat} {w : World} {v : Value} {l : List Tok} (h : PS w P T o c l) (hP : P < q) (hT : T < q) : PS (w.setCell ⟨q, i, none⟩ v) P T o c l :=
  h.of (heap_setCell_other _ _ _ _ (by show P ≠ q; omega)) (heap_setCell_other _ _ _ _ (by show T ≠ q; omega))

theorem cell_at {w : World} {q i : Nat} {cs : Array Value} {t : TypeId} {v : Value} (h : w.heap[q]? = some (.cells cs t)) (hi : cs[i]? = some v) : w.cell? ⟨q, i, none⟩ = some v := by
  rw [cell_of_row _ _ _ _ _ _ h]; exact hi

/-- The number that stands there. -/
theorem num_yes_at {w : World} {P T o c d : Nat} {l : List Tok} (h : At w P T o c d l) (hk : (hd l).k ≠ 3) (v : Int) (hv : Lib.parseIntB 64 (hd l).t = .ok v) :
    Calls Tryz.prog 113 #[.pointer (some ⟨P, 0, none⟩)] w fun e w' => e = .returned (.int .i64 v) ∧ PS w' P T (o + 3) (c - 1) l.tail ∧ Gr P w w' := by
  obtain ⟨e1, e2, e3, e4⟩ := h.ends.tail (h.ends.kind hk)
  have := h.ends.short
  exact number_yes w P T o c (hd l) l.tail h.psc e2 (by omega) v hv
theorem num_no_at {w : World} {P T o c d : Nat} {l : List Tok} (h : At w P T o c d l) (hv : ∀ v, Lib.parseIntB 64 (hd l).t ≠ .ok v) :
    Calls Tryz.prog 113 #[.pointer (some ⟨P, 0, none⟩)] w fun e w' => Threw 4 (hd l).p e w' ∧ Gr P w w' := by
  have := h.ends.short
  exact (number_no w h.env P T o c (hd l) l.tail h.psc (by omega) hv).mono fun e w' ⟨a, b⟩ => ⟨a, gr_below b⟩
/-- number, one way or the other. -/
theorem num_at {w : World} {P T o c d : Nat} {l : List Tok} (h : At w P T o c d l) (hk : (hd l).k ≠ 3) :
    Calls Tryz.prog 113 #[.pointer (some ⟨P, 0, none⟩)] w fun e w' => (∃ v, numVv l = .ok (v, l.tail) ∧ e = .returned (.int .i64 v) ∧ PS w' P T (o + 3) (c - 1) l.tail ∧ Gr P w w') ∨ (numVv l = .error (4, (hd l).p) ∧ Threw 4 (hd l).p e w' ∧ Gr P w w') := by
  cases hv : Lib.parseIntB 64 (hd l).t with
  | ok v => exact (num_yes_at h hk v hv).mono fun e w' ⟨a, b, g⟩ => .inl ⟨v, by unfold numVv; rw [hv], a, b, g⟩
  | _ => exact (num_no_at h (by intro v; rw [hv]; intro e; cases e)).mono fun e w' ⟨a, g⟩ => .inr ⟨by unfold numVv; rw [hv], a, g⟩

/-- name, one way or the other. -/
theorem nm_at {w : World} {P T o c d : Nat} {l : List Tok} (h : At w P T o c d l) :
    Calls Tryz.prog 44 #[.pointer (some ⟨P, 0, none⟩)] w fun e w' => (nameVv l = .ok ((hd l).t, l.tail) ∧ e = .returned (str (hd l).t) ∧ PS w' P T (o + 3) (c - 1) l.tail ∧ Gr P w w' ∧ Ends l.tail ∧ l.tail.length < l.length) ∨ (∃ k, nameVv l = .error (k, (hd l).p) ∧ Threw k (hd l).p e w' ∧ Gr P w w') := by
  have hsh := h.ends.short
  by_cases hk : (hd l).k = 0
  · by_cases hn : (hd l).t.length ≤ 12
    · obtain ⟨e1, e2, e3, e4⟩ := h.ends.tail (h.ends.kind (by omega))
      refine (name_yes w P T o c (hd l) l.tail h.psc e2 hk hn).mono fun e w' ⟨a, b, g⟩ => .inl ⟨?_, a, b, g, e1, e4⟩
      unfold nameVv
      rw [if_neg (by omega), if_neg (by omega)]
    · refine (name_no w P T o c (hd l) l.tail h.psc 4 (.inr ⟨hk, by omega, rfl⟩) (by omega)).mono fun e w' ⟨a, b⟩ => .inr ⟨4, ?_, a, gr_below b⟩
      unfold nameVv
      rw [if_neg (by omega), if_pos (by omega)]
  · refine (name_no w P T o c (hd l) l.tail h.psc 3 (.inl ⟨hk, rfl⟩) (by omega)).mono fun e w' ⟨a, b⟩ => .inr ⟨3, ?_, a, gr_below b⟩
    unfold nameVv
    rw [if_pos hk]
/-- accept, one way or the other. -/
theorem acc_at {w : World} {P T o c d : Nat} {l : List Tok} (h : At w P T o c d l) (x : ByteArray) (hne : x.data.toList ≠ []) :
    Calls Tryz.prog 45 #[.pointer (some ⟨P, 0, none⟩), .string x] w fun e w' => ((hd l).t = x.data.toList ∧ e = .returned (.bool true) ∧ PS w' P T (o + 3) (c - 1) l.tail ∧ Gr P w w' ∧ Ends l.tail ∧ l.tail.length < l.length) ∨ ((hd l).t ≠ x.data.toList ∧ e = .returned (.bool false) ∧ Below w.heap.size w w') := by
  by_cases hx : (hd l).t = x.data.toList
  · obtain ⟨e1, e2, e3, e4⟩ := h.ends.tail (by rw [hx]; exact hne)
    exact (accept_yes w P T o c (hd l) l.tail h.psc e2 x hx).mono fun e w' ⟨a, b, g⟩ => .inl ⟨hx, a, b, g, e1, e4⟩
  · exact (accept_no w P T o c (hd l) l.tail h.psc x hx).mono fun e w' ⟨a, b⟩ => .inr ⟨hx, a, b⟩
/-- need, one way or the other. -/
theorem nee_at {w : World} {P T o c d : Nat} {l : List Tok} (h : At w P T o c d l) (x : ByteArray) (hne : x.data.toList ≠ []) :
    Calls Tryz.prog 43 #[.pointer (some ⟨P, 0, none⟩), .string x] w fun e w' => (needV x.data.toList l = .ok ((), l.tail) ∧ e = .returned (.tuple #[]) ∧ PS w' P T (o + 3) (c - 1) l.tail ∧ Gr P w w' ∧ Ends l.tail ∧ l.tail.length < l.length) ∨ (needV x.data.toList l = .error (3, (hd l).p) ∧ Threw 3 (hd l).p e w' ∧ Gr P w w') := by
  by_cases hx : (hd l).t = x.data.toList
  · obtain ⟨e1, e2, e3, e4⟩ := h.ends.tail (by rw [hx]; exact hne)
    exact (need_yes w P T o c (hd l) l.tail h.psc e2 x hx).mono fun e w' ⟨a, b, g⟩ => .inl ⟨by unfold needV; rw [if_pos hx], a, b, g, e1, e4⟩
  · exact (need_no w P T o c (hd l) l.tail h.psc x hx).mono fun e w' ⟨a, b⟩ => .inr ⟨by unfold needV; rw [if_neg hx], a, gr_below b⟩

set_option maxRecDepth 100000 in
set_option maxHeartbeats 4000000 in
theorem leaf_num (n : Nat) (d : Nat) (w : World) (P T o c : Nat) (l : List Tok) (h : At w P T o c d l) (hk : (hd l).k = 2) :
    Calls Tryz.prog 110 #[.pointer (some ⟨P, 0, none⟩), .int .i64 (d : Int)] w (ExPost w P T (exV (n + 1) 4 0 d .nil 0 l)) := by
  obtain ⟨y, hy, hyt⟩ := str_y (hd l).t
  have HF : Hid (Calls Tryz.prog 28 #[.pointer (some ⟨P, 0, none⟩)] w fun e w' => e = .returned (.agg #[.int .i64 2, .string y, .int .i64 ((hd l).p : Int)]) ∧ Below w.heap.size w w') := by
    have := look_at h y hy w (Below.refl _ _)
    rw [hk] at this
    exact this
  have HA : Hid (At w P T o c d l) := h
  have HK : Hid ((hd l).k = 2) := hk
  have hM : exV (n + 1) 4 0 d .nil 0 l = bnd (numVv l) fun v l1 => .ok (nd 1 (hd l).p v [] [] .nil .nil ce, l1) := by
    rw [exV, if_pos hk]
  rw [hM]
  have HPok : Hid (∀ v e w', numVv l = .ok (v, l.tail) → (∃ z o' c', e = .returned z ∧ ExAt (Fr w.heap.size) w' (nd 1 (hd l).p v [] [] .nil .nil ce) z ∧ PS w' P T o' c' l.tail) → Gr P w w' → ExPost w P T (bnd (numVv l) fun v l1 => .ok (nd 1 (hd l).p v [] [] .nil .nil ce, l1)) e w') := fun v e w' h1 h2 h3 => by
    rw [h1]
    exact ⟨h2, h3⟩
  have HPer : Hid (∀ k p e w', numVv l = .error (k, p) → Threw k p e w' → Gr P w w' → ExPost w P T (bnd (numVv l) fun v l1 => .ok (nd 1 (hd l).p v [] [] .nil .nil ce, l1)) e w') := fun k p e w' h1 h2 h3 => by
    rw [h1]
    exact ⟨h2, h3⟩
  generalize hG : ExPost w P T (bnd (numVv l) fun v l1 => .ok (nd 1 (hd l).p v [] [] .nil .nil ce, l1)) = G at *
  clear h hk hy hyt hM hG
  go_enter Tryz.func110, Tryz.ntmps110
  go_wp2_with (go_at_call 28; fail)
  refine HF.out.mono ?_
  rintro e w1 ⟨rfl, hb⟩
  have HB1 : Hid (Below w.heap.size w w1) := hb
  clear hb
  go_wp2_with (go_at_call 113; fail)
  obtain ⟨W, hW⟩ : ∃ W, W = (w1.alloc (.cells #[.int .i64 2, .string y, .int .i64 ((hd l).p : Int)] 75)).alloc (.cells #[.int .i64 0, .int .i64 ((hd l).p : Int), .int .i64 0, .string ⟨#[]⟩, .string ⟨#[]⟩, .pointer none, .pointer none, .slice none 0 0] 134) := ⟨_, rfl⟩
  obtain ⟨q, hq⟩ : ∃ q, q = w1.heap.size + 1 := ⟨_, rfl⟩
  have HXW : Hid (W.heap[q]? = some (.cells #[.int .i64 0, .int .i64 ((hd l).p : Int), .int .i64 0, .string ⟨#[]⟩, .string ⟨#[]⟩, .pointer none, .pointer none, .slice none 0 0] 134)) := by
    show _ = _
    rw [hW, hq]
    have := heap_alloc_last (w1.alloc (.cells #[.int .i64 2, .string y, .int .i64 ((hd l).p : Int)] 75)) (.cells #[.int .i64 0, .int .i64 ((hd l).p : Int), .int .i64 0, .string ⟨#[]⟩, .string ⟨#[]⟩, .pointer none, .pointer none, .slice none 0 0] 134)
    simpa using this
  have HQ : Hid (w.heap.size ≤ q ∧ P < q ∧ T < q) := by
    show _ ∧ _
    have := HB1.out.size
    have := HA.out.ltP
    have := HA.out.ltT
    omega
  have HBW : Hid (Below w.heap.size w W) := by
    show Below _ _ _
    rw [hW]
    exact (HB1.out.alloc HB1.out.size _).alloc (by simp; have := HB1.out.size; omega) _
  rw [← hW, ← hq]
  clear hW hq HB1
  refine (num_at (HA.out.below HBW.out) (by rw [HK.out]; decide)).mono ?_
  rintro e w2 (⟨v, hv, rfl, hp, hg⟩ | ⟨hv, ⟨a, rfl, ha⟩, hg⟩)
  rotate_left
  · exact ⟨rfl, HPer.out _ _ _ _ hv ⟨a, rfl, ha⟩ ((gr_below HBW.out).trans hg)⟩
  have hx2 := hg.blk HXW.out (by have := HQ.out; omega)
  have f0 := row_free hx2 0
  have f2 := row_free hx2 2
  have c0 := cell_at (i := 0) hx2 rfl
  have c2 := cell_at (i := 2) hx2 rfl
  have HX2 : Hid (w2.heap[q]? = some (.cells #[.int .i64 0, .int .i64 ((hd l).p : Int), .int .i64 0, .string ⟨#[]⟩, .string ⟨#[]⟩, .pointer none, .pointer none, .slice none 0 0] 134)) := hx2
  have HP2 : Hid (PS w2 P T (o + 3) (c - 1) l.tail) := hp
  have HG2 : Hid (Gr P w w2) := (gr_below HBW.out).trans hg
  have HV : Hid (numVv l = .ok (v, l.tail)) := hv
  have hq2 : q < w2.heap.size := (Array.getElem?_eq_some_iff.1 hx2).1
  clear hx2 hp hg hv HXW HBW
  go_wp2
  refine HPok.out v _ _ HV.out ⟨_, _, _, rfl, node_at HQ.out.1 (heap_setCell_same _ _ _ _ _ _ (heap_setCell_same _ _ _ _ _ _ HX2.out)) (nil_at _ _) (nil_at _ _), (HP2.out.set HQ.out.2.1 HQ.out.2.2).set HQ.out.2.1 HQ.out.2.2⟩ ((HG2.out.set HQ.out.1).set HQ.out.1)
end Go.Proofs.YtpakgaegckkmnaaGreatDoor
