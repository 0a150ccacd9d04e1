/- A new node; one, at a mark ahead. -/
import Derived.Test.YtpakgaegckkmnaaGreatDoorTB
namespace Go.Proofs.YtpakgaegckkmnaaGreatDoor
set_option linter.unusedVariables false
set_option linter.unusedSimpArgs false
open Go Go.RowKit

/-- A node without args, in its block. -/
theorem node_at {S : Nat → Prop} {w : World} {b : Nat} {c a n : Int} {nm op : By} {l r : Tr} {vl vr : Value} (hs : S b) (hb : w.heap[b]? = some (.cells #[.int .i64 c, .int .i64 a, .int .i64 n, str nm, str op, vl, vr, .slice none 0 0] 134)) (hl : ExAt S w l vl) (hr : ExAt S w r vr) : ExAt S w (nd c a n nm op l r ce) (.pointer (some ⟨b, 0, none⟩)) := by
  rw [ExAt]
  exact ⟨b, vl, vr, .slice none 0 0, [], hs, rfl, hb, hl, hr, World.ownsRow_nil w _ _ _, fun i hi => (by cases hi), (by rw [ExAt])⟩
theorem nil_at (S : Nat → Prop) (w : World) : ExAt S w .nil (.pointer none) := by rw [ExAt]
/-- A tree stands where a block is new. -/
theorem ex_alloc {S : Nat → Prop} {w : World} {t : Tr} {v : Value} (h : ExAt S w t v) (A : Obj) : ExAt S (w.alloc A) t v :=
  ExAt.kept (fun b cs t _ _ hb => by rw [row_eq_alloc (Array.getElem?_eq_some_iff.1 hb).1]; exact hb) t v h
theorem node_new {S : Nat → Prop} {w : World} {c a n : Int} {nm op : By} {l r : Tr} {vl vr : Value} (hs : S w.heap.size) (hl : ExAt S w l vl) (hr : ExAt S w r vr) : ExAt S (w.alloc (.cells #[.int .i64 c, .int .i64 a, .int .i64 n, str nm, str op, vl, vr, .slice none 0 0] 134)) (nd c a n nm op l r ce) (.pointer (some ⟨w.heap.size, 0, none⟩)) :=
  node_at hs (by show (w.heap.push _)[w.heap.size]? = _; simp) (ex_alloc hl _) (ex_alloc hr _)

def OneC (n : Nat) : Prop := ∀ (d : Nat) (w : World) (P T o c : Nat) (l : List Tok), At w P T o c d l → 12 * l.length + 2 ≤ n → Calls Tryz.prog 102 #[.pointer (some ⟨P, 0, none⟩), .int .i64 (d : Int)] w (ExPost w P T (exV n 2 0 d .nil 0 l))

set_option maxRecDepth 100000 in
set_option maxHeartbeats 2000000 in
/-- bin above the last level is one. -/
theorem bin_last (n : Nat) (IH : OneC n) (d : Nat) (w : World) (P T o c : Nat) (l : List Tok) (h : At w P T o c d l) (hn : 12 * l.length + 2 ≤ n) :
    Calls Tryz.prog 93 #[.pointer (some ⟨P, 0, none⟩), .int .i64 7, .int .i64 (d : Int)] w (ExPost w P T (exV (n + 1) 0 7 d .nil 0 l)) := by
  have HB : Hid (Calls Tryz.prog 102 #[.pointer (some ⟨P, 0, none⟩), .int .i64 (d : Int)] w (ExPost w P T (exV n 2 0 d .nil 0 l))) := IH d w P T o c l h hn
  clear h IH
  have hM : exV (n + 1) 0 7 d .nil 0 l = exV n 2 0 d .nil 0 l := by
    rw [exV]
    simp
  rw [hM]
  cases hr : exV n 2 0 d .nil 0 l with
  | error kp =>
    obtain ⟨k, p⟩ := kp
    rw [hr] at HB
    have HB2 : Hid (Calls Tryz.prog 102 #[.pointer (some ⟨P, 0, none⟩), .int .i64 (d : Int)] w fun e w' => Threw k p e w' ∧ Gr P w w') := HB.out
    have HPo : Hid (∀ e w', Threw k p e w' ∧ Gr P w w' → ExPost w P T (.error (k, p)) e w') := fun e w' h => h
    clear HB hr hM hn
    go_enter Tryz.func93, Tryz.ntmps93
    go_wp2_with (go_at_call 102; refine HB2.out.mono ?_; rintro e w1 ⟨⟨a, rfl, ha⟩, hg⟩; have HA : Hid (w1.heap[a]? = some (.cells #[.int .i64 k, .int .i64 (p : Int)] 78)) := ha; have HG : Hid (Gr P w w1) := hg; clear ha hg)
    exact ⟨rfl, HPo.out _ _ ⟨⟨a, rfl, HA.out⟩, HG.out⟩⟩
  | ok tl =>
    obtain ⟨t, l'⟩ := tl
    rw [hr] at HB
    have HB2 : Hid (Calls Tryz.prog 102 #[.pointer (some ⟨P, 0, none⟩), .int .i64 (d : Int)] w fun e w' => (∃ v o' c', e = .returned v ∧ ExAt (Fr w.heap.size) w' t v ∧ PS w' P T o' c' l') ∧ Gr P w w') := HB.out
    have HPo : Hid (∀ e w', ((∃ v o' c', e = .returned v ∧ ExAt (Fr w.heap.size) w' t v ∧ PS w' P T o' c' l') ∧ Gr P w w') → ExPost w P T (.ok (t, l')) e w') := fun e w' h => h
    clear HB hr hM hn
    go_enter Tryz.func93, Tryz.ntmps93
    go_wp2_with (go_at_call 102; refine HB2.out.mono ?_; rintro e w1 ⟨⟨v, o', c', rfl, hx, hp⟩, hg⟩; have HX : Hid (ExAt (Fr w.heap.size) w1 t v) := hx; have HP : Hid (PS w1 P T o' c' l') := hp; have HG : Hid (Gr P w w1) := hg; clear hx hp hg)
    go_ret
    exact HPo.out _ _ ⟨⟨v, o', c', rfl, HX.out, HP.out⟩, HG.out⟩

set_option maxRecDepth 100000 in
set_option maxHeartbeats 2000000 in
/-- one, too deep. -/
theorem one_deep (n : Nat) (d : Nat) (w : World) (P T o c : Nat) (l : List Tok) (h : At w P T o c d l) (hd1 : 12 < d) (hk : (hd l).k ≠ 3) :
    Calls Tryz.prog 102 #[.pointer (some ⟨P, 0, none⟩), .int .i64 (d : Int)] w (ExPost w P T (exV (n + 1) 2 0 d .nil 0 l)) := by
  have hdd := h.deep
  have hp' : PS w P T o c (hd l :: l.tail) := by rw [← h.ends.cons]; exact h.ps
  have HB : Hid (Calls Tryz.prog 62 #[.pointer (some ⟨P, 0, none⟩), .int .i64 (d : Int)] w fun e w' => Threw 4 (hd l).p e w' ∧ Gr P w w') := (bound_no w P T o c (hd l) l.tail hp' d hd1 (by omega) hk).mono fun e w' ⟨a, b⟩ => ⟨a, gr_below b⟩
  have HPo : Hid (∀ e w', Threw 4 (hd l).p e w' ∧ Gr P w w' → ExPost w P T (exV (n + 1) 2 0 d .nil 0 l) e w') := fun e w' h => by
    rw [exV]
    unfold boundV
    rw [if_pos ⟨hd1, hk⟩]
    exact h
  clear h hdd hp' hk hd1
  go_enter Tryz.func102, Tryz.ntmps102
  go_wp2_with (go_at_call 62; fail)
  refine HB.out.mono ?_
  rintro e w1 ⟨⟨a, rfl, ha⟩, hg⟩
  exact ⟨rfl, HPo.out _ _ ⟨⟨a, rfl, ha⟩, hg⟩⟩

/-- A token that stands there may be looked at, and taken. -/
theorem take_at {w : World} {P T o c d : Nat} {l : List Tok} (h : At w P T o c d l) (x : ByteArray) (hx : (hd l).t = x.data.toList) (hne : x.data.toList ≠ []) (W : World) (hb : Below w.heap.size w W) :
    Calls Tryz.prog 45 #[.pointer (some ⟨P, 0, none⟩), .string x] W fun e w' => e = .returned (.bool true) ∧ PS w' P T (o + 3) (c - 1) l.tail ∧ Gr P w w' := by
  obtain ⟨e1, e2, e3, e4⟩ := h.ends.tail (by rw [hx]; exact hne)
  have hp' : PS W P T o c (hd l :: l.tail) := by rw [← e3]; exact h.ps.below hb
  exact (accept_yes W P T o c (hd l) l.tail hp' e2 x hx).mono fun e w' ⟨a, b, g⟩ => ⟨a, b, (gr_below hb).trans g⟩
theorem pass_at {w : World} {P T o c d : Nat} {l : List Tok} (h : At w P T o c d l) (x : ByteArray) (hx : (hd l).t ≠ x.data.toList) (W : World) (hb : Below w.heap.size w W) :
    Calls Tryz.prog 45 #[.pointer (some ⟨P, 0, none⟩), .string x] W fun e w' => e = .returned (.bool false) ∧ Below w.heap.size w w' := by
  have hp' : PS W P T o c (hd l :: l.tail) := by rw [← h.ends.cons]; exact h.ps.below hb
  exact (accept_no W P T o c (hd l) l.tail hp' x hx).mono fun e w' ⟨a, b⟩ => ⟨a, hb.trans (b.mono hb.size)⟩
theorem look_at {w : World} {P T o c d : Nat} {l : List Tok} (h : At w P T o c d l) (y : ByteArray) (hy : str (hd l).t = .string y) (W : World) (hb : Below w.heap.size w W) :
    Calls Tryz.prog 28 #[.pointer (some ⟨P, 0, none⟩)] W fun e w' => e = .returned (.agg #[.int .i64 ((hd l).k : Int), .string y, .int .i64 ((hd l).p : Int)]) ∧ Below w.heap.size w w' := by
  have hp' : PS W P T o c (hd l :: l.tail) := by rw [← h.ends.cons]; exact h.ps.below hb
  exact (first_y W P T o c (hd l) l.tail hp' y hy).mono fun e w' ⟨a, b⟩ => ⟨a, hb.trans (b.mono hb.size)⟩
theorem bound_at {w : World} {P T o c d : Nat} {l : List Tok} (h : At w P T o c d l) (hk : d ≤ 12 ∨ (hd l).k = 3) :
    Calls Tryz.prog 62 #[.pointer (some ⟨P, 0, none⟩), .int .i64 (d : Int)] w fun e w' => e = .returned (.tuple #[]) ∧ Below w.heap.size w w' := by
  have hdd := h.deep
  have hp' : PS w P T o c (hd l :: l.tail) := by rw [← h.ends.cons]; exact h.ps
  exact bound_yes w P T o c (hd l) l.tail hp' d (by omega) hk
end Go.Proofs.YtpakgaegckkmnaaGreatDoor
