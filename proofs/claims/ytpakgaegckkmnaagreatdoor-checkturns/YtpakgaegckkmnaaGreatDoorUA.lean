/- Plain: statements, blocks, read from tokens. -/
import Derived.Test.YtpakgaegckkmnaaGreatDoorTL
namespace Go.Proofs.YtpakgaegckkmnaaGreatDoor
set_option linter.unusedVariables false
open Go Go.RowKit

/-- A statement: code, place, name, index, value, then, else. -/
abbrev st (c a : Int) (nm : By) (ix v th el : Tr) : Tr := .agg [.lit (.int .i64 c), .lit (.int .i64 a), .lit (.string nm), ix, v, th, el]
/-- So much fuel is enough for expressions. -/
abbrev ef (l : List Tok) : Nat := 12 * l.length + 20
def exprV (l : List Tok) : R Tr := exV (ef l) 0 1 0 .nil 0 l
def heldV (l : List Tok) : R Tr := exV (ef l) 5 0 0 .nil 0 l
def idxV (l : List Tok) : R Tr := exV (ef l) 6 0 0 .nil 0 l
def argsV (l : List Tok) : R Tr := argV (ef l) 0 l
/-- A statement that begins with a name, but its semicolon; its place. -/
def namedV (a : Nat) (l : List Tok) : R Tr :=
  bnd (nameVv l) fun nm l1 =>
    if (hd l1).t = [40] then bnd (argsV l1.tail) fun g l2 => .ok (st 8 a [] .nil (nd 5 a 0 nm [] .nil .nil g) ce ce, l2)
    else if (hd l1).t = [91] then bnd (idxV l1.tail) fun i l2 => bnd (needV [61] l2) fun _ l3 => bnd (exprV l3) fun v l4 => .ok (st 3 a nm i v ce ce, l4)
    else bnd (needV [61] l1) fun _ l3 => bnd (exprV l3) fun v l4 => .ok (st 2 a nm .nil v ce ce, l4)
/-- Fuel; 0 block, 1 its loop, 2 statement; depth. -/
def stV : Nat → Nat → Nat → List Tok → R Tr
  | 0, _, _, _ => .error (0, 0)
  | f + 1, 0, d, l => bnd (boundV d l) fun _ _ => bnd (needV [123] l) fun _ l1 => stV f 1 d l1
  | f + 1, 1, d, l => if (hd l).t = [125] then .ok (ce, l.tail) else bnd (stV f 2 (d + 1) l) fun t l1 => bnd (stV f 1 d l1) fun g l2 => .ok (cc t g, l2)
  | f + 1, 2, d, l =>
    if (hd l).k = 0 then bnd (namedV (hd l).p l) fun t l1 => bnd (needV [59] l1) fun _ l2 => .ok (t, l2)
    else if (hd l).t = [118, 97, 114] then bnd (nameVv l.tail) fun nm l1 => bnd (needV [61] l1) fun _ l2 => bnd (exprV l2) fun v l3 => bnd (needV [59] l3) fun _ l4 => .ok (st 1 (hd l).p nm .nil v ce ce, l4)
    else if (hd l).t = [114, 101, 116, 117, 114, 110] then bnd (exprV l.tail) fun v l3 => bnd (needV [59] l3) fun _ l4 => .ok (st 6 (hd l).p [] .nil v ce ce, l4)
    else if (hd l).t = [112, 114, 105, 110, 116] then bnd (exprV l.tail) fun v l3 => bnd (needV [59] l3) fun _ l4 => .ok (st 7 (hd l).p [] .nil v ce ce, l4)
    else if (hd l).t = [105, 102] then bnd (heldV l.tail) fun v l1 => bnd (stV f 0 d l1) fun th l2 =>
      if (hd l2).t = [101, 108, 115, 101] then bnd (stV f 0 d l2.tail) fun el l3 => .ok (st 4 (hd l).p [] .nil v th el, l3) else .ok (st 4 (hd l).p [] .nil v th ce, l2)
    else if (hd l).t = [119, 104, 105, 108, 101] then bnd (heldV l.tail) fun v l1 => bnd (stV f 0 d l1) fun th l2 => .ok (st 5 (hd l).p [] .nil v th ce, l2)
    else .error (3, (hd l).p)
  | _ + 1, _ + 3, _, _ => .error (0, 0)

theorem need_tail {x : By} {l l' : List Tok} {u : Unit} (h : needV x l = .ok (u, l')) (hx : x ≠ []) (he : Ends l) : Ends l' ∧ l'.length < l.length := by
  obtain ⟨h1, rfl⟩ := need_ok h
  obtain ⟨e1, _, _, e4⟩ := he.tail (by rw [h1]; exact hx)
  exact ⟨e1, e4⟩
theorem name_tail {l l' : List Tok} {v : By} (h : nameVv l = .ok (v, l')) (he : Ends l) : Ends l' ∧ l'.length < l.length := by
  obtain ⟨h1, _, _, rfl⟩ := name_ok h
  obtain ⟨e1, _, _, e4⟩ := he.tail (he.kind (by omega))
  exact ⟨e1, e4⟩
theorem expr_tail {l l' : List Tok} {v : Tr} (h : exprV l = .ok (v, l')) (he : Ends l) : Ends l' ∧ l'.length < l.length := by
  obtain ⟨a, _, c⟩ := ex_ends _ 0 1 0 .nil 0 l v l' (fun _ => by omega) he h
  exact ⟨a, c (by decide) (by decide)⟩
theorem held_tail {l l' : List Tok} {v : Tr} (h : heldV l = .ok (v, l')) (he : Ends l) : Ends l' ∧ l'.length < l.length := by
  obtain ⟨a, _, c⟩ := ex_ends _ 5 0 0 .nil 0 l v l' (fun h => by omega) he h
  exact ⟨a, c (by decide) (by decide)⟩
theorem idx_tail {l l' : List Tok} {v : Tr} (h : idxV l = .ok (v, l')) (he : Ends l) : Ends l' ∧ l'.length < l.length := by
  obtain ⟨a, _, c⟩ := ex_ends _ 6 0 0 .nil 0 l v l' (fun h => by omega) he h
  exact ⟨a, c (by decide) (by decide)⟩
theorem argV_tail {n d : Nat} {l l' : List Tok} {v : Tr} (h : argV n d l = .ok (v, l')) (he : Ends l) : Ends l' ∧ l'.length < l.length := by
  unfold argV at h
  split at h
  · rename_i h1
    obtain ⟨e1, _, _, e4⟩ := he.tail (by rw [h1]; simp)
    injection h with h
    injection h with _ h
    subst h
    exact ⟨e1, e4⟩
  · obtain ⟨a, _, c⟩ := ex_ends _ 7 0 d ce 0 l v l' (fun h => by omega) he h
    exact ⟨a, c (by decide) (by decide)⟩
theorem tok_tail {x : By} {l : List Tok} (h : (hd l).t = x) (hx : x ≠ []) (he : Ends l) : Ends l.tail ∧ l.tail.length < l.length := by
  obtain ⟨e1, _, _, e4⟩ := he.tail (by rw [h]; exact hx)
  exact ⟨e1, e4⟩
theorem ok_eq {t u : Tr} {l l' : List Tok} (h : (Except.ok (u, l) : R Tr) = .ok (t, l')) : u = t ∧ l = l' := by
  injection h with h
  injection h with h1 h2
  exact ⟨h1, h2⟩
theorem named_tail {a : Nat} {l l' : List Tok} {t : Tr} (h : namedV a l = .ok (t, l')) (he : Ends l) : Ends l' ∧ l'.length < l.length := by
  unfold namedV at h
  obtain ⟨nm, l1, h1, h⟩ := bnd_ok h
  obtain ⟨e1, s1⟩ := name_tail h1 he
  split at h
  · rename_i h40
    obtain ⟨e2, s2⟩ := tok_tail h40 (by decide) e1
    obtain ⟨g, l2, h2, h⟩ := bnd_ok h
    obtain ⟨e3, s3⟩ := argV_tail h2 e2
    obtain ⟨_, rfl⟩ := ok_eq h
    exact ⟨e3, by omega⟩
  split at h
  · rename_i h91
    obtain ⟨e2, s2⟩ := tok_tail h91 (by decide) e1
    obtain ⟨g, l2, h2, h⟩ := bnd_ok h
    obtain ⟨e3, s3⟩ := idx_tail h2 e2
    obtain ⟨_, l3, h3, h⟩ := bnd_ok h
    obtain ⟨e4, s4⟩ := need_tail h3 (by decide) e3
    obtain ⟨v, l4, h4, h⟩ := bnd_ok h
    obtain ⟨e5, s5⟩ := expr_tail h4 e4
    obtain ⟨_, rfl⟩ := ok_eq h
    exact ⟨e5, by omega⟩
  · obtain ⟨_, l3, h3, h⟩ := bnd_ok h
    obtain ⟨e4, s4⟩ := need_tail h3 (by decide) e1
    obtain ⟨v, l4, h4, h⟩ := bnd_ok h
    obtain ⟨e5, s5⟩ := expr_tail h4 e4
    obtain ⟨_, rfl⟩ := ok_eq h
    exact ⟨e5, by omega⟩
theorem st_ends : ∀ (f g d : Nat) (l : List Tok) (t : Tr) (l' : List Tok), Ends l → stV f g d l = .ok (t, l') → Ends l' ∧ l'.length < l.length
  | 0, _, _, _, _, _, _, h => by simp [stV] at h
  | f + 1, 0, d, l, t, l', he, h => by
    rw [stV] at h
    obtain ⟨_, _, _, h⟩ := bnd_ok h
    obtain ⟨_, l1, h1, h⟩ := bnd_ok h
    obtain ⟨e1, s1⟩ := need_tail h1 (by decide) he
    obtain ⟨e2, s2⟩ := st_ends f 1 d l1 t l' e1 h
    exact ⟨e2, by omega⟩
  | f + 1, 1, d, l, t, l', he, h => by
    rw [stV] at h
    split at h
    · rename_i h1
      obtain ⟨e1, s1⟩ := tok_tail h1 (by decide) he
      obtain ⟨_, rfl⟩ := ok_eq h
      exact ⟨e1, s1⟩
    · obtain ⟨t1, l1, h1, h⟩ := bnd_ok h
      obtain ⟨e1, s1⟩ := st_ends f 2 (d + 1) l t1 l1 he h1
      obtain ⟨g, l2, h2, h⟩ := bnd_ok h
      obtain ⟨e2, s2⟩ := st_ends f 1 d l1 g l2 e1 h2
      obtain ⟨_, rfl⟩ := ok_eq h
      exact ⟨e2, by omega⟩
  | f + 1, 2, d, l, t, l', he, h => by
    rw [stV] at h
    split at h
    · obtain ⟨t1, l1, h1, h⟩ := bnd_ok h
      obtain ⟨e1, s1⟩ := named_tail h1 he
      obtain ⟨_, l2, h2, h⟩ := bnd_ok h
      obtain ⟨e2, s2⟩ := need_tail h2 (by decide) e1
      obtain ⟨_, rfl⟩ := ok_eq h
      exact ⟨e2, by omega⟩
    split at h
    · rename_i h0
      obtain ⟨e0, s0⟩ := tok_tail h0 (by decide) he
      obtain ⟨nm, l1, h1, h⟩ := bnd_ok h
      obtain ⟨e1, s1⟩ := name_tail h1 e0
      obtain ⟨_, l2, h2, h⟩ := bnd_ok h
      obtain ⟨e2, s2⟩ := need_tail h2 (by decide) e1
      obtain ⟨v, l3, h3, h⟩ := bnd_ok h
      obtain ⟨e3, s3⟩ := expr_tail h3 e2
      obtain ⟨_, l4, h4, h⟩ := bnd_ok h
      obtain ⟨e4, s4⟩ := need_tail h4 (by decide) e3
      obtain ⟨_, rfl⟩ := ok_eq h
      exact ⟨e4, by omega⟩
    split at h
    · rename_i h0
      obtain ⟨e0, s0⟩ := tok_tail h0 (by decide) he
      obtain ⟨v, l3, h3, h⟩ := bnd_ok h
      obtain ⟨e3, s3⟩ := expr_tail h3 e0
      obtain ⟨_, l4, h4, h⟩ := bnd_ok h
      obtain ⟨e4, s4⟩ := need_tail h4 (by decide) e3
      obtain ⟨_, rfl⟩ := ok_eq h
      exact ⟨e4, by omega⟩
    split at h
    · rename_i h0
      obtain ⟨e0, s0⟩ := tok_tail h0 (by decide) he
      obtain ⟨v, l3, h3, h⟩ := bnd_ok h
      obtain ⟨e3, s3⟩ := expr_tail h3 e0
      obtain ⟨_, l4, h4, h⟩ := bnd_ok h
      obtain ⟨e4, s4⟩ := need_tail h4 (by decide) e3
      obtain ⟨_, rfl⟩ := ok_eq h
      exact ⟨e4, by omega⟩
    split at h
    · rename_i h0
      obtain ⟨e0, s0⟩ := tok_tail h0 (by decide) he
      obtain ⟨v, l3, h3, h⟩ := bnd_ok h
      obtain ⟨e3, s3⟩ := held_tail h3 e0
      obtain ⟨th, l4, h4, h⟩ := bnd_ok h
      obtain ⟨e4, s4⟩ := st_ends f 0 d l3 th l4 e3 h4
      split at h
      · rename_i h5
        obtain ⟨e5, s5⟩ := tok_tail h5 (by decide) e4
        obtain ⟨el, l6, h6, h⟩ := bnd_ok h
        obtain ⟨e6, s6⟩ := st_ends f 0 d l4.tail el l6 e5 h6
        obtain ⟨_, rfl⟩ := ok_eq h
        exact ⟨e6, by omega⟩
      · obtain ⟨_, rfl⟩ := ok_eq h
        exact ⟨e4, by omega⟩
    split at h
    · rename_i h0
      obtain ⟨e0, s0⟩ := tok_tail h0 (by decide) he
      obtain ⟨v, l3, h3, h⟩ := bnd_ok h
      obtain ⟨e3, s3⟩ := held_tail h3 e0
      obtain ⟨th, l4, h4, h⟩ := bnd_ok h
      obtain ⟨e4, s4⟩ := st_ends f 0 d l3 th l4 e3 h4
      obtain ⟨_, rfl⟩ := ok_eq h
      exact ⟨e4, by omega⟩
    · cases h
  | f + 1, g + 3, d, l, t, l', he, h => by simp [stV] at h
end Go.Proofs.YtpakgaegckkmnaaGreatDoor
