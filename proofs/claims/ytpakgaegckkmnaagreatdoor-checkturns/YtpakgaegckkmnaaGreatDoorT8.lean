/- Plain: expressions, read from tokens. A tree is a datum: a node of eight parts, a list as a chain of pairs. -/
import Derived.Test.YtpakgaegckkmnaaGreatDoorT0
import Derived.WalkKit
namespace Go.Proofs.YtpakgaegckkmnaaGreatDoor
set_option linter.unusedVariables false
open Go

abbrev Tr := DataW Unit
/-- A node: code, place, number, name, mark, left, right, args. -/
abbrev nd (c a n : Int) (nm op : By) (l r g : Tr) : Tr := .agg [.lit (.int .i64 c), .lit (.int .i64 a), .lit (.int .i64 n), .lit (.string nm), .lit (.string op), l, r, g]
/-- A list's end, and one ahead of a list. -/
abbrev ce : Tr := .slice [] []
abbrev cc (x g : Tr) : Tr := .slice [x] [g]
def chain : List Tr → Tr
  | [] => ce
  | x :: l => cc x (chain l)

abbrev R (α : Type) := Except (Int × Nat) (α × List Tok)
def hd (l : List Tok) : Tok := l.headD ⟨3, [], 0⟩
/-- A fixed token is taken, which must stand there. -/
def needV (x : By) (l : List Tok) : R Unit := if (hd l).t = x then .ok ((), l.tail) else .error (3, (hd l).p)
def nameVv (l : List Tok) : R By := if (hd l).k ≠ 0 then .error (3, (hd l).p) else if 12 < (hd l).t.length then .error (4, (hd l).p) else .ok ((hd l).t, l.tail)
def numVv (l : List Tok) : R Int :=
  match Lib.parseIntB 64 (hd l).t with
  | .ok v => .ok (v, l.tail)
  | _ => .error (4, (hd l).p)
def boundV (d : Nat) (l : List Tok) : R Unit := if 12 < d ∧ (hd l).k ≠ 3 then .error (4, (hd l).p) else .ok ((), l)
def bnd {α β : Type} (x : R α) (f : α → List Tok → R β) : R β :=
  match x with
  | .error e => .error e
  | .ok (a, l) => f a l

/-- Expressions: fuel; which: 0 bin, 1 its loop, 2 one, 3 its loop, 4 leaf, 5 held, 6 index, 7 args' loop (x: those ahead); level, depth, what is there already, its place. -/
def exV : Nat → Nat → Nat → Nat → Tr → Nat → List Tok → R Tr
  | 0, _, _, _, _, _, _ => .error (0, 0)
  | f + 1, 0, lv, d, _, _, l => if 6 < lv then exV f 2 0 d .nil 0 l else bnd (exV f 0 (lv + 1) d .nil 0 l) fun y l1 => exV f 1 lv d y (hd l).p l1
  | f + 1, 1, lv, d, x, p, l => if nearV (hd l).t = lv then bnd (exV f 0 (lv + 1) d .nil 0 l.tail) fun y l1 => exV f 1 lv d (nd 3 p 0 [] (hd l).t x y ce) p l1 else .ok (x, l)
  | f + 1, 2, _, d, _, _, l => bnd (boundV d l) fun _ _ =>
      if (hd l).t = [45] ∨ (hd l).t = [33] then bnd (exV f 2 0 (d + 1) .nil 0 l.tail) fun y l1 => .ok (nd 4 (hd l).p 0 [] (hd l).t y .nil ce, l1)
      else bnd (exV f 4 0 d .nil 0 l) fun y l1 => exV f 3 0 d y (hd l).p l1
  | f + 1, 3, _, d, x, p, l => if (hd l).t = [91] then bnd (exV f 6 0 d .nil 0 l.tail) fun y l1 => exV f 3 0 d (nd 8 p 0 [] [] x y ce) p l1 else .ok (x, l)
  | f + 1, 4, _, d, _, _, l =>
      if (hd l).k = 2 then bnd (numVv l) fun v l1 => .ok (nd 1 (hd l).p v [] [] .nil .nil ce, l1)
      else if (hd l).k = 0 then bnd (nameVv l) fun nm l1 =>
        if (hd l1).t = [40] then
          (if (hd l1.tail).t = [41] then .ok (nd 5 (hd l).p 0 nm [] .nil .nil ce, l1.tail.tail)
           else bnd (exV f 7 0 d ce 0 l1.tail) fun g l2 => .ok (nd 5 (hd l).p 0 nm [] .nil .nil g, l2))
        else .ok (nd 2 (hd l).p 0 nm [] .nil .nil ce, l1)
      else if (hd l).t = [110, 101, 119] then bnd (exV f 5 0 d .nil 0 l.tail) fun y l1 => .ok (nd 6 (hd l).p 0 [] [] y .nil ce, l1)
      else if (hd l).t = [108, 101, 110] then bnd (exV f 5 0 d .nil 0 l.tail) fun y l1 => .ok (nd 7 (hd l).p 0 [] [] y .nil ce, l1)
      else if (hd l).t = [105, 110, 112, 117, 116] then bnd (needV [40] l.tail) fun _ l1 => bnd (needV [41] l1) fun _ l2 => .ok (nd 9 (hd l).p 0 [] [] .nil .nil ce, l2)
      else exV f 5 0 d .nil 0 l
  | f + 1, 5, _, d, _, _, l => bnd (needV [40] l) fun _ l1 => bnd (exV f 0 1 (d + 1) .nil 0 l1) fun y l2 => bnd (needV [41] l2) fun _ l3 => .ok (y, l3)
  | f + 1, 6, _, d, _, _, l => bnd (exV f 0 1 (d + 1) .nil 0 l) fun y l1 => bnd (needV [93] l1) fun _ l2 => .ok (y, l2)
  | f + 1, 7, _, d, x, _, l => bnd (exV f 0 1 (d + 1) .nil 0 l) fun y l1 =>
      if (hd l1).t = [44] then bnd (exV f 7 0 d ce 0 l1.tail) fun g l2 => .ok (cc y g, l2)
      else bnd (needV [41] l1) fun _ l2 => .ok (cc y ce, l2)
  | _ + 1, _ + 8, _, _, _, _, _ => .error (0, 0)

/-- The tokens left are an end of those that there were, and the text's end is among them. -/
def Ends (l : List Tok) : Prop := ∃ a e, l = a ++ [e] ∧ e.k = 3 ∧ e.t = [] ∧ ∀ x ∈ a, x.k ≠ 3 ∧ x.t ≠ [] ∧ x.t.length ≤ 1000000
theorem Ends.pos {l : List Tok} (h : Ends l) : 1 ≤ l.length := by
  obtain ⟨a, e, rfl, _⟩ := h
  simp
/-- A token that is not the end may be taken. -/
theorem Ends.tail {l : List Tok} (h : Ends l) (hk : (hd l).t ≠ []) : Ends l.tail ∧ 1 ≤ l.tail.length ∧ l = hd l :: l.tail ∧ l.tail.length < l.length := by
  obtain ⟨a, e, rfl, h1, h2, h3⟩ := h
  cases a with
  | nil => exact absurd h2 hk
  | cons x a => exact ⟨⟨a, e, rfl, h1, h2, fun y hy => h3 y (List.mem_cons_of_mem _ hy)⟩, by simp, rfl, by simp⟩
theorem Ends.cons {l : List Tok} (h : Ends l) : l = hd l :: l.tail := by
  obtain ⟨a, e, rfl, _⟩ := h
  cases a <;> rfl
theorem Ends.kind {l : List Tok} (h : Ends l) (hk : (hd l).k ≠ 3) : (hd l).t ≠ [] := by
  obtain ⟨a, e, rfl, h1, h2, h3⟩ := h
  cases a with
  | nil => exact absurd h1 hk
  | cons x a => exact (h3 x (by simp)).2.1
theorem Ends.short {l : List Tok} (h : Ends l) : (hd l).t.length ≤ 1000000 := by
  obtain ⟨a, e, rfl, h1, h2, h3⟩ := h
  cases a with
  | nil => show e.t.length ≤ _; rw [h2]; simp
  | cons x a => exact (h3 x (by simp)).2.2
theorem bnd_ok {α β : Type} {x : R α} {f : α → List Tok → R β} {r : β × List Tok} (h : bnd x f = .ok r) : ∃ a l, x = .ok (a, l) ∧ f a l = .ok r := by
  unfold bnd at h
  split at h
  · cases h
  · exact ⟨_, _, rfl, h⟩
theorem need_ok {x : By} {l l' : List Tok} {u : Unit} (h : needV x l = .ok (u, l')) : (hd l).t = x ∧ l' = l.tail := by
  unfold needV at h
  split at h
  · rename_i e
    injection h with h
    injection h with _ h
    exact ⟨e, h.symm⟩
  · cases h
theorem name_ok {l l' : List Tok} {v : By} (h : nameVv l = .ok (v, l')) : (hd l).k = 0 ∧ v = (hd l).t ∧ v.length ≤ 12 ∧ l' = l.tail := by
  unfold nameVv at h
  split at h
  · cases h
  · split at h
    · cases h
    · rename_i h1 h2
      injection h with h
      injection h with h3 h4
      subst h3; subst h4
      exact ⟨by simpa using h1, rfl, by omega, rfl⟩
theorem num_ok {l l' : List Tok} {v : Int} (h : numVv l = .ok (v, l')) : Lib.parseIntB 64 (hd l).t = .ok v ∧ l' = l.tail := by
  unfold numVv at h
  split at h
  · rename_i e
    injection h with h
    injection h with h1 h2
    subst h1; subst h2
    exact ⟨e, rfl⟩
  · cases h

/-- What is left is an end of what there was, and less of it (behind a loop perhaps as much). -/
theorem ex_ends : ∀ (f g lv d : Nat) (x : Tr) (p : Nat) (l : List Tok) (t : Tr) (l' : List Tok), (g ≤ 1 → 1 ≤ lv) → Ends l → exV f g lv d x p l = .ok (t, l') → Ends l' ∧ l'.length ≤ l.length ∧ (g ≠ 1 → g ≠ 3 → l'.length < l.length)
  | 0, _, _, _, _, _, _, _, _, _, _, h => by simp [exV] at h
  | f + 1, 0, lv, d, x, p, l, t, l', hv, he, h => by
    rw [exV] at h
    split at h
    · obtain ⟨h1, h2, h3⟩ := ex_ends f 2 0 d .nil 0 l t l' (fun h => by omega) he h
      exact ⟨h1, h2, fun _ _ => h3 (by decide) (by decide)⟩
    · obtain ⟨y, l1, h1, h2⟩ := bnd_ok h
      obtain ⟨a1, a2, a3⟩ := ex_ends f 0 (lv + 1) d .nil 0 l y l1 (fun _ => by omega) he h1
      obtain ⟨b1, b2, b3⟩ := ex_ends f 1 lv d y (hd l).p l1 t l' (fun _ => hv (by omega)) a1 h2
      have := a3 (by decide) (by decide)
      exact ⟨b1, by omega, fun _ _ => by omega⟩
  | f + 1, 1, lv, d, x, p, l, t, l', hv, he, h => by
    rw [exV] at h
    split at h
    · rename_i hn
      obtain ⟨y, l1, h1, h2⟩ := bnd_ok h
      by_cases hk : (hd l).t = []
      · rw [hk] at hn
        have h0 : nearV [] = 0 := by decide
        have := hv (by omega)
        omega
      · obtain ⟨e1, e2, e3, e4⟩ := he.tail hk
        obtain ⟨a1, a2, a3⟩ := ex_ends f 0 (lv + 1) d .nil 0 l.tail y l1 (fun _ => by omega) e1 h1
        obtain ⟨b1, b2, b3⟩ := ex_ends f 1 lv d _ p l1 t l' (fun _ => hv (by omega)) a1 h2
        exact ⟨b1, by omega, fun h => absurd rfl h⟩
    · injection h with h
      injection h with h1 h2
      subst h2
      exact ⟨he, Nat.le_refl _, fun h => absurd rfl h⟩
  | f + 1, 2, lv, d, x, p, l, t, l', hv, he, h => by
    rw [exV] at h
    obtain ⟨_, _, hb, h⟩ := bnd_ok h
    split at h
    · rename_i hn
      obtain ⟨y, l1, h1, h2⟩ := bnd_ok h
      have hk : (hd l).t ≠ [] := by rcases hn with hn | hn <;> rw [hn] <;> simp
      obtain ⟨e1, e2, e3, e4⟩ := he.tail hk
      obtain ⟨a1, a2, a3⟩ := ex_ends f 2 0 (d + 1) .nil 0 l.tail y l1 (fun h => by omega) e1 h1
      injection h2 with h2
      injection h2 with h2 h3
      subst h3
      exact ⟨a1, by omega, fun _ _ => by omega⟩
    · obtain ⟨y, l1, h1, h2⟩ := bnd_ok h
      obtain ⟨a1, a2, a3⟩ := ex_ends f 4 0 d .nil 0 l y l1 (fun h => by omega) he h1
      obtain ⟨b1, b2, b3⟩ := ex_ends f 3 0 d y (hd l).p l1 t l' (fun h => by omega) a1 h2
      have := a3 (by decide) (by decide)
      exact ⟨b1, by omega, fun _ _ => by omega⟩
  | f + 1, 3, lv, d, x, p, l, t, l', hv, he, h => by
    rw [exV] at h
    split at h
    · rename_i hn
      obtain ⟨y, l1, h1, h2⟩ := bnd_ok h
      obtain ⟨e1, e2, e3, e4⟩ := he.tail (by rw [hn]; simp)
      obtain ⟨a1, a2, a3⟩ := ex_ends f 6 0 d .nil 0 l.tail y l1 (fun h => by omega) e1 h1
      obtain ⟨b1, b2, b3⟩ := ex_ends f 3 0 d _ p l1 t l' (fun h => by omega) a1 h2
      exact ⟨b1, by omega, fun _ h => absurd rfl h⟩
    · injection h with h
      injection h with h1 h2
      subst h2
      exact ⟨he, Nat.le_refl _, fun _ h => absurd rfl h⟩
  | f + 1, 4, lv, d, x, p, l, t, l', hv, he, h => by
    rw [exV] at h
    split at h
    · rename_i hk
      obtain ⟨v, l1, h1, h2⟩ := bnd_ok h
      obtain ⟨_, rfl⟩ := num_ok h1
      obtain ⟨e1, e2, e3, e4⟩ := he.tail (he.kind (by omega))
      injection h2 with h2
      injection h2 with h2 h3
      subst h3
      exact ⟨e1, by omega, fun _ _ => e4⟩
    · split at h
      · rename_i hk2 hk
        obtain ⟨nm, l1, h1, h2⟩ := bnd_ok h
        obtain ⟨_, _, _, rfl⟩ := name_ok h1
        obtain ⟨e1, e2, e3, e4⟩ := he.tail (he.kind (by omega))
        split at h2
        · rename_i h40
          obtain ⟨g1, g2, g3, g4⟩ := e1.tail (by rw [h40]; simp)
          split at h2
          · rename_i h41
            obtain ⟨i1, i2, i3, i4⟩ := g1.tail (by rw [h41]; simp)
            injection h2 with h2
            injection h2 with h2 h3
            subst h3
            exact ⟨i1, by omega, fun _ _ => by omega⟩
          · obtain ⟨gg, l2, h3, h4⟩ := bnd_ok h2
            obtain ⟨a1, a2, a3⟩ := ex_ends f 7 0 d ce 0 l.tail.tail gg l2 (fun h => by omega) g1 h3
            injection h4 with h4
            injection h4 with h4 h5
            subst h5
            exact ⟨a1, by omega, fun _ _ => by omega⟩
        · injection h2 with h2
          injection h2 with h2 h3
          subst h3
          exact ⟨e1, by omega, fun _ _ => e4⟩
      · split at h
        · rename_i hn
          obtain ⟨y, l1, h1, h2⟩ := bnd_ok h
          obtain ⟨e1, e2, e3, e4⟩ := he.tail (by rw [hn]; simp)
          obtain ⟨a1, a2, a3⟩ := ex_ends f 5 0 d .nil 0 l.tail y l1 (fun h => by omega) e1 h1
          injection h2 with h2
          injection h2 with h2 h3
          subst h3
          exact ⟨a1, by omega, fun _ _ => by omega⟩
        · split at h
          · rename_i hn
            obtain ⟨y, l1, h1, h2⟩ := bnd_ok h
            obtain ⟨e1, e2, e3, e4⟩ := he.tail (by rw [hn]; simp)
            obtain ⟨a1, a2, a3⟩ := ex_ends f 5 0 d .nil 0 l.tail y l1 (fun h => by omega) e1 h1
            injection h2 with h2
            injection h2 with h2 h3
            subst h3
            exact ⟨a1, by omega, fun _ _ => by omega⟩
          · split at h
            · rename_i hn
              obtain ⟨e1, e2, e3, e4⟩ := he.tail (by rw [hn]; simp)
              obtain ⟨_, l1, h1, h2⟩ := bnd_ok h
              obtain ⟨n1, rfl⟩ := need_ok h1
              obtain ⟨g1, g2, g3, g4⟩ := e1.tail (by rw [n1]; simp)
              obtain ⟨_, l2, h3, h4⟩ := bnd_ok h2
              obtain ⟨n2, rfl⟩ := need_ok h3
              obtain ⟨i1, i2, i3, i4⟩ := g1.tail (by rw [n2]; simp)
              injection h4 with h4
              injection h4 with h4 h5
              subst h5
              exact ⟨i1, by omega, fun _ _ => by omega⟩
            · obtain ⟨a1, a2, a3⟩ := ex_ends f 5 0 d .nil 0 l t l' (fun h => by omega) he h
              exact ⟨a1, a2, fun _ _ => a3 (by decide) (by decide)⟩
  | f + 1, 5, lv, d, x, p, l, t, l', hv, he, h => by
    rw [exV] at h
    obtain ⟨_, l1, h1, h2⟩ := bnd_ok h
    obtain ⟨n1, rfl⟩ := need_ok h1
    obtain ⟨e1, e2, e3, e4⟩ := he.tail (by rw [n1]; simp)
    obtain ⟨y, l2, h3, h4⟩ := bnd_ok h2
    obtain ⟨a1, a2, a3⟩ := ex_ends f 0 1 (d + 1) .nil 0 l.tail y l2 (fun _ => by omega) e1 h3
    obtain ⟨_, l3, h5, h6⟩ := bnd_ok h4
    obtain ⟨n2, rfl⟩ := need_ok h5
    obtain ⟨i1, i2, i3, i4⟩ := a1.tail (by rw [n2]; simp)
    injection h6 with h6
    injection h6 with h6 h7
    subst h7
    exact ⟨i1, by omega, fun _ _ => by omega⟩
  | f + 1, 6, lv, d, x, p, l, t, l', hv, he, h => by
    rw [exV] at h
    obtain ⟨y, l2, h3, h4⟩ := bnd_ok h
    obtain ⟨a1, a2, a3⟩ := ex_ends f 0 1 (d + 1) .nil 0 l y l2 (fun _ => by omega) he h3
    obtain ⟨_, l3, h5, h6⟩ := bnd_ok h4
    obtain ⟨n2, rfl⟩ := need_ok h5
    obtain ⟨i1, i2, i3, i4⟩ := a1.tail (by rw [n2]; simp)
    injection h6 with h6
    injection h6 with h6 h7
    subst h7
    exact ⟨i1, by omega, fun _ _ => by omega⟩
  | f + 1, 7, lv, d, x, p, l, t, l', hv, he, h => by
    rw [exV] at h
    obtain ⟨y, l2, h3, h4⟩ := bnd_ok h
    obtain ⟨a1, a2, a3⟩ := ex_ends f 0 1 (d + 1) .nil 0 l y l2 (fun _ => by omega) he h3
    split at h4
    · rename_i hn
      obtain ⟨i1, i2, i3, i4⟩ := a1.tail (by rw [hn]; simp)
      obtain ⟨gg, l4, h5, h6⟩ := bnd_ok h4
      obtain ⟨b1, b2, b3⟩ := ex_ends f 7 0 d ce 0 l2.tail gg l4 (fun h => by omega) i1 h5
      injection h6 with h6
      injection h6 with h6 h7
      subst h7
      exact ⟨b1, by omega, fun _ _ => by omega⟩
    · obtain ⟨_, l3, h5, h6⟩ := bnd_ok h4
      obtain ⟨n2, rfl⟩ := need_ok h5
      obtain ⟨i1, i2, i3, i4⟩ := a1.tail (by rw [n2]; simp)
      injection h6 with h6
      injection h6 with h6 h7
      subst h7
      exact ⟨i1, by omega, fun _ _ => by omega⟩
  | f + 1, g + 8, lv, d, x, p, l, t, l', hv, he, h => by simp [exV] at h
end Go.Proofs.YtpakgaegckkmnaaGreatDoor
