/- T8 T9 TA TB TC -/
import Derived.Test.YtnfhpdbbfejioaaGreatDoorE02
namespace Go.Proofs.YtnfhpdbbfejioaaGreatDoor
set_option linter.unusedVariables false
open Go
abbrev Tr := DataW Unit
abbrev nd (c a n : Int) (nm op : By) (l r g : Tr) : Tr := .agg [.lit (.int .i64 c), .lit (.int .i64 a), .lit (.int .i64 n), .lit (.string nm), .lit (.string op), l, r, g]
abbrev ce : Tr := .slice [] []
abbrev cc (x g : Tr) : Tr := .slice [x] [g]
def chain : List Tr → Tr
 | [] => ce
 | x :: l => cc x (chain l)
abbrev R (α : Type) := Except (Int × Nat) (α × List Tok)
def hd (l : List Tok) : Tok := l.headD ⟨3, [], 0⟩
def zh (x : By) (l : List Tok) : R Unit := if (hd l).t = x then .ok ((), l.tail) else .error (3, (hd l).p)
def zQ (l : List Tok) : R By := if (hd l).k ≠ 0 then .error (3, (hd l).p) else if 12 < (hd l).t.length then .error (4, (hd l).p) else .ok ((hd l).t, l.tail)
def numVv (l : List Tok) : R Int :=
 match Lib.parseIntB 64 (hd l).t with
 | .ok v => .ok (v, l.tail)
 | _ => .error (4, (hd l).p)
def boundV (d : Nat) (l : List Tok) : R Unit := if 12 < d ∧ (hd l).k ≠ 3 then .error (4, (hd l).p) else .ok ((), l)
def bnd {α β : Type} (x : R α) (f : α → List Tok → R β) : R β :=
 match x with
 | .error e => .error e
 | .ok (a, l) => f a l
def exV : Nat → Nat → Nat → Nat → Tr → Nat → List Tok → R Tr
 | 0, _, _, _, _, _, _ => .error (0, 0)
 | f + 1, 0, lv, d, _, _, l => if 6 < lv then exV f 2 0 d .nil 0 l else bnd (exV f 0 (lv + 1) d .nil 0 l) fun y l1 => exV f 1 lv d y (hd l).p l1
 | f + 1, 1, lv, d, x, p, l => if zE (hd l).t = lv then bnd (exV f 0 (lv + 1) d .nil 0 l.tail) fun y l1 => exV f 1 lv d (nd 3 p 0 [] (hd l).t x y ce) p l1 else .ok (x, l)
 | f + 1, 2, _, d, _, _, l => bnd (boundV d l) fun _ _ =>
   if (hd l).t = [45] ∨ (hd l).t = [33] then bnd (exV f 2 0 (d + 1) .nil 0 l.tail) fun y l1 => .ok (nd 4 (hd l).p 0 [] (hd l).t y .nil ce, l1)
   else bnd (exV f 4 0 d .nil 0 l) fun y l1 => exV f 3 0 d y (hd l).p l1
 | f + 1, 3, _, d, x, p, l => if (hd l).t = [91] then bnd (exV f 6 0 d .nil 0 l.tail) fun y l1 => exV f 3 0 d (nd 8 p 0 [] [] x y ce) p l1 else .ok (x, l)
 | f + 1, 4, _, d, _, _, l =>
   if (hd l).k = 2 then bnd (numVv l) fun v l1 => .ok (nd 1 (hd l).p v [] [] .nil .nil ce, l1)
   else if (hd l).k = 0 then bnd (zQ l) fun nm l1 =>
    if (hd l1).t = [40] then
     (if (hd l1.tail).t = [41] then .ok (nd 5 (hd l).p 0 nm [] .nil .nil ce, l1.tail.tail)
      else bnd (exV f 7 0 d ce 0 l1.tail) fun g l2 => .ok (nd 5 (hd l).p 0 nm [] .nil .nil g, l2))
    else .ok (nd 2 (hd l).p 0 nm [] .nil .nil ce, l1)
   else if (hd l).t = [110, 101, 119] then bnd (exV f 5 0 d .nil 0 l.tail) fun y l1 => .ok (nd 6 (hd l).p 0 [] [] y .nil ce, l1)
   else if (hd l).t = [108, 101, 110] then bnd (exV f 5 0 d .nil 0 l.tail) fun y l1 => .ok (nd 7 (hd l).p 0 [] [] y .nil ce, l1)
   else if (hd l).t = [105, 110, 112, 117, 116] then bnd (zh [40] l.tail) fun _ l1 => bnd (zh [41] l1) fun _ l2 => .ok (nd 9 (hd l).p 0 [] [] .nil .nil ce, l2)
   else exV f 5 0 d .nil 0 l
 | f + 1, 5, _, d, _, _, l => bnd (zh [40] l) fun _ l1 => bnd (exV f 0 1 (d + 1) .nil 0 l1) fun y l2 => bnd (zh [41] l2) fun _ l3 => .ok (y, l3)
 | f + 1, 6, _, d, _, _, l => bnd (exV f 0 1 (d + 1) .nil 0 l) fun y l1 => bnd (zh [93] l1) fun _ l2 => .ok (y, l2)
 | f + 1, 7, _, d, x, _, l => bnd (exV f 0 1 (d + 1) .nil 0 l) fun y l1 =>
   if (hd l1).t = [44] then bnd (exV f 7 0 d ce 0 l1.tail) fun g l2 => .ok (cc y g, l2)
   else bnd (zh [41] l1) fun _ l2 => .ok (cc y ce, l2)
 | _ + 1, _ + 8, _, _, _, _, _ => .error (0, 0)
def Ends (l : List Tok) : Prop := ∃ a e, l = a ++ [e] ∧ e.k = 3 ∧ e.t = [] ∧ ∀ x ∈ a, x.k ≠ 3 ∧ x.t ≠ [] ∧ x.t.length ≤ 1000000
theorem Ends.pos {l : List Tok} (h : Ends l) : 1 ≤ l.length := by
 obtain ⟨a, e, rfl, _⟩ := h
 simp
theorem Ends.tail {l : List Tok} (h : Ends l) (hk : (hd l).t ≠ []) : Ends l.tail ∧ 1 ≤ l.tail.length ∧ l = hd l :: l.tail ∧ l.tail.length < l.length := by
 obtain ⟨a, e, rfl, h1, h2, h3⟩ := h
 cases a with
 | nil => exact absurd h2 hk
 | cons x a => exact ⟨⟨a, e, rfl, h1, h2, fun y hy => h3 y (List.mem_cons_of_mem _ hy)⟩, by simp, rfl, by simp⟩
theorem Ends.cons {l : List Tok} (h : Ends l) : l = hd l :: l.tail := by
 obtain ⟨a, e, rfl, _⟩ := h
 cases a <;> rfl
theorem Ends.kind {l : List Tok} (h : Ends l) (hk : (hd l).k ≠ 3) : (hd l).t ≠ [] := by
 obtain ⟨a, e, rfl, h1, h2, h3⟩ := h
 cases a with
 | nil => exact absurd h1 hk
 | cons x a => exact (h3 x (by simp)).2.1
theorem Ends.short {l : List Tok} (h : Ends l) : (hd l).t.length ≤ 1000000 := by
 obtain ⟨a, e, rfl, h1, h2, h3⟩ := h
 cases a with
 | nil => show e.t.length ≤ _; rw [h2]; simp
 | cons x a => exact (h3 x (by simp)).2.2
theorem za {α β : Type} {x : R α} {f : α → List Tok → R β} {r : β × List Tok} (h : bnd x f = .ok r) : ∃ a l, x = .ok (a, l) ∧ f a l = .ok r := by
 unfold bnd at h
 split at h
 ·cases h
 ·exact ⟨_, _, rfl, h⟩
theorem qk {x : By} {l l' : List Tok} {u : Unit} (h : zh x l = .ok (u, l')) : (hd l).t = x ∧ l' = l.tail := by
 unfold zh at h
 split at h
 ·rename_i e
  injection h with h
  injection h with _ h
  exact ⟨e, h.symm⟩
 ·cases h
theorem name_ok {l l' : List Tok} {v : By} (h : zQ l = .ok (v, l')) : (hd l).k = 0 ∧ v = (hd l).t ∧ v.length ≤ 12 ∧ l' = l.tail := by
 unfold zQ at h
 split at h
 ·cases h
 ·split at h
  ·cases h
  ·rename_i h1 h2
   injection h with h
   injection h with h3 h4
   subst h3; subst h4
   exact ⟨by simpa using h1, rfl, by omega, rfl⟩
theorem num_ok {l l' : List Tok} {v : Int} (h : numVv l = .ok (v, l')) : Lib.parseIntB 64 (hd l).t = .ok v ∧ l' = l.tail := by
 unfold numVv at h
 split at h
 ·rename_i e
  injection h with h
  injection h with h1 h2
  subst h1; subst h2
  exact ⟨e, rfl⟩
 ·cases h
theorem zo : ∀ (f g lv d : Nat) (x : Tr) (p : Nat) (l : List Tok) (t : Tr) (l' : List Tok), (g ≤ 1 → 1 ≤ lv) → Ends l → exV f g lv d x p l = .ok (t, l') → Ends l' ∧ l'.length ≤ l.length ∧ (g ≠ 1 → g ≠ 3 → l'.length < l.length)
 | 0, _, _, _, _, _, _, _, _, _, _, h => by simp [exV] at h
 | f + 1, 0, lv, d, x, p, l, t, l', hv, he, h => by
  rw [exV] at h
  split at h
  ·obtain ⟨h1, h2, h3⟩ := zo f 2 0 d .nil 0 l t l' (fun h => by omega) he h
   exact ⟨h1, h2, fun _ _ => h3 (by decide) (by decide)⟩
  ·obtain ⟨y, l1, h1, h2⟩ := za h
   obtain ⟨a1, a2, a3⟩ := zo f 0 (lv + 1) d .nil 0 l y l1 (fun _ => by omega) he h1
   obtain ⟨b1, b2, b3⟩ := zo f 1 lv d y (hd l).p l1 t l' (fun _ => hv (by omega)) a1 h2
   have := a3 (by decide) (by decide)
   exact ⟨b1, by omega, fun _ _ => by omega⟩
 | f + 1, 1, lv, d, x, p, l, t, l', hv, he, h => by
  rw [exV] at h
  split at h
  ·rename_i hn
   obtain ⟨y, l1, h1, h2⟩ := za h
   by_cases hk : (hd l).t = []
   ·rw [hk] at hn
    have h0 : zE [] = 0 := by decide
    have := hv (by omega)
    omega
   ·obtain ⟨e1, e2, e3, e4⟩ := he.tail hk
    obtain ⟨a1, a2, a3⟩ := zo f 0 (lv + 1) d .nil 0 l.tail y l1 (fun _ => by omega) e1 h1
    obtain ⟨b1, b2, b3⟩ := zo f 1 lv d _ p l1 t l' (fun _ => hv (by omega)) a1 h2
    exact ⟨b1, by omega, fun h => absurd rfl h⟩
  ·injection h with h
   injection h with h1 h2
   subst h2
   exact ⟨he, Nat.le_refl _, fun h => absurd rfl h⟩
 | f + 1, 2, lv, d, x, p, l, t, l', hv, he, h => by
  rw [exV] at h
  obtain ⟨_, _, hb, h⟩ := za h
  split at h
  ·rename_i hn
   obtain ⟨y, l1, h1, h2⟩ := za h
   have hk : (hd l).t ≠ [] := by rcases hn with hn | hn <;> rw [hn] <;> simp
   obtain ⟨e1, e2, e3, e4⟩ := he.tail hk
   obtain ⟨a1, a2, a3⟩ := zo f 2 0 (d + 1) .nil 0 l.tail y l1 (fun h => by omega) e1 h1
   injection h2 with h2
   injection h2 with h2 h3
   subst h3
   exact ⟨a1, by omega, fun _ _ => by omega⟩
  ·obtain ⟨y, l1, h1, h2⟩ := za h
   obtain ⟨a1, a2, a3⟩ := zo f 4 0 d .nil 0 l y l1 (fun h => by omega) he h1
   obtain ⟨b1, b2, b3⟩ := zo f 3 0 d y (hd l).p l1 t l' (fun h => by omega) a1 h2
   have := a3 (by decide) (by decide)
   exact ⟨b1, by omega, fun _ _ => by omega⟩
 | f + 1, 3, lv, d, x, p, l, t, l', hv, he, h => by
  rw [exV] at h
  split at h
  ·rename_i hn
   obtain ⟨y, l1, h1, h2⟩ := za h
   obtain ⟨e1, e2, e3, e4⟩ := he.tail (by rw [hn]; simp)
   obtain ⟨a1, a2, a3⟩ := zo f 6 0 d .nil 0 l.tail y l1 (fun h => by omega) e1 h1
   obtain ⟨b1, b2, b3⟩ := zo f 3 0 d _ p l1 t l' (fun h => by omega) a1 h2
   exact ⟨b1, by omega, fun _ h => absurd rfl h⟩
  ·injection h with h
   injection h with h1 h2
   subst h2
   exact ⟨he, Nat.le_refl _, fun _ h => absurd rfl h⟩
 | f + 1, 4, lv, d, x, p, l, t, l', hv, he, h => by
  rw [exV] at h
  split at h
  ·rename_i hk
   obtain ⟨v, l1, h1, h2⟩ := za h
   obtain ⟨_, rfl⟩ := num_ok h1
   obtain ⟨e1, e2, e3, e4⟩ := he.tail (he.kind (by omega))
   injection h2 with h2
   injection h2 with h2 h3
   subst h3
   exact ⟨e1, by omega, fun _ _ => e4⟩
  ·split at h
   ·rename_i hk2 hk
    obtain ⟨nm, l1, h1, h2⟩ := za h
    obtain ⟨_, _, _, rfl⟩ := name_ok h1
    obtain ⟨e1, e2, e3, e4⟩ := he.tail (he.kind (by omega))
    split at h2
    ·rename_i h40
     obtain ⟨g1, g2, g3, g4⟩ := e1.tail (by rw [h40]; simp)
     split at h2
     ·rename_i h41
      obtain ⟨i1, i2, i3, i4⟩ := g1.tail (by rw [h41]; simp)
      injection h2 with h2
      injection h2 with h2 h3
      subst h3
      exact ⟨i1, by omega, fun _ _ => by omega⟩
     ·obtain ⟨gg, l2, h3, h4⟩ := za h2
      obtain ⟨a1, a2, a3⟩ := zo f 7 0 d ce 0 l.tail.tail gg l2 (fun h => by omega) g1 h3
      injection h4 with h4
      injection h4 with h4 h5
      subst h5
      exact ⟨a1, by omega, fun _ _ => by omega⟩
    ·injection h2 with h2
     injection h2 with h2 h3
     subst h3
     exact ⟨e1, by omega, fun _ _ => e4⟩
   ·split at h
    ·rename_i hn
     obtain ⟨y, l1, h1, h2⟩ := za h
     obtain ⟨e1, e2, e3, e4⟩ := he.tail (by rw [hn]; simp)
     obtain ⟨a1, a2, a3⟩ := zo f 5 0 d .nil 0 l.tail y l1 (fun h => by omega) e1 h1
     injection h2 with h2
     injection h2 with h2 h3
     subst h3
     exact ⟨a1, by omega, fun _ _ => by omega⟩
    ·split at h
     ·rename_i hn
      obtain ⟨y, l1, h1, h2⟩ := za h
      obtain ⟨e1, e2, e3, e4⟩ := he.tail (by rw [hn]; simp)
      obtain ⟨a1, a2, a3⟩ := zo f 5 0 d .nil 0 l.tail y l1 (fun h => by omega) e1 h1
      injection h2 with h2
      injection h2 with h2 h3
      subst h3
      exact ⟨a1, by omega, fun _ _ => by omega⟩
     ·split at h
      ·rename_i hn
       obtain ⟨e1, e2, e3, e4⟩ := he.tail (by rw [hn]; simp)
       obtain ⟨_, l1, h1, h2⟩ := za h
       obtain ⟨n1, rfl⟩ := qk h1
       obtain ⟨g1, g2, g3, g4⟩ := e1.tail (by rw [n1]; simp)
       obtain ⟨_, l2, h3, h4⟩ := za h2
       obtain ⟨n2, rfl⟩ := qk h3
       obtain ⟨i1, i2, i3, i4⟩ := g1.tail (by rw [n2]; simp)
       injection h4 with h4
       injection h4 with h4 h5
       subst h5
       exact ⟨i1, by omega, fun _ _ => by omega⟩
      ·obtain ⟨a1, a2, a3⟩ := zo f 5 0 d .nil 0 l t l' (fun h => by omega) he h
       exact ⟨a1, a2, fun _ _ => a3 (by decide) (by decide)⟩
 | f + 1, 5, lv, d, x, p, l, t, l', hv, he, h => by
  rw [exV] at h
  obtain ⟨_, l1, h1, h2⟩ := za h
  obtain ⟨n1, rfl⟩ := qk h1
  obtain ⟨e1, e2, e3, e4⟩ := he.tail (by rw [n1]; simp)
  obtain ⟨y, l2, h3, h4⟩ := za h2
  obtain ⟨a1, a2, a3⟩ := zo f 0 1 (d + 1) .nil 0 l.tail y l2 (fun _ => by omega) e1 h3
  obtain ⟨_, l3, h5, h6⟩ := za h4
  obtain ⟨n2, rfl⟩ := qk h5
  obtain ⟨i1, i2, i3, i4⟩ := a1.tail (by rw [n2]; simp)
  injection h6 with h6
  injection h6 with h6 h7
  subst h7
  exact ⟨i1, by omega, fun _ _ => by omega⟩
 | f + 1, 6, lv, d, x, p, l, t, l', hv, he, h => by
  rw [exV] at h
  obtain ⟨y, l2, h3, h4⟩ := za h
  obtain ⟨a1, a2, a3⟩ := zo f 0 1 (d + 1) .nil 0 l y l2 (fun _ => by omega) he h3
  obtain ⟨_, l3, h5, h6⟩ := za h4
  obtain ⟨n2, rfl⟩ := qk h5
  obtain ⟨i1, i2, i3, i4⟩ := a1.tail (by rw [n2]; simp)
  injection h6 with h6
  injection h6 with h6 h7
  subst h7
  exact ⟨i1, by omega, fun _ _ => by omega⟩
 | f + 1, 7, lv, d, x, p, l, t, l', hv, he, h => by
  rw [exV] at h
  obtain ⟨y, l2, h3, h4⟩ := za h
  obtain ⟨a1, a2, a3⟩ := zo f 0 1 (d + 1) .nil 0 l y l2 (fun _ => by omega) he h3
  split at h4
  ·rename_i hn
   obtain ⟨i1, i2, i3, i4⟩ := a1.tail (by rw [hn]; simp)
   obtain ⟨gg, l4, h5, h6⟩ := za h4
   obtain ⟨b1, b2, b3⟩ := zo f 7 0 d ce 0 l2.tail gg l4 (fun h => by omega) i1 h5
   injection h6 with h6
   injection h6 with h6 h7
   subst h7
   exact ⟨b1, by omega, fun _ _ => by omega⟩
  ·obtain ⟨_, l3, h5, h6⟩ := za h4
   obtain ⟨n2, rfl⟩ := qk h5
   obtain ⟨i1, i2, i3, i4⟩ := a1.tail (by rw [n2]; simp)
   injection h6 with h6
   injection h6 with h6 h7
   subst h7
   exact ⟨i1, by omega, fun _ _ => by omega⟩
 | f + 1, g + 8, lv, d, x, p, l, t, l', hv, he, h => by simp [exV] at h
end Go.Proofs.YtnfhpdbbfejioaaGreatDoor
namespace Go.Proofs.YtnfhpdbbfejioaaGreatDoor
set_option linter.unusedVariables false
set_option linter.unusedSimpArgs false
set_option maxRecDepth 100000
set_option maxHeartbeats 16000000
open Go Go.RowKit
def ExAt (S : Nat → Prop) (w : World) : Tr → Value → Prop
 | .agg [.lit (.int _ c), .lit (.int _ a), .lit (.int _ n), .lit (.string nm), .lit (.string op), l, r, g], v =>
  ∃ (b : Nat) (vl vr vg : Value) (ys : List Value), S b ∧ v = .pointer (some ⟨b, 0, none⟩) ∧ w.heap[b]? = some (.cells #[.int .i64 c, .int .i64 a, .int .i64 n, str nm, str op, vl, vr, vg] 252) ∧ ExAt S w l vl ∧ ExAt S w r vr ∧ w.ownsRow 0 145 1 vg ys.length ys ∧ (∀ i, vg.ownBlock = some i → S i) ∧ ExAt S w g (.tuple ys.toArray)
 | .slice [x] [g], v => ∃ (y : Value) (ys : List Value), v = .tuple (y :: ys).toArray ∧ ExAt S w x y ∧ ExAt S w g (.tuple ys.toArray)
 | .slice [] [], v => v = .tuple #[]
 | .nil, v => v = .pointer none
 | _, _ => False
abbrev Fr (n : Nat) : Nat → Prop := fun b => n ≤ b
theorem own_kept {S : Nat → Prop} {w w' : World} (h1 : ∀ (b : Nat) (cs : Array Value) (t : TypeId), S b → t = 252 ∨ t = 145 → w.heap[b]? = some (.cells cs t) → w'.heap[b]? = some (.cells cs t)) {v : Value} {n : Nat} {ys : List Value} (h : w.ownsRow 0 145 1 v n ys) (hs : ∀ i, v.ownBlock = some i → S i) : w'.ownsRow 0 145 1 v n ys := by
 refine ⟨h.1, ?_⟩
 rcases h.2 with hh | ⟨g', cap, cur, hv, hb, hg, rest⟩
 ·exact .inl hh
 ·exact .inr ⟨g', cap, cur, hv, hb, h1 _ _ _ (hs g' (by rw [hv]; rfl)) (.inr rfl) hg, rest⟩
theorem ExAt.kept {S : Nat → Prop} {w w' : World} (h1 : ∀ (b : Nat) (cs : Array Value) (t : TypeId), S b → t = 252 ∨ t = 145 → w.heap[b]? = some (.cells cs t) → w'.heap[b]? = some (.cells cs t)) (t : Tr) (v : Value) (h : ExAt S w t v) : ExAt S w' t v := by
 unfold ExAt at h
 split at h
 ·obtain ⟨b, vl, vr, vg, ys, hs, e1, e2, e3, e4, e5, e7, e6⟩ := h
  rw [ExAt]
  exact ⟨b, vl, vr, vg, ys, hs, e1, h1 _ _ _ hs (.inl rfl) e2, ExAt.kept h1 _ _ e3, ExAt.kept h1 _ _ e4, own_kept h1 e5 e7, e7, ExAt.kept h1 _ _ e6⟩
 ·obtain ⟨y, ys, e1, e2, e3⟩ := h
  rw [ExAt]
  exact ⟨y, ys, e1, ExAt.kept h1 _ _ e2, ExAt.kept h1 _ _ e3⟩
 ·rw [ExAt]; exact h
 ·rw [ExAt]; exact h
 ·exact h.elim
theorem own_lt {w : World} {B e z n : Nat} {v : Value} {l : List Value} (h : w.ownsRow B e z v n l) (i : Nat) (hi : v.ownBlock = some i) : i < w.heap.size := (h.lt i hi).2
theorem ExAt.mono {S S' : Nat → Prop} {w : World} (h1 : ∀ b, S b → b < w.heap.size → S' b) (t : Tr) (v : Value) (h : ExAt S w t v) : ExAt S' w t v := by
 unfold ExAt at h
 split at h
 ·obtain ⟨b, vl, vr, vg, ys, hs, e1, e2, e3, e4, e5, e7, e6⟩ := h
  rw [ExAt]
  exact ⟨b, vl, vr, vg, ys, h1 _ hs (Array.getElem?_eq_some_iff.1 e2).1, e1, e2, ExAt.mono h1 _ _ e3, ExAt.mono h1 _ _ e4, e5, fun i hi => h1 _ (e7 i hi) (own_lt e5 i hi), ExAt.mono h1 _ _ e6⟩
 ·obtain ⟨y, ys, e1, e2, e3⟩ := h
  rw [ExAt]
  exact ⟨y, ys, e1, ExAt.mono h1 _ _ e2, ExAt.mono h1 _ _ e3⟩
 ·rw [ExAt]; exact h
 ·rw [ExAt]; exact h
 ·exact h.elim
theorem ExAt.old {m n : Nat} {w : World} {t : Tr} {v : Value} (h : ExAt (Fr m) w t v) (hm : n ≤ m) : ExAt (Fr n) w t v := ExAt.mono (fun b hb _ => Nat.le_trans hm hb) t v h
theorem gr_keeps {P : Nat} {w w' : World} {cs : Array Value} (hP : w.heap[P]? = some (.cells cs 78)) (h : Gr P w w') (b : Nat) (ds : Array Value) (t : TypeId) (ht : t = 252 ∨ t = 145) (hb : w.heap[b]? = some (.cells ds t)) : w'.heap[b]? = some (.cells ds t) := by
 have hne : some b ≠ some P := fun e => by
  injection e with e
  subst e
  rw [hP] at hb
  injection hb with hb
  injection hb with _ h2
  rcases ht with rfl | rfl <;> exact absurd h2 (by decide)
 rw [h.block b (Array.getElem?_eq_some_iff.1 hb).1 hne]
 exact hb
theorem gSyn : Tryz.prog.globalNamed "strconv.ErrSyntax" = some 12 := by kernel_rfl
theorem gRng : Tryz.prog.globalNamed "strconv.ErrRange" = some 13 := by kernel_rfl
theorem Env.gr {P : Nat} {w w' : World} (h : Env w) (hg : Gr P w w') (hP : 14 ≤ P) : Env w' := by
 obtain ⟨m, hm⟩ := h.max
 obtain ⟨a, b, hs⟩ := h.syn
 obtain ⟨c, d, hr⟩ := h.rng
 have cell : ∀ x o v, x < 14 → w.cell? ⟨x, o, none⟩ = some v → w'.cell? ⟨x, o, none⟩ = some v := fun x o v hx hv => hg.cell hv (by intro e; injection e with e; have : x = P := e; omega)
 have var : ∀ (nm : String) (g : Nat) (cs : Array Value), g < 14 → Tryz.prog.globalNamed nm = some g → w.var? Tryz.prog nm = some cs → w'.var? Tryz.prog nm = some cs := fun nm g cs hlt hn hv => by
  unfold World.var? at *
  simp only [hn, Option.bind_some] at hv ⊢
  have hlt2 : g < w.heap.size := by
   rcases Nat.lt_or_ge g w.heap.size with h1 | h1
   ·exact h1
   ·rw [Array.getElem?_eq_none h1] at hv; simp at hv
  rw [hg.block g hlt2 (by intro e; injection e with e; omega)]
  exact hv
 exact ⟨⟨m, cell _ _ _ (by omega) hm⟩, fun j v hv => cell _ _ _ (by omega) (h.marks j v hv), fun j v hv => cell _ _ _ (by omega) (h.pairs j v hv), ⟨a, b, var _ 12 _ (by omega) gSyn hs⟩, ⟨c, d, var _ 13 _ (by omega) gRng hr⟩⟩
def ExPost (w : World) (P T : Nat) (r : R Tr) (e : Ending) (w' : World) : Prop :=
 match r with
 | .ok (t, l') => (∃ v o' c', e = .returned v ∧ ExAt (Fr w.heap.size) w' t v ∧ PS w' P T o' c' l') ∧ Gr P w w'
 | .error (k, p) => zC k p e w' ∧ Gr P w w'
theorem ExPost.back {w w1 w' : World} {P T : Nat} {r : R Tr} {e : Ending} (hg : Gr P w w1) (h : ExPost w1 P T r e w') : ExPost w P T r e w' := by
 match r, h with
 | .ok (t, l'), ⟨⟨v, o', c', a, b, d⟩, g⟩ => exact ⟨⟨v, o', c', a, b.old hg.size, d⟩, hg.trans g⟩
 | .error (k, p), ⟨a, b⟩ => exact ⟨a, hg.trans b⟩
structure At (w : World) (P T o c d : Nat) (l : List Tok) : Prop where
 env : Env w
 ps : PS w P T o c l
 ends : Ends l
 far : 14 ≤ P
 deep : d + l.length ≤ 100000
def BinC (n : Nat) : Prop := ∀ (lv d : Nat) (w : World) (P T o c : Nat) (l : List Tok), At w P T o c d l → 1 ≤ lv → lv ≤ 7 → 12 * l.length + (10 - lv) ≤ n → Calls Tryz.prog 235 #[.pointer (some ⟨P, 0, none⟩), .int .i64 (lv : Int), .int .i64 (d : Int)] w (ExPost w P T (exV n 0 lv d .nil 0 l))
theorem expr_walk (n : Nat) (IH : BinC n) (d : Nat) (w : World) (P T o c : Nat) (l : List Tok) (h : At w P T o c d l) (hn : 12 * l.length + 9 ≤ n) :
  Calls Tryz.prog 206 #[.pointer (some ⟨P, 0, none⟩), .int .i64 (d : Int)] w (ExPost w P T (exV n 0 1 d .nil 0 l)) := by
 have HB : Hid (Calls Tryz.prog 235 #[.pointer (some ⟨P, 0, none⟩), .int .i64 1, .int .i64 (d : Int)] w (ExPost w P T (exV n 0 1 d .nil 0 l))) := IH 1 d w P T o c l h (by omega) (by omega) (by omega)
 clear h IH
 cases hr : exV n 0 1 d .nil 0 l with
 | error kp =>
  obtain ⟨k, p⟩ := kp
  rw [hr] at HB
  have HB2 : Hid (Calls Tryz.prog 235 #[.pointer (some ⟨P, 0, none⟩), .int .i64 1, .int .i64 (d : Int)] w fun e w' => zC k p e w' ∧ Gr P w w') := HB.out
  have HPo : Hid (∀ e w', zC k p e w' ∧ Gr P w w' → ExPost w P T (.error (k, p)) e w') := fun e w' h => h
  clear HB hr
  go_enter Tryz.func206, Tryz.ntmps206
  go_wp2_with (go_at_call 235; refine HB2.out.mono ?_; rintro e w1 ⟨⟨a, rfl, ha⟩, hg⟩; have HA : Hid (w1.heap[a]? = some (.cells #[.int .i64 k, .int .i64 (p : Int)] 139)) := ha; have HG : Hid (Gr P w w1) := hg; clear ha hg)
  exact ⟨rfl, HPo.out _ _ ⟨⟨a, rfl, HA.out⟩, HG.out⟩⟩
 | ok tl =>
  obtain ⟨t, l'⟩ := tl
  rw [hr] at HB
  have HB2 : Hid (Calls Tryz.prog 235 #[.pointer (some ⟨P, 0, none⟩), .int .i64 1, .int .i64 (d : Int)] w fun e w' => (∃ v o' c', e = .returned v ∧ ExAt (Fr w.heap.size) w' t v ∧ PS w' P T o' c' l') ∧ Gr P w w') := HB.out
  have HPo : Hid (∀ e w', ((∃ v o' c', e = .returned v ∧ ExAt (Fr w.heap.size) w' t v ∧ PS w' P T o' c' l') ∧ Gr P w w') → ExPost w P T (.ok (t, l')) e w') := fun e w' h => h
  clear HB hr
  go_enter Tryz.func206, Tryz.ntmps206
  go_wp2_with (go_at_call 235; refine HB2.out.mono ?_; rintro e w1 ⟨⟨v, o', c', rfl, hx, hp⟩, hg⟩; have HX : Hid (ExAt (Fr w.heap.size) w1 t v) := hx; have HP : Hid (PS w1 P T o' c' l') := hp; have HG : Hid (Gr P w w1) := hg; clear hx hp hg)
  go_ret
  exact HPo.out _ _ ⟨⟨v, o', c', rfl, HX.out, HP.out⟩, HG.out⟩
theorem need_at {w : World} {P T o c d : Nat} {l : List Tok} (h : At w P T o c d l) (x : ByteArray) (hx : (hd l).t = x.data.toList) (hne : x.data.toList ≠ []) :
  (∀ W, PS W P T o c l → Gr P w W → Calls Tryz.prog 92 #[.pointer (some ⟨P, 0, none⟩), .string x] W fun e w' => e = .returned (.tuple #[]) ∧ PS w' P T (o + 3) (c - 1) l.tail ∧ Gr P w w') ∧ Ends l.tail ∧ l.tail.length < l.length := by
 obtain ⟨e1, e2, e3, e4⟩ := h.ends.tail (by rw [hx]; exact hne)
 refine ⟨fun W hp hg => ?_, e1, e4⟩
 have hp' : PS W P T o c (hd l :: l.tail) := by rw [← e3]; exact hp
 exact (need_yes W P T o c (hd l) l.tail hp' e2 x hx).mono fun e w' ⟨a, b, g⟩ => ⟨a, b, hg.trans g⟩
theorem need_bad {P T o c : Nat} {w : World} {l : List Tok} (he : Ends l) (x : ByteArray) (hx : (hd l).t ≠ x.data.toList) (W : World) (hp : PS W P T o c l) (hg : Gr P w W) :
  Calls Tryz.prog 92 #[.pointer (some ⟨P, 0, none⟩), .string x] W fun e w' => zC 3 (hd l).p e w' ∧ Gr P w w' := by
 have hp' : PS W P T o c (hd l :: l.tail) := by rw [← he.cons]; exact hp
 exact (need_no W P T o c (hd l) l.tail hp' x hx).mono fun e w' ⟨a, b⟩ => ⟨a, hg.trans (ze b)⟩
theorem qP {S : Nat → Prop} {P T o c : Nat} {w w' : World} {l : List Tok} {t : Tr} {v : Value} (hp : PS w P T o c l) (hg : Gr P w w') (h : ExAt S w t v) : ExAt S w' t v := ExAt.kept (fun b cs t _ => gr_keeps hp.own hg b cs t) t v h
theorem held_walk (n : Nat) (IH : BinC n) (d : Nat) (w : World) (P T o c : Nat) (l : List Tok) (h : At w P T o c d l) (hn : 12 * l.length ≤ n + 1) :
  Calls Tryz.prog 207 #[.pointer (some ⟨P, 0, none⟩), .int .i64 (d : Int)] w (ExPost w P T (exV (n + 1) 5 0 d .nil 0 l)) := by
 by_cases h40 : (hd l).t = [40]
 ·obtain ⟨hN1, he1, hlt1⟩ := need_at h ⟨#[40]⟩ h40 (by decide)
  have HN1 : Hid (Calls Tryz.prog 92 #[.pointer (some ⟨P, 0, none⟩), .string ⟨#[40]⟩] w fun e w' => e = .returned (.tuple #[]) ∧ PS w' P T (o + 3) (c - 1) l.tail ∧ Gr P w w') := hN1 w h.ps (Gr.refl _ _)
  have hdeep := h.deep
  have HEx : Hid (∀ w1, PS w1 P T (o + 3) (c - 1) l.tail → Gr P w w1 → Calls Tryz.prog 206 #[.pointer (some ⟨P, 0, none⟩), .int .i64 ((d : Int) + 1)] w1 (ExPost w1 P T (exV n 0 1 (d + 1) .nil 0 l.tail))) := fun w1 hp hg => by
   have := expr_walk n IH (d + 1) w1 P T (o + 3) (c - 1) l.tail ⟨h.env.gr hg h.far, hp, he1, h.far, by omega⟩ (by omega)
   rw [show ((d + 1 : Nat) : Int) = (d : Int) + 1 by omega] at this
   exact this
  have hM : exV (n + 1) 5 0 d .nil 0 l = bnd (exV n 0 1 (d + 1) .nil 0 l.tail) fun y l2 => bnd (zh [41] l2) fun _ l3 => .ok (y, l3) := by
   rw [exV]
   unfold zh
   rw [if_pos h40]
   rfl
  rw [hM]
  have hfar := h.far
  have hd2 : d ≤ 100000 := by omega
  cases hr : exV n 0 1 (d + 1) .nil 0 l.tail with
  | error kp =>
   obtain ⟨k, p⟩ := kp
   have HPo : Hid (∀ e w', zC k p e w' ∧ Gr P w w' → ExPost w P T (bnd (.error (k, p)) fun (y : Tr) l2 => bnd (zh [41] l2) fun _ l3 => .ok (y, l3)) e w') := fun e w' h => h
   have HE2 : Hid (∀ w1, PS w1 P T (o + 3) (c - 1) l.tail → Gr P w w1 → Calls Tryz.prog 206 #[.pointer (some ⟨P, 0, none⟩), .int .i64 ((d : Int) + 1)] w1 fun e w' => zC k p e w' ∧ Gr P w w') := fun w1 hp hg => by
    have := HEx.out w1 hp hg
    rw [hr] at this
    exact this.mono fun e w' h => ExPost.back hg h
   clear h h40 hN1 he1 hlt1 hdeep HEx hM hr hfar hn IH
   go_enter Tryz.func207, Tryz.ntmps207
   go_wp2_with (first
    |(go_at_call 92; refine HN1.out.mono ?_; rintro e w1 ⟨rfl, hp, hg⟩; have HP1 : Hid (PS w1 P T (o + 3) (c - 1) l.tail) := hp; have HG1 : Hid (Gr P w w1) := hg; clear hp hg)
    |(go_at_call 206; refine (HE2.out _ HP1.out HG1.out).mono ?_; rintro e w2 ⟨⟨a, rfl, ha⟩, hg⟩; have HA : Hid (w2.heap[a]? = some (.cells #[.int .i64 k, .int .i64 (p : Int)] 139)) := ha; have HG2 : Hid (Gr P w w2) := hg; clear ha hg))
   exact ⟨rfl, HPo.out _ _ ⟨⟨a, rfl, HA.out⟩, HG2.out⟩⟩
  | ok tl =>
   obtain ⟨t, l2⟩ := tl
   obtain ⟨he2, hlen2, _⟩ := zo n 0 1 (d + 1) .nil 0 l.tail t l2 (fun _ => by omega) he1 hr
   have HE2 : Hid (∀ w1, PS w1 P T (o + 3) (c - 1) l.tail → Gr P w w1 → Calls Tryz.prog 206 #[.pointer (some ⟨P, 0, none⟩), .int .i64 ((d : Int) + 1)] w1 fun e w' => (∃ v o' c', e = .returned v ∧ ExAt (Fr w.heap.size) w' t v ∧ PS w' P T o' c' l2) ∧ Gr P w w') := fun w1 hp hg => by
    have := HEx.out w1 hp hg
    rw [hr] at this
    exact this.mono fun e w' h => ExPost.back hg h
   by_cases h41 : (hd l2).t = [41]
   ·have HPo : Hid (∀ e w', ((∃ v o' c', e = .returned v ∧ ExAt (Fr w.heap.size) w' t v ∧ PS w' P T o' c' l2.tail) ∧ Gr P w w') → ExPost w P T (bnd (.ok (t, l2)) fun (y : Tr) l2 => bnd (zh [41] l2) fun _ l3 => .ok (y, l3)) e w') := fun e w' h => by
     show ExPost w P T (bnd (zh [41] l2) fun _ l3 => .ok (t, l3)) e w'
     unfold zh
     rw [if_pos h41]
     exact h
    obtain ⟨f1, f2, f3, f4⟩ := he2.tail (by rw [h41]; simp)
    have HN2 : Hid (∀ w2 o' c', PS w2 P T o' c' l2 → Gr P w w2 → Calls Tryz.prog 92 #[.pointer (some ⟨P, 0, none⟩), .string ⟨#[41]⟩] w2 fun e w' => e = .returned (.tuple #[]) ∧ PS w' P T (o' + 3) (c' - 1) l2.tail ∧ Gr P w2 w' ∧ Gr P w w') := fun w2 o' c' hp hg => by
     have hp' : PS w2 P T o' c' (hd l2 :: l2.tail) := by rw [← f3]; exact hp
     exact (need_yes w2 P T o' c' (hd l2) l2.tail hp' f2 ⟨#[41]⟩ h41).mono fun e w' ⟨a, b, g⟩ => ⟨a, b, g, hg.trans g⟩
    clear h h40 hN1 he1 hlt1 hdeep HEx hM hr hfar hn IH h41 he2 hlen2 f1 f2 f3 f4
    go_enter Tryz.func207, Tryz.ntmps207
    go_wp2_with (go_at_call 92; fail)
    refine HN1.out.mono ?_
    rintro e w1 ⟨rfl, hp1, hg1⟩
    have HP1 : Hid (PS w1 P T (o + 3) (c - 1) l.tail) := hp1
    have HG1 : Hid (Gr P w w1) := hg1
    clear hp1 hg1
    go_wp2_with (go_at_call 206; fail)
    refine (HE2.out _ HP1.out HG1.out).mono ?_
    rintro e w2 ⟨⟨v, o', c', rfl, hx2, hp2⟩, hg2⟩
    have HX2 : Hid (ExAt (Fr w.heap.size) w2 t v) := hx2
    have HP2 : Hid (PS w2 P T o' c' l2) := hp2
    have HG2 : Hid (Gr P w w2) := hg2
    clear hx2 hp2 hg2
    go_wp2_with (go_at_call 92; fail)
    refine (HN2.out _ _ _ HP2.out HG2.out).mono ?_
    rintro e w3 ⟨rfl, hp3, hg3, hg4⟩
    have HX3 : Hid (ExAt (Fr w.heap.size) w3 t v) := qP HP2.out hg3 HX2.out
    have HP3 : Hid (PS w3 P T (o' + 3) (c' - 1) l2.tail) := hp3
    have HG3 : Hid (Gr P w w3) := hg4
    clear hp3 hg3 hg4
    go_wp2
    go_ret
    exact HPo.out _ _ ⟨⟨v, _, _, rfl, HX3.out, HP3.out⟩, HG3.out⟩
   ·have HPo : Hid (∀ e w', zC 3 (hd l2).p e w' ∧ Gr P w w' → ExPost w P T (bnd (.ok (t, l2)) fun (y : Tr) l2 => bnd (zh [41] l2) fun _ l3 => .ok (y, l3)) e w') := fun e w' h => by
     show ExPost w P T (bnd (zh [41] l2) fun _ l3 => .ok (t, l3)) e w'
     unfold zh
     rw [if_neg h41]
     exact h
    have HN2 : Hid (∀ w2 o' c', PS w2 P T o' c' l2 → Gr P w w2 → Calls Tryz.prog 92 #[.pointer (some ⟨P, 0, none⟩), .string ⟨#[41]⟩] w2 fun e w' => zC 3 (hd l2).p e w' ∧ Gr P w w') := fun w2 o' c' hp hg => need_bad he2 ⟨#[41]⟩ h41 w2 hp hg
    clear h h40 hN1 he1 hlt1 hdeep HEx hM hr hfar hn IH h41 he2 hlen2
    go_enter Tryz.func207, Tryz.ntmps207
    go_wp2_with (go_at_call 92; fail)
    refine HN1.out.mono ?_
    rintro e w1 ⟨rfl, hp1, hg1⟩
    have HP1 : Hid (PS w1 P T (o + 3) (c - 1) l.tail) := hp1
    have HG1 : Hid (Gr P w w1) := hg1
    clear hp1 hg1
    go_wp2_with (go_at_call 206; fail)
    refine (HE2.out _ HP1.out HG1.out).mono ?_
    rintro e w2 ⟨⟨v, o', c', rfl, hx2, hp2⟩, hg2⟩
    have HP2 : Hid (PS w2 P T o' c' l2) := hp2
    have HG2 : Hid (Gr P w w2) := hg2
    clear hx2 hp2 hg2
    go_wp2_with (go_at_call 92; fail)
    refine (HN2.out _ _ _ HP2.out HG2.out).mono ?_
    rintro e w3 ⟨⟨a, rfl, ha⟩, hg3⟩
    exact ⟨rfl, HPo.out _ _ ⟨⟨a, rfl, ha⟩, hg3⟩⟩
 ·have HN1 : Hid (Calls Tryz.prog 92 #[.pointer (some ⟨P, 0, none⟩), .string ⟨#[40]⟩] w fun e w' => zC 3 (hd l).p e w' ∧ Gr P w w') := need_bad h.ends ⟨#[40]⟩ h40 w h.ps (Gr.refl _ _)
  have HPo : Hid (∀ e w', zC 3 (hd l).p e w' ∧ Gr P w w' → ExPost w P T (exV (n + 1) 5 0 d .nil 0 l) e w') := fun e w' h => by
   rw [exV]
   unfold zh
   rw [if_neg h40]
   exact h
  clear h h40 IH hn
  go_enter Tryz.func207, Tryz.ntmps207
  go_wp2_with (go_at_call 92; fail)
  refine HN1.out.mono ?_
  rintro e w3 ⟨⟨a, rfl, ha⟩, hg3⟩
  exact ⟨rfl, HPo.out _ _ ⟨⟨a, rfl, ha⟩, hg3⟩⟩
theorem index_walk (n : Nat) (IH : BinC n) (d : Nat) (w : World) (P T o c : Nat) (l : List Tok) (h : At w P T o c (d + 1) l) (hn : 12 * l.length + 9 ≤ n) :
  Calls Tryz.prog 234 #[.pointer (some ⟨P, 0, none⟩), .int .i64 (d : Int)] w (ExPost w P T (exV (n + 1) 6 0 d .nil 0 l)) := by
 have hdeep := h.deep
 have HEx : Hid (Calls Tryz.prog 206 #[.pointer (some ⟨P, 0, none⟩), .int .i64 ((d : Int) + 1)] w (ExPost w P T (exV n 0 1 (d + 1) .nil 0 l))) := by
  have := expr_walk n IH (d + 1) w P T o c l h hn
  rw [show ((d + 1 : Nat) : Int) = (d : Int) + 1 by omega] at this
  exact this
 have hM : exV (n + 1) 6 0 d .nil 0 l = bnd (exV n 0 1 (d + 1) .nil 0 l) fun y l2 => bnd (zh [93] l2) fun _ l3 => .ok (y, l3) := by rw [exV]
 rw [hM]
 have hd2 : d ≤ 100000 := by omega
 have he1 := h.ends
 cases hr : exV n 0 1 (d + 1) .nil 0 l with
 | error kp =>
  obtain ⟨k, p⟩ := kp
  have HPo : Hid (∀ e w', zC k p e w' ∧ Gr P w w' → ExPost w P T (bnd (.error (k, p)) fun (y : Tr) l2 => bnd (zh [93] l2) fun _ l3 => .ok (y, l3)) e w') := fun e w' h => h
  rw [hr] at HEx
  have HE2 : Hid (Calls Tryz.prog 206 #[.pointer (some ⟨P, 0, none⟩), .int .i64 ((d : Int) + 1)] w fun e w' => zC k p e w' ∧ Gr P w w') := HEx.out
  clear h hdeep HEx hM hr hn IH he1
  go_enter Tryz.func234, Tryz.ntmps234
  go_wp2_with (go_at_call 206; fail)
  refine HE2.out.mono ?_
  rintro e w3 ⟨⟨a, rfl, ha⟩, hg3⟩
  exact ⟨rfl, HPo.out _ _ ⟨⟨a, rfl, ha⟩, hg3⟩⟩
 | ok tl =>
  obtain ⟨t, l2⟩ := tl
  obtain ⟨he2, hlen2, _⟩ := zo n 0 1 (d + 1) .nil 0 l t l2 (fun _ => by omega) he1 hr
  rw [hr] at HEx
  have HE2 : Hid (Calls Tryz.prog 206 #[.pointer (some ⟨P, 0, none⟩), .int .i64 ((d : Int) + 1)] w fun e w' => (∃ v o' c', e = .returned v ∧ ExAt (Fr w.heap.size) w' t v ∧ PS w' P T o' c' l2) ∧ Gr P w w') := HEx.out
  by_cases h41 : (hd l2).t = [93]
  ·have HPo : Hid (∀ e w', ((∃ v o' c', e = .returned v ∧ ExAt (Fr w.heap.size) w' t v ∧ PS w' P T o' c' l2.tail) ∧ Gr P w w') → ExPost w P T (bnd (.ok (t, l2)) fun (y : Tr) l2 => bnd (zh [93] l2) fun _ l3 => .ok (y, l3)) e w') := fun e w' h => by
    show ExPost w P T (bnd (zh [93] l2) fun _ l3 => .ok (t, l3)) e w'
    unfold zh
    rw [if_pos h41]
    exact h
   obtain ⟨f1, f2, f3, f4⟩ := he2.tail (by rw [h41]; simp)
   have HN2 : Hid (∀ w2 o' c', PS w2 P T o' c' l2 → Gr P w w2 → Calls Tryz.prog 92 #[.pointer (some ⟨P, 0, none⟩), .string ⟨#[93]⟩] w2 fun e w' => e = .returned (.tuple #[]) ∧ PS w' P T (o' + 3) (c' - 1) l2.tail ∧ Gr P w2 w' ∧ Gr P w w') := fun w2 o' c' hp hg => by
    have hp' : PS w2 P T o' c' (hd l2 :: l2.tail) := by rw [← f3]; exact hp
    exact (need_yes w2 P T o' c' (hd l2) l2.tail hp' f2 ⟨#[93]⟩ h41).mono fun e w' ⟨a, b, g⟩ => ⟨a, b, g, hg.trans g⟩
   clear h hdeep HEx hM hr hn IH he1 h41 he2 hlen2 f1 f2 f3 f4
   go_enter Tryz.func234, Tryz.ntmps234
   go_wp2_with (go_at_call 206; fail)
   refine HE2.out.mono ?_
   rintro e w2 ⟨⟨v, o', c', rfl, hx2, hp2⟩, hg2⟩
   have HX2 : Hid (ExAt (Fr w.heap.size) w2 t v) := hx2
   have HP2 : Hid (PS w2 P T o' c' l2) := hp2
   have HG2 : Hid (Gr P w w2) := hg2
   clear hx2 hp2 hg2
   go_wp2_with (go_at_call 92; fail)
   refine (HN2.out _ _ _ HP2.out HG2.out).mono ?_
   rintro e w3 ⟨rfl, hp3, hg3, hg4⟩
   have HX3 : Hid (ExAt (Fr w.heap.size) w3 t v) := qP HP2.out hg3 HX2.out
   have HP3 : Hid (PS w3 P T (o' + 3) (c' - 1) l2.tail) := hp3
   have HG3 : Hid (Gr P w w3) := hg4
   clear hp3 hg3 hg4
   go_wp2
   go_ret
   exact HPo.out _ _ ⟨⟨v, _, _, rfl, HX3.out, HP3.out⟩, HG3.out⟩
  ·have HPo : Hid (∀ e w', zC 3 (hd l2).p e w' ∧ Gr P w w' → ExPost w P T (bnd (.ok (t, l2)) fun (y : Tr) l2 => bnd (zh [93] l2) fun _ l3 => .ok (y, l3)) e w') := fun e w' h => by
    show ExPost w P T (bnd (zh [93] l2) fun _ l3 => .ok (t, l3)) e w'
    unfold zh
    rw [if_neg h41]
    exact h
   have HN2 : Hid (∀ w2 o' c', PS w2 P T o' c' l2 → Gr P w w2 → Calls Tryz.prog 92 #[.pointer (some ⟨P, 0, none⟩), .string ⟨#[93]⟩] w2 fun e w' => zC 3 (hd l2).p e w' ∧ Gr P w w') := fun w2 o' c' hp hg => need_bad he2 ⟨#[93]⟩ h41 w2 hp hg
   clear h hdeep HEx hM hr hn IH he1 h41 he2 hlen2
   go_enter Tryz.func234, Tryz.ntmps234
   go_wp2_with (go_at_call 206; fail)
   refine HE2.out.mono ?_
   rintro e w2 ⟨⟨v, o', c', rfl, hx2, hp2⟩, hg2⟩
   have HP2 : Hid (PS w2 P T o' c' l2) := hp2
   have HG2 : Hid (Gr P w w2) := hg2
   clear hx2 hp2 hg2
   go_wp2_with (go_at_call 92; fail)
   refine (HN2.out _ _ _ HP2.out HG2.out).mono ?_
   rintro e w3 ⟨⟨a, rfl, ha⟩, hg3⟩
   exact ⟨rfl, HPo.out _ _ ⟨⟨a, rfl, ha⟩, hg3⟩⟩
theorem node_at {S : Nat → Prop} {w : World} {b : Nat} {c a n : Int} {nm op : By} {l r : Tr} {vl vr : Value} (hs : S b) (hb : w.heap[b]? = some (.cells #[.int .i64 c, .int .i64 a, .int .i64 n, str nm, str op, vl, vr, .slice none 0 0] 252)) (hl : ExAt S w l vl) (hr : ExAt S w r vr) : ExAt S w (nd c a n nm op l r ce) (.pointer (some ⟨b, 0, none⟩)) := by
 rw [ExAt]
 exact ⟨b, vl, vr, .slice none 0 0, [], hs, rfl, hb, hl, hr, World.ownsRow_nil w _ _ _, fun i hi => (by cases hi), (by rw [ExAt])⟩
theorem qj (S : Nat → Prop) (w : World) : ExAt S w .nil (.pointer none) := by rw [ExAt]
theorem ex_alloc {S : Nat → Prop} {w : World} {t : Tr} {v : Value} (h : ExAt S w t v) (A : Obj) : ExAt S (w.alloc A) t v :=
 ExAt.kept (fun b cs t _ _ hb => by rw [zc (Array.getElem?_eq_some_iff.1 hb).1]; exact hb) t v h
theorem node_new {S : Nat → Prop} {w : World} {c a n : Int} {nm op : By} {l r : Tr} {vl vr : Value} (hs : S w.heap.size) (hl : ExAt S w l vl) (hr : ExAt S w r vr) : ExAt S (w.alloc (.cells #[.int .i64 c, .int .i64 a, .int .i64 n, str nm, str op, vl, vr, .slice none 0 0] 252)) (nd c a n nm op l r ce) (.pointer (some ⟨w.heap.size, 0, none⟩)) :=
 node_at hs (by show (w.heap.push _)[w.heap.size]? = _; simp) (ex_alloc hl _) (ex_alloc hr _)
def OneC (n : Nat) : Prop := ∀ (d : Nat) (w : World) (P T o c : Nat) (l : List Tok), At w P T o c d l → 12 * l.length + 2 ≤ n → Calls Tryz.prog 247 #[.pointer (some ⟨P, 0, none⟩), .int .i64 (d : Int)] w (ExPost w P T (exV n 2 0 d .nil 0 l))
theorem bin_last (n : Nat) (IH : OneC n) (d : Nat) (w : World) (P T o c : Nat) (l : List Tok) (h : At w P T o c d l) (hn : 12 * l.length + 2 ≤ n) :
  Calls Tryz.prog 235 #[.pointer (some ⟨P, 0, none⟩), .int .i64 7, .int .i64 (d : Int)] w (ExPost w P T (exV (n + 1) 0 7 d .nil 0 l)) := by
 have HB : Hid (Calls Tryz.prog 247 #[.pointer (some ⟨P, 0, none⟩), .int .i64 (d : Int)] w (ExPost w P T (exV n 2 0 d .nil 0 l))) := IH d w P T o c l h hn
 clear h IH
 have hM : exV (n + 1) 0 7 d .nil 0 l = exV n 2 0 d .nil 0 l := by
  rw [exV]
  simp
 rw [hM]
 cases hr : exV n 2 0 d .nil 0 l with
 | error kp =>
  obtain ⟨k, p⟩ := kp
  rw [hr] at HB
  have HB2 : Hid (Calls Tryz.prog 247 #[.pointer (some ⟨P, 0, none⟩), .int .i64 (d : Int)] w fun e w' => zC k p e w' ∧ Gr P w w') := HB.out
  have HPo : Hid (∀ e w', zC k p e w' ∧ Gr P w w' → ExPost w P T (.error (k, p)) e w') := fun e w' h => h
  clear HB hr hM hn
  go_enter Tryz.func235, Tryz.ntmps235
  go_wp2_with (go_at_call 247; refine HB2.out.mono ?_; rintro e w1 ⟨⟨a, rfl, ha⟩, hg⟩; have HA : Hid (w1.heap[a]? = some (.cells #[.int .i64 k, .int .i64 (p : Int)] 139)) := ha; have HG : Hid (Gr P w w1) := hg; clear ha hg)
  exact ⟨rfl, HPo.out _ _ ⟨⟨a, rfl, HA.out⟩, HG.out⟩⟩
 | ok tl =>
  obtain ⟨t, l'⟩ := tl
  rw [hr] at HB
  have HB2 : Hid (Calls Tryz.prog 247 #[.pointer (some ⟨P, 0, none⟩), .int .i64 (d : Int)] w fun e w' => (∃ v o' c', e = .returned v ∧ ExAt (Fr w.heap.size) w' t v ∧ PS w' P T o' c' l') ∧ Gr P w w') := HB.out
  have HPo : Hid (∀ e w', ((∃ v o' c', e = .returned v ∧ ExAt (Fr w.heap.size) w' t v ∧ PS w' P T o' c' l') ∧ Gr P w w') → ExPost w P T (.ok (t, l')) e w') := fun e w' h => h
  clear HB hr hM hn
  go_enter Tryz.func235, Tryz.ntmps235
  go_wp2_with (go_at_call 247; refine HB2.out.mono ?_; rintro e w1 ⟨⟨v, o', c', rfl, hx, hp⟩, hg⟩; have HX : Hid (ExAt (Fr w.heap.size) w1 t v) := hx; have HP : Hid (PS w1 P T o' c' l') := hp; have HG : Hid (Gr P w w1) := hg; clear hx hp hg)
  go_ret
  exact HPo.out _ _ ⟨⟨v, o', c', rfl, HX.out, HP.out⟩, HG.out⟩
theorem one_deep (n : Nat) (d : Nat) (w : World) (P T o c : Nat) (l : List Tok) (h : At w P T o c d l) (hd1 : 12 < d) (hk : (hd l).k ≠ 3) :
  Calls Tryz.prog 247 #[.pointer (some ⟨P, 0, none⟩), .int .i64 (d : Int)] w (ExPost w P T (exV (n + 1) 2 0 d .nil 0 l)) := by
 have hdd := h.deep
 have hp' : PS w P T o c (hd l :: l.tail) := by rw [← h.ends.cons]; exact h.ps
 have HB : Hid (Calls Tryz.prog 148 #[.pointer (some ⟨P, 0, none⟩), .int .i64 (d : Int)] w fun e w' => zC 4 (hd l).p e w' ∧ Gr P w w') := (bound_no w P T o c (hd l) l.tail hp' d hd1 (by omega) hk).mono fun e w' ⟨a, b⟩ => ⟨a, ze b⟩
 have HPo : Hid (∀ e w', zC 4 (hd l).p e w' ∧ Gr P w w' → ExPost w P T (exV (n + 1) 2 0 d .nil 0 l) e w') := fun e w' h => by
  rw [exV]
  unfold boundV
  rw [if_pos ⟨hd1, hk⟩]
  exact h
 clear h hdd hp' hk hd1
 go_enter Tryz.func247, Tryz.ntmps247
 go_wp2_with (go_at_call 148; fail)
 refine HB.out.mono ?_
 rintro e w1 ⟨⟨a, rfl, ha⟩, hg⟩
 exact ⟨rfl, HPo.out _ _ ⟨⟨a, rfl, ha⟩, hg⟩⟩
theorem look_at {w : World} {P T o c d : Nat} {l : List Tok} (h : At w P T o c d l) (y : ByteArray) (hy : str (hd l).t = .string y) (W : World) (hb : Below w.heap.size w W) :
  Calls Tryz.prog 59 #[.pointer (some ⟨P, 0, none⟩)] W fun e w' => e = .returned (.agg #[.int .i64 ((hd l).k : Int), .string y, .int .i64 ((hd l).p : Int)]) ∧ Below w.heap.size w w' := by
 have hp' : PS W P T o c (hd l :: l.tail) := by rw [← h.ends.cons]; exact h.ps.below hb
 exact (qB W P T o c (hd l) l.tail hp' y hy).mono fun e w' ⟨a, b⟩ => ⟨a, hb.trans (b.mono hb.size)⟩
theorem bound_at {w : World} {P T o c d : Nat} {l : List Tok} (h : At w P T o c d l) (hk : d ≤ 12 ∨ (hd l).k = 3) :
  Calls Tryz.prog 148 #[.pointer (some ⟨P, 0, none⟩), .int .i64 (d : Int)] w fun e w' => e = .returned (.tuple #[]) ∧ Below w.heap.size w w' := by
 have hdd := h.deep
 have hp' : PS w P T o c (hd l :: l.tail) := by rw [← h.ends.cons]; exact h.ps
 exact bound_yes w P T o c (hd l) l.tail hp' d (by omega) hk
end Go.Proofs.YtnfhpdbbfejioaaGreatDoor
