/- Expressions in memory. -/
import Derived.Test.YtpakgaegckkmnaaGreatDoorT7
import Derived.Test.YtpakgaegckkmnaaGreatDoorT8
namespace Go.Proofs.YtpakgaegckkmnaaGreatDoor
set_option linter.unusedVariables false
set_option linter.unusedSimpArgs false
open Go Go.RowKit

/-- A tree lies behind a value (a chain: its values, one by one), in blocks of a set. -/
def ExAt (S : Nat → Prop) (w : World) : Tr → Value → Prop
  | .agg [.lit (.int _ c), .lit (.int _ a), .lit (.int _ n), .lit (.string nm), .lit (.string op), l, r, g], v =>
    ∃ (b : Nat) (vl vr vg : Value) (ys : List Value), S b ∧ v = .pointer (some ⟨b, 0, none⟩) ∧ w.heap[b]? = some (.cells #[.int .i64 c, .int .i64 a, .int .i64 n, str nm, str op, vl, vr, vg] 134) ∧ ExAt S w l vl ∧ ExAt S w r vr ∧ w.ownsRow 0 84 1 vg ys.length ys ∧ (∀ i, vg.ownBlock = some i → S i) ∧ ExAt S w g (.tuple ys.toArray)
  | .slice [x] [g], v => ∃ (y : Value) (ys : List Value), v = .tuple (y :: ys).toArray ∧ ExAt S w x y ∧ ExAt S w g (.tuple ys.toArray)
  | .slice [] [], v => v = .tuple #[]
  | .nil, v => v = .pointer none
  | _, _ => False
/-- Blocks that are new. -/
abbrev Fr (n : Nat) : Nat → Prop := fun b => n ≤ b
theorem own_kept {S : Nat → Prop} {w w' : World} (h1 : ∀ (b : Nat) (cs : Array Value) (t : TypeId), S b → t = 134 ∨ t = 84 → w.heap[b]? = some (.cells cs t) → w'.heap[b]? = some (.cells cs t)) {v : Value} {n : Nat} {ys : List Value} (h : w.ownsRow 0 84 1 v n ys) (hs : ∀ i, v.ownBlock = some i → S i) : w'.ownsRow 0 84 1 v n ys := by
  refine ⟨h.1, ?_⟩
  rcases h.2 with hh | ⟨g', cap, cur, hv, hb, hg, rest⟩
  · exact .inl hh
  · exact .inr ⟨g', cap, cur, hv, hb, h1 _ _ _ (hs g' (by rw [hv]; rfl)) (.inr rfl) hg, rest⟩
theorem ExAt.kept {S : Nat → Prop} {w w' : World} (h1 : ∀ (b : Nat) (cs : Array Value) (t : TypeId), S b → t = 134 ∨ t = 84 → w.heap[b]? = some (.cells cs t) → w'.heap[b]? = some (.cells cs t)) (t : Tr) (v : Value) (h : ExAt S w t v) : ExAt S w' t v := by
  unfold ExAt at h
  split at h
  · obtain ⟨b, vl, vr, vg, ys, hs, e1, e2, e3, e4, e5, e7, e6⟩ := h
    rw [ExAt]
    exact ⟨b, vl, vr, vg, ys, hs, e1, h1 _ _ _ hs (.inl rfl) e2, ExAt.kept h1 _ _ e3, ExAt.kept h1 _ _ e4, own_kept h1 e5 e7, e7, ExAt.kept h1 _ _ e6⟩
  · obtain ⟨y, ys, e1, e2, e3⟩ := h
    rw [ExAt]
    exact ⟨y, ys, e1, ExAt.kept h1 _ _ e2, ExAt.kept h1 _ _ e3⟩
  · rw [ExAt]; exact h
  · rw [ExAt]; exact h
  · exact h.elim
theorem own_lt {w : World} {B e z n : Nat} {v : Value} {l : List Value} (h : w.ownsRow B e z v n l) (i : Nat) (hi : v.ownBlock = some i) : i < w.heap.size := (h.lt i hi).2
/-- In a greater set; blocks are there. -/
theorem ExAt.mono {S S' : Nat → Prop} {w : World} (h1 : ∀ b, S b → b < w.heap.size → S' b) (t : Tr) (v : Value) (h : ExAt S w t v) : ExAt S' w t v := by
  unfold ExAt at h
  split at h
  · obtain ⟨b, vl, vr, vg, ys, hs, e1, e2, e3, e4, e5, e7, e6⟩ := h
    rw [ExAt]
    exact ⟨b, vl, vr, vg, ys, h1 _ hs (Array.getElem?_eq_some_iff.1 e2).1, e1, e2, ExAt.mono h1 _ _ e3, ExAt.mono h1 _ _ e4, e5, fun i hi => h1 _ (e7 i hi) (own_lt e5 i hi), ExAt.mono h1 _ _ e6⟩
  · obtain ⟨y, ys, e1, e2, e3⟩ := h
    rw [ExAt]
    exact ⟨y, ys, e1, ExAt.mono h1 _ _ e2, ExAt.mono h1 _ _ e3⟩
  · rw [ExAt]; exact h
  · rw [ExAt]; exact h
  · exact h.elim
theorem ExAt.old {m n : Nat} {w : World} {t : Tr} {v : Value} (h : ExAt (Fr m) w t v) (hm : n ≤ m) : ExAt (Fr n) w t v := ExAt.mono (fun b hb _ => Nat.le_trans hm hb) t v h
theorem gr_keeps {P : Nat} {w w' : World} {cs : Array Value} (hP : w.heap[P]? = some (.cells cs 49)) (h : Gr P w w') (b : Nat) (ds : Array Value) (t : TypeId) (ht : t = 134 ∨ t = 84) (hb : w.heap[b]? = some (.cells ds t)) : w'.heap[b]? = some (.cells ds t) := by
  have hne : some b ≠ some P := fun e => by
    injection e with e
    subst e
    rw [hP] at hb
    injection hb with hb
    injection hb with _ h2
    rcases ht with rfl | rfl <;> exact absurd h2 (by decide)
  rw [h.block b (Array.getElem?_eq_some_iff.1 hb).1 hne]
  exact hb
end Go.Proofs.YtpakgaegckkmnaaGreatDoor
