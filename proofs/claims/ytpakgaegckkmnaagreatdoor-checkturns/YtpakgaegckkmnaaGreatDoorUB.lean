/- Statements in memory; readers of expressions at depth 0. -/
import Derived.Test.YtpakgaegckkmnaaGreatDoorUA
namespace Go.Proofs.YtpakgaegckkmnaaGreatDoor
set_option linter.unusedVariables false
open Go Go.RowKit

/-- Types of trees: neither the parser's, nor bytes, nor a builder's. -/
abbrev Ot (t : TypeId) : Prop := t ≠ 49 ∧ t ≠ 5 ∧ t ≠ 54
/-- Blocks of a set stand. -/
def Keeps (S : Nat → Prop) (w w' : World) : Prop := ∀ (b : Nat) (cs : Array Value) (t : TypeId), S b → Ot t → w.heap[b]? = some (.cells cs t) → w'.heap[b]? = some (.cells cs t)
theorem Keeps.trans {S : Nat → Prop} {a b c : World} (h : Keeps S a b) (g : Keeps S b c) : Keeps S a c := fun k cs t hk ht hb => g k cs t hk ht (h k cs t hk ht hb)
theorem Keeps.gr {S : Nat → Prop} {P T o c : Nat} {w w' : World} {l : List Tok} (hp : PS w P T o c l) (hg : Gr P w w') : Keeps S w w' := fun b cs t _ ht hb => by
  have hne : b ≠ P := fun e => by
    subst e
    rw [hp.own] at hb
    injection hb with hb
    injection hb with _ h2
    exact ht.1 h2.symm
  exact hg.blk hb hne
theorem Keeps.set {m q i : Nat} {w : World} {v : Value} (hq : q < m) : Keeps (Fr m) w (w.setCell ⟨q, i, none⟩ v) := fun b cs t hb ht h => by
  rw [heap_setCell_other _ _ _ _ (by show b ≠ q; have : m ≤ b := hb; omega)]
  exact h
theorem Keeps.alloc {S : Nat → Prop} {w : World} (A : Obj) : Keeps S w (w.alloc A) := fun b cs t _ _ h => by
  rw [row_eq_alloc (Array.getElem?_eq_some_iff.1 h).1]; exact h
theorem Keeps.ex {S : Nat → Prop} {w w' : World} (h : Keeps S w w') {t : Tr} {v : Value} (hx : ExAt S w t v) : ExAt S w' t v :=
  ExAt.kept (fun b cs t hb ht => h b cs t hb (by rcases ht with rfl | rfl <;> decide)) t v hx
theorem Keeps.row {S : Nat → Prop} {w w' : World} (h : Keeps S w w') {B e z n : Nat} {v : Value} {ys : List Value} (he : Ot e) (hr : w.ownsRow B e z v n ys) (hs : ∀ i, v.ownBlock = some i → S i) : w'.ownsRow B e z v n ys := by
  refine ⟨hr.1, ?_⟩
  rcases hr.2 with hh | ⟨g', cap, cur, hv, hb, hg, rest⟩
  · exact .inl hh
  · exact .inr ⟨g', cap, cur, hv, hb, h _ _ _ (hs g' (by rw [hv]; rfl)) he hg, rest⟩

/-- A row of statements. -/
def RowS (S : Nat → Prop) (w : World) (e z : Nat) (v : Value) (n : Nat) (cs : List Value) : Prop := w.ownsRow 0 e z v n cs ∧ ∀ i, v.ownBlock = some i → S i
theorem RowS.kept {S : Nat → Prop} {w w' : World} {e z n : Nat} {v : Value} {cs : List Value} (h : RowS S w e z v n cs) (hk : Keeps S w w') (he : Ot e) : RowS S w' e z v n cs := ⟨hk.row he h.1 h.2, h.2⟩
theorem RowS.mono {S S' : Nat → Prop} {w : World} {e z n : Nat} {v : Value} {cs : List Value} (h : RowS S w e z v n cs) (hm : ∀ b, S b → b < w.heap.size → S' b) : RowS S' w e z v n cs := ⟨h.1, fun i hi => hm i (h.2 i hi) (own_lt h.1 i hi)⟩
theorem RowS.none (S : Nat → Prop) (w : World) (e z : Nat) : RowS S w e z (.slice none 0 0) 0 [] := ⟨World.ownsRow_nil w _ _ _, fun i hi => by cases hi⟩
/-- Statements, one behind the other: their cells. -/
def StAt (S : Nat → Prop) (w : World) : Tr → List Value → Prop
  | .slice [.agg [.lit (.int _ c), .lit (.int _ a), .lit (.string nm), ix, v, th, el]] [g], cs =>
    ∃ (vi vv : Option Addr) (vt ve : Value) (nt ne : Nat) (ts es rest : List Value), cs = [.int .i64 c, .int .i64 a, str nm, .pointer vi, .pointer vv, vt, ve] ++ rest ∧ ExAt S w ix (.pointer vi) ∧ ExAt S w v (.pointer vv) ∧ RowS S w 86 7 vt nt ts ∧ StAt S w th ts ∧ RowS S w 86 7 ve ne es ∧ StAt S w el es ∧ StAt S w g rest
  | .slice [] [], cs => cs = []
  | _, _ => False
theorem StAt.kept {S : Nat → Prop} {w w' : World} (h1 : Keeps S w w') (t : Tr) (cs : List Value) (h : StAt S w t cs) : StAt S w' t cs := by
  unfold StAt at h
  split at h
  · obtain ⟨vi, vv, vt, ve, nt, ne, ts, es, rest, e, a1, a2, a3, a4, a5, a6, a7⟩ := h
    rw [StAt]
    exact ⟨vi, vv, vt, ve, nt, ne, ts, es, rest, e, h1.ex a1, h1.ex a2, a3.kept h1 (by decide), StAt.kept h1 _ _ a4, a5.kept h1 (by decide), StAt.kept h1 _ _ a6, StAt.kept h1 _ _ a7⟩
  · rw [StAt]; exact h
  · exact h.elim
theorem StAt.mono {S S' : Nat → Prop} {w : World} (h1 : ∀ b, S b → b < w.heap.size → S' b) (t : Tr) (cs : List Value) (h : StAt S w t cs) : StAt S' w t cs := by
  unfold StAt at h
  split at h
  · obtain ⟨vi, vv, vt, ve, nt, ne, ts, es, rest, e, a1, a2, a3, a4, a5, a6, a7⟩ := h
    rw [StAt]
    exact ⟨vi, vv, vt, ve, nt, ne, ts, es, rest, e, ExAt.mono h1 _ _ a1, ExAt.mono h1 _ _ a2, a3.mono h1, StAt.mono h1 _ _ a4, a5.mono h1, StAt.mono h1 _ _ a6, StAt.mono h1 _ _ a7⟩
  · rw [StAt]; exact h
  · exact h.elim
theorem StAt.old {m n : Nat} {w : World} {t : Tr} {cs : List Value} (h : StAt (Fr m) w t cs) (hm : n ≤ m) : StAt (Fr n) w t cs := StAt.mono (fun b hb _ => Nat.le_trans hm hb) t cs h
theorem st_none (S : Nat → Prop) (w : World) : StAt S w ce [] := by rw [StAt]
/-- A statement without blocks, of its cells. -/
theorem st_plain {S : Nat → Prop} {w : World} {c a : Int} {nm : By} {ix v : Tr} {vi vv : Option Addr} (hi : ExAt S w ix (.pointer vi)) (hv : ExAt S w v (.pointer vv)) : StAt S w (cc (st c a nm ix v ce ce) ce) [.int .i64 c, .int .i64 a, str nm, .pointer vi, .pointer vv, .slice none 0 0, .slice none 0 0] := by
  rw [StAt]
  exact ⟨vi, vv, _, _, 0, 0, [], [], [], rfl, hi, hv, RowS.none S w 86 7, st_none S w, RowS.none S w 86 7, st_none S w, st_none S w⟩

theorem At.zero {w : World} {P T o c d : Nat} {l : List Tok} (h : At w P T o c d l) : At w P T o c 0 l := ⟨h.env, h.ps, h.ends, h.far, by have := h.deep; omega⟩
theorem expr_at {w : World} {P T o c d : Nat} {l : List Tok} (h : At w P T o c d l) : Calls Tryz.prog 79 #[.pointer (some ⟨P, 0, none⟩), .int .i64 0] w (ExPost w P T (exprV l)) := expr_all _ _ (Nat.le_refl _) 0 w P T o c l h.zero (by unfold ef; omega)
theorem held_at {w : World} {P T o c d : Nat} {l : List Tok} (h : At w P T o c d l) : Calls Tryz.prog 80 #[.pointer (some ⟨P, 0, none⟩), .int .i64 0] w (ExPost w P T (heldV l)) := held_all _ 0 w P T o c l h.zero (by unfold ef; omega)
theorem idx_at {w : World} {P T o c d : Nat} {l : List Tok} (h : At w P T o c d l) (hd : 1 + l.length ≤ 100000) : Calls Tryz.prog 92 #[.pointer (some ⟨P, 0, none⟩), .int .i64 0] w (ExPost w P T (idxV l)) := idx_all _ _ (Nat.le_refl _) 0 w P T o c l ⟨h.env, h.ps, h.ends, h.far, hd⟩ (by unfold ef; omega)
theorem args_at {w : World} {P T o c d : Nat} {l : List Tok} (h : At w P T o c d l) (hd : 1 + l.length ≤ 100000) : Calls Tryz.prog 91 #[.pointer (some ⟨P, 0, none⟩), .int .i64 0] w (ArPost w P T (argsV l)) := args_all _ 0 w P T o c l ⟨h.env, h.ps, h.ends, h.far, hd⟩ (by unfold ef; omega)
theorem expr_ptr {S : Nat → Prop} {w : World} {l l' : List Tok} {t : Tr} {v : Value} (h : exprV l = .ok (t, l')) (hx : ExAt S w t v) : ∃ b, v = .pointer (some ⟨b, 0, none⟩) := IsNd.ptr (ex_node _ 0 1 0 .nil 0 l t l' (by omega) (by omega) h) hx
theorem held_ptr {S : Nat → Prop} {w : World} {l l' : List Tok} {t : Tr} {v : Value} (h : heldV l = .ok (t, l')) (hx : ExAt S w t v) : ∃ b, v = .pointer (some ⟨b, 0, none⟩) := IsNd.ptr (ex_node _ 5 0 0 .nil 0 l t l' (by omega) (by omega) h) hx
theorem idx_ptr {S : Nat → Prop} {w : World} {l l' : List Tok} {t : Tr} {v : Value} (h : idxV l = .ok (t, l')) (hx : ExAt S w t v) : ∃ b, v = .pointer (some ⟨b, 0, none⟩) := IsNd.ptr (ex_node _ 6 0 0 .nil 0 l t l' (by omega) (by omega) h) hx
end Go.Proofs.YtpakgaegckkmnaaGreatDoor
