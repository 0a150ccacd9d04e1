/- GO -/
import Derived.Test.YtjmbjpimabnohaaDoorK31
import Derived.Test.YtjmbjpimabnohaaDoorK33
namespace Go.Proofs.YtjmbjpimabnohaaDoor.Mid
set_option linter.unusedVariables false
set_option linter.unusedSimpArgs false
open Go Go.RowKit
abbrev nz (y : ByteArray) (tv sv x13 x15 x17 x21 : Value) : Array Value := #[.string y, .int .i64 0, tv, sv, x13, x15, x17, x21]
abbrev fls (ns : Nat) : Array Value := (List.replicate ns (Value.bool false)).toArray
structure DI (w5 : World) (y : ByteArray) (tv sv : Value) (ns : Nat) (c1 c3 c5 c9 c10 c11 a12 : Bool) (x13 x15 x17 x21 x22 x23 x3 : Value) (W : World) : Prop where
  bel : Below w5.heap.size w5 W
  e1 : c1 = true → ∃ b, x13 = .map (some b)
  e3 : c3 = true → ∃ b, x15 = .slice (some ⟨b, 0, none⟩) 1 1
  e5 : c5 = true → c3 = true ∧ ∃ b, x17 = .slice (some ⟨b, 0, none⟩) 1 1 ∧ w5.heap.size ≤ b ∧ W.heap[b]? = some (wd 0)
  e9 : c9 = true → ∃ b, x21 = .slice (some ⟨b, 0, none⟩) ns ns ∧ w5.heap.size ≤ b ∧ W.heap[b]? = some (.cells (fls ns) 4)
  e10 : c10 = true → c1 = true ∧ c3 = true ∧ c5 = true ∧ c9 = true ∧ x22 = .agg (nz y tv sv x13 x15 x17 x21)
  e11 : c11 = true → c10 = true ∧ ∃ b, x23 = ptr b ∧ w5.heap.size ≤ b ∧ W.heap[b]? = some (.cells (nz y tv sv x13 x15 x17 x21) 131)
  e12 : a12 = true → ∃ b, x3 = ptr b ∧ w5.heap.size ≤ b ∧ W.heap[b]? = some (.cells #[.pointer none] 125)
section
variable {w5 W W' : World} {y : ByteArray} {tv sv : Value} {ns : Nat} {c1 c3 c5 c9 c10 c11 a12 : Bool} {x13 x15 x17 x21 x22 x23 x3 : Value}
theorem DI.more (h : DI w5 y tv sv ns c1 c3 c5 c9 c10 c11 a12 x13 x15 x17 x21 x22 x23 x3 W) (hb : Below W.heap.size W W') : DI w5 y tv sv ns c1 c3 c5 c9 c10 c11 a12 x13 x15 x17 x21 x22 x23 x3 W' := by
  have kp : ∀ b o, W.heap[b]? = some o → W'.heap[b]? = some o := fun b o h => by rw [hb.block b (Array.getElem?_eq_some_iff.1 h).1]; exact h
  refine ⟨h.bel.trans (hb.mono h.bel.size), h.e1, h.e3, fun q => ?_, fun q => ?_, h.e10, fun q => ?_, fun q => ?_⟩
  · obtain ⟨p, b, a1, a2, a3⟩ := h.e5 q
    exact ⟨p, b, a1, a2, kp _ _ a3⟩
  · obtain ⟨b, a1, a2, a3⟩ := h.e9 q
    exact ⟨b, a1, a2, kp _ _ a3⟩
  · obtain ⟨p, b, a1, a2, a3⟩ := h.e11 q
    exact ⟨p, b, a1, a2, kp _ _ a3⟩
  · obtain ⟨b, a1, a2, a3⟩ := h.e12 q
    exact ⟨b, a1, a2, kp _ _ a3⟩
theorem DI.n10 (h : DI w5 y tv sv ns c1 c3 c5 c9 c10 c11 a12 x13 x15 x17 x21 x22 x23 x3 W) (hf : c1 = false ∨ c3 = false ∨ c5 = false ∨ c9 = false) : c10 = false ∧ c11 = false := by
  have h6 : c10 = false := by
    cases e : c10 with
    | false => rfl
    | true =>
      obtain ⟨a, b, c, d, _⟩ := h.e10 e
      rcases hf with q | q | q | q
      · rw [q] at a; cases a
      · rw [q] at b; cases b
      · rw [q] at c; cases c
      · rw [q] at d; cases d
  refine ⟨h6, ?_⟩
  cases e : c11 with
  | false => rfl
  | true =>
    have := (h.e11 e).1
    rw [h6] at this
    cases this
theorem DI.new1 (h : DI w5 y tv sv ns c1 c3 c5 c9 c10 c11 a12 x13 x15 x17 x21 x22 x23 x3 W) (hf : c1 = false) : DI w5 y tv sv ns true c3 c5 c9 c10 c11 a12 (.map (some W.heap.size)) x15 x17 x21 x22 x23 x3 (W.alloc (.map #[] 0)) := by
  obtain ⟨n6, n7⟩ := h.n10 (.inl hf)
  have h1 := h.more (al_bel W (.map #[] 0))
  exact ⟨h1.bel, fun _ => ⟨_, rfl⟩, h1.e3, h1.e5, h1.e9, fun e => by (rw [n6] at e; cases e), fun e => by (rw [n7] at e; cases e), h1.e12⟩
theorem DI.new3 (h : DI w5 y tv sv ns c1 c3 c5 c9 c10 c11 a12 x13 x15 x17 x21 x22 x23 x3 W) (hf : c3 = false) (hb : Below W.heap.size W W') (b : Nat) : DI w5 y tv sv ns c1 true c5 c9 c10 c11 a12 x13 (.slice (some ⟨b, 0, none⟩) 1 1) x17 x21 x22 x23 x3 W' := by
  obtain ⟨n6, n7⟩ := h.n10 (.inr (.inl hf))
  have h1 := h.more hb
  refine ⟨h1.bel, h1.e1, fun _ => ⟨b, rfl⟩, fun e => ?_, h1.e9, fun e => by (rw [n6] at e; cases e), fun e => by (rw [n7] at e; cases e), h1.e12⟩
  have := (h1.e5 e).1
  rw [hf] at this
  cases this
theorem DI.new5 (h : DI w5 y tv sv ns c1 c3 c5 c9 c10 c11 a12 x13 x15 x17 x21 x22 x23 x3 W) (hf : c5 = false) (h3 : c3 = true) (hb : Below W.heap.size W W') {b : Nat} (hl : W.heap.size ≤ b) (hx : W'.heap[b]? = some (wd 0)) : DI w5 y tv sv ns c1 c3 true c9 c10 c11 a12 x13 x15 (.slice (some ⟨b, 0, none⟩) 1 1) x21 x22 x23 x3 W' := by
  obtain ⟨n6, n7⟩ := h.n10 (.inr (.inr (.inl hf)))
  have h1 := h.more hb
  exact ⟨h1.bel, h1.e1, h1.e3, fun _ => ⟨h3, b, rfl, Nat.le_trans h.bel.size hl, hx⟩, h1.e9, fun e => by (rw [n6] at e; cases e), fun e => by (rw [n7] at e; cases e), h1.e12⟩
theorem DI.new9 (h : DI w5 y tv sv ns c1 c3 c5 c9 c10 c11 a12 x13 x15 x17 x21 x22 x23 x3 W) (hf : c9 = false) : DI w5 y tv sv ns c1 c3 c5 true c10 c11 a12 x13 x15 x17 (.slice (some ⟨W.heap.size, 0, none⟩) ns ns) x22 x23 x3 (W.alloc (.cells (fls ns) 4)) := by
  obtain ⟨n6, n7⟩ := h.n10 (.inr (.inr (.inr hf)))
  have h1 := h.more (al_bel W (.cells (fls ns) 4))
  exact ⟨h1.bel, h1.e1, h1.e3, h1.e5, fun _ => ⟨_, rfl, h.bel.size, heap_alloc_last _ _⟩, fun e => by (rw [n6] at e; cases e), fun e => by (rw [n7] at e; cases e), h1.e12⟩
theorem DI.new10 (h : DI w5 y tv sv ns c1 c3 c5 c9 c10 c11 a12 x13 x15 x17 x21 x22 x23 x3 W) (hf : c10 = false) (q1 : c1 = true) (q3 : c3 = true) (q5 : c5 = true) (q9 : c9 = true) : DI w5 y tv sv ns c1 c3 c5 c9 true c11 a12 x13 x15 x17 x21 (.agg (nz y tv sv x13 x15 x17 x21)) x23 x3 W := by
  have n7 : c11 = false := by
    cases e : c11 with
    | false => rfl
    | true =>
      have := (h.e11 e).1
      rw [hf] at this
      cases this
  exact ⟨h.bel, h.e1, h.e3, h.e5, h.e9, fun _ => ⟨q1, q3, q5, q9, rfl⟩, fun e => by (rw [n7] at e; cases e), h.e12⟩
theorem DI.new11 (h : DI w5 y tv sv ns c1 c3 c5 c9 c10 c11 a12 x13 x15 x17 x21 x22 x23 x3 W) (q : c10 = true) : DI w5 y tv sv ns c1 c3 c5 c9 c10 true a12 x13 x15 x17 x21 x22 (ptr W.heap.size) x3 (W.alloc (.cells (nz y tv sv x13 x15 x17 x21) 131)) := by
  have h1 := h.more (al_bel W (.cells (nz y tv sv x13 x15 x17 x21) 131))
  exact ⟨h1.bel, h1.e1, h1.e3, h1.e5, h1.e9, h1.e10, fun _ => ⟨q, _, rfl, h.bel.size, heap_alloc_last _ _⟩, h1.e12⟩
theorem DI.new12 (h : DI w5 y tv sv ns c1 c3 c5 c9 c10 c11 a12 x13 x15 x17 x21 x22 x23 x3 W) : DI w5 y tv sv ns c1 c3 c5 c9 c10 c11 true x13 x15 x17 x21 x22 x23 (ptr W.heap.size) (W.alloc (.cells #[.pointer none] 125)) := by
  have h1 := h.more (al_bel W (.cells #[.pointer none] 125))
  exact ⟨h1.bel, h1.e1, h1.e3, h1.e5, h1.e9, h1.e10, h1.e11, fun _ => ⟨_, rfl, h.bel.size, heap_alloc_last _ _⟩⟩
end
structure DnS (w5 : World) (y : ByteArray) (tv sv : Value) (ns b3 : Nat) (W : World) : Prop where
  ex : ∃ Nb mb ib bb gb, W.heap[b3]? = some (.cells #[ptr Nb] 125) ∧ W.heap[Nb]? = some (ndO y tv sv mb ib bb gb ns) ∧ W.heap[bb]? = some (wd 0) ∧ W.heap[gb]? = some (.cells (fls ns) 4) ∧ w5.heap.size ≤ b3 ∧ w5.heap.size ≤ Nb ∧ w5.heap.size ≤ bb ∧ w5.heap.size ≤ gb
  bel : Below w5.heap.size w5 W
theorem DI.stored {w5 W : World} {y : ByteArray} {tv sv : Value} {ns : Nat} {x13 x15 x17 x21 x22 : Value} {b23 b3 : Nat} (h : DI w5 y tv sv ns true true true true true true true x13 x15 x17 x21 x22 (ptr b23) (ptr b3) W) : DnS w5 y tv sv ns b3 (W.setCell ⟨b3, 0, none⟩ (ptr b23)) := by
  obtain ⟨mb, rfl⟩ := h.e1 rfl
  obtain ⟨ib, rfl⟩ := h.e3 rfl
  obtain ⟨-, bb, rfl, n1, n2⟩ := h.e5 rfl
  obtain ⟨gb, rfl, v1, v2⟩ := h.e9 rfl
  obtain ⟨-, b, e, k1, k2⟩ := h.e11 rfl
  injection e with e
  injection e with e
  injection e with e
  subst e
  obtain ⟨b, e, j1, j2⟩ := h.e12 rfl
  injection e with e
  injection e with e
  injection e with e
  subst e
  have d1 : b23 ≠ b3 := fun e => by rw [e, j2] at k2; injection k2 with k2; injection k2 with _ k2; cases k2
  have d2 : bb ≠ b3 := fun e => by rw [e, j2] at n2; injection n2 with n2; injection n2 with _ n2; cases n2
  have d3 : gb ≠ b3 := fun e => by rw [e, j2] at v2; injection v2 with v2; injection v2 with _ v2; cases v2
  exact ⟨⟨b23, mb, ib, bb, gb, heap_setCell_same _ _ _ _ _ _ j2, by rw [heap_setCell_other _ _ _ _ d1]; exact k2, by rw [heap_setCell_other _ _ _ _ d2]; exact n2, by rw [heap_setCell_other _ _ _ _ d3]; exact v2, j1, k1, n1, v1⟩, h.bel.setCell (p := ⟨b3, 0, none⟩) j1 _⟩
def keptA (l : List Ms) (ps : List Int) (rn : Nat) : Nat → List Ms
  | 0 => []
  | i + 1 => keptA l ps rn i ++ (if goneV ps rn i then [] else l[i]?.toList)
def Lef (nt : Nat) (z : Int) (l' : List Ms) : Prop := ∃ r : Nat, r < nt ∧ I64 z ∧ (l' = [cn (r : Int) z, rt (r : Int)] ∨ (l' = [rt (r : Int)] ∧ z = 0))
theorem kept_front {env : Int → Int} {ps : List Int} {rn : Nat} {l : List Ms} (hf : ∀ (j : Nat) (p : Int), ps[j]? = some p → l[j]? = some (cn p (env p))) : ∀ k, k ≤ ps.length → keptA l ps rn k = ((ps.take k).filter (fun p => p == (rn : Int))).map (fun p => cn p (env p))
  | 0, _ => by simp [keptA]
  | k + 1, hk => by
    have hp : ps[k]? = some (ps[k]'(by omega)) := List.getElem?_eq_getElem _
    rw [keptA, kept_front hf k (by omega), take_snoc hp, List.filter_append, List.map_append]
    congr 1
    have hg : goneV ps rn k = decide (ps[k]'(by omega) ≠ (rn : Int)) := by unfold goneV; rw [hp]
    rw [hg, hf k _ hp]
    by_cases e : ps[k]'(by omega) = (rn : Int)
    · rw [decide_eq_false (by simpa using e)]
      simp [e]
    · rw [decide_eq_true e]
      simp [e]
theorem filter_one : ∀ {ps : List Int}, ps.Pairwise (· < ·) → ∀ r : Int, ps.filter (fun p => p == r) = [] ∧ r ∉ ps ∨ ps.filter (fun p => p == r) = [r] ∧ r ∈ ps
  | [], _, r => by simp
  | p :: ps, h, r => by
    rw [List.pairwise_cons] at h
    rcases filter_one h.2 r with ⟨h1, h2⟩ | ⟨h1, h2⟩
    · by_cases e : p = r
      · right
        subst e
        exact ⟨by rw [List.filter_cons_of_pos (by simp), h1], by simp⟩
      · left
        exact ⟨by rw [List.filter_cons_of_neg (by simpa using e), h1], by simp only [List.mem_cons, not_or]; exact ⟨fun h => e h.symm, h2⟩⟩
    · right
      have hlt := h.1 r h2
      exact ⟨by rw [List.filter_cons_of_neg (by simp; omega), h1], List.mem_cons_of_mem _ h2⟩
theorem kept_all {nt : Nat} {env : Int → Int} {ps : List Int} {rn : Nat} {z : Int} (hs : ps.Pairwise (· < ·)) (hr : rn < nt) (h0 : ∀ p, p ∉ ps → env p = 0) (hz : env (rn : Int) = z) (hi : ∀ p, I64 (env p)) : Lef nt z (keptA (ps.map (fun p => cn p (env p)) ++ [rt (rn : Int)]) ps rn (ps.length + 1)) := by
  have hf : ∀ (j : Nat) (p : Int), ps[j]? = some p → (ps.map (fun p => cn p (env p)) ++ [rt (rn : Int)])[j]? = some (cn p (env p)) := fun j p h => by
    have hj := (List.getElem?_eq_some_iff.1 h).1
    rw [List.getElem?_append_left (by simpa using hj), List.getElem?_map, h]
    rfl
  have hl : (ps.map (fun p => cn p (env p)) ++ [rt (rn : Int)])[ps.length]? = some (rt (rn : Int)) := by rw [List.getElem?_append_right (by simp)]; simp
  rw [keptA, kept_front hf _ (Nat.le_refl _), gone_last, hl, List.take_length]
  refine ⟨rn, hr, by rw [← hz]; exact hi _, ?_⟩
  rcases filter_one hs (rn : Int) with ⟨h1, h2⟩ | ⟨h1, h2⟩
  · right
    rw [h1]
    exact ⟨rfl, by rw [← hz]; exact h0 _ h2⟩
  · left
    rw [h1, ← hz]
    rfl
end Go.Proofs.YtjmbjpimabnohaaDoor.Mid
