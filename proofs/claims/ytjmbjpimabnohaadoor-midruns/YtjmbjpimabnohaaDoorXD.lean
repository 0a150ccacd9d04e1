/- What MidRuns is given, opened: functions, steps, numbers. What MidRuns reads of package variables, out of the condition and the world's shape. -/
import Derived.Test.YtjmbjpimabnohaaDoorWF
import Derived.ChangeSlices
import Derived.Deep.Slices
import Derived.ChangeMaps5
import Derived.OpenShut
import Derived.Test.YtjmbjpimabnohaaDoorRows
import Derived.SevenTiedAt
import Derived.ProofKit
import Derived.ChangeOld
import Derived.Stop.Joined
import Derived.Lib.SmallJoins
import Derived.LaidSub
import Derived.LaidHandle
import Derived.Lay
import Derived.Shelf.Vars
namespace Go.Proofs.YtjmbjpimabnohaaDoor.Mid
set_option linter.unusedVariables false
open Go Go.Deep Go.ChangeShapes Go.WideShapes Go.ChangeAt Go.WideMaps Go.WideElems Go.RowKit Go.ChangeMaps

theorem list_of {α : Type} {p : Nat → α → Prop} : ∀ n : Nat, (∀ i, i < n → ∃ v, p i v) → ∃ l : List α, l.length = n ∧ ∀ (i : Nat) (v : α), l[i]? = some v → p i v
  | 0, _ => ⟨[], rfl, fun i v h => by simp at h⟩
  | n + 1, h => by
    obtain ⟨l, h1, h2⟩ := list_of n (fun i hi => h i (by omega))
    obtain ⟨x, hx⟩ := h n (by omega)
    refine ⟨l ++ [x], by simp [h1], fun i v hv => ?_⟩
    by_cases hi : i < n
    · rw [List.getElem?_append_left (by omega)] at hv
      exact h2 i v hv
    · rw [List.getElem?_append_right (by omega)] at hv
      have hi2 : i - l.length = 0 := by
        have := (List.getElem?_eq_some_iff.1 hv).1
        simp at this
        omega
      rw [hi2] at hv
      have e : i = n := by omega
      subst e
      simp at hv
      subst hv
      exact hx
theorem spot_noneX {w : World} {a : Addr} {v : Value} (h : w.cell? a = some v) : a.spot = none := by
  unfold World.cell? at h
  split at h
  · cases hs : a.spot with
    | none => rfl
    | some x => simp [hs] at h
  · cases h
theorem add_atX (g o j : Nat) : (⟨g, o, none⟩ : Addr).add j = ⟨g, o + j, none⟩ := by unfold Addr.add; split <;> simp_all
theorem sub_get {cs l : List Value} {a b : Nat} (h : (cs.drop a).take b = l) (j : Nat) (v : Value) (hv : l[j]? = some v) : cs[a + j]? = some v := by
  subst h
  rw [List.getElem?_take] at hv
  split at hv
  · rw [List.getElem?_drop] at hv; exact hv
  · cases hv
theorem i64_wf {n : Int} (h : (Lit.int .i64 n).wf = true) : I64 n := by
  simp only [Lit.wf, Bool.and_eq_true, decide_eq_true_eq] at h
  exact ⟨h.1, h.2⟩
theorem cells2 : Tryd.prog.cellsOf 2 = 1 := by kernel_rfl
theorem cells3 : Tryd.prog.cellsOf 3 = 1 := by kernel_rfl
theorem cells9 : Tryd.prog.cellsOf 9 = 1 := by kernel_rfl
theorem cells32 : Tryd.prog.cellsOf 32 = 1 := by kernel_rfl
theorem cells33 : Tryd.prog.cellsOf 33 = 1 := by kernel_rfl
theorem cells35 : Tryd.prog.cellsOf 35 = 4 := by kernel_rfl
theorem cells44 : Tryd.prog.cellsOf 44 = 10 := by kernel_rfl
section
variable {H : Type} {enc : TypeId × Value → H} {W : World} {sp : Nat → Bool} {held : Bool}
theorem fld {t : TypeId} {fs : Array Field} {fuel : Nat} {cs : List Value} {x : DataW H × List MemPlace} (ht : Tryd.prog.underlying t = some (.struct fs)) (h : DataW.trod enc Tryd.prog W 0 sp held fuel t cs = some x) (i : Nat) (f : Field) (hf : fs[i]? = some f) :
    ∃ n y, DataW.trod enc Tryd.prog W 0 sp held n f.type ((cs.drop f.offset).take (Tryd.prog.cellsOf f.type)) = some y := by
  obtain ⟨xs, n, _, _, _, h1, h2⟩ := DataW.trod_struct ht h
  have hi : i < xs.length := by rw [h1]; exact (Array.getElem?_eq_some_iff.1 hf).1
  exact ⟨n, xs[i], by rw [h2 i f hf, List.getElem?_eq_getElem hi]⟩
theorem fint {k : Nat} {t : TypeId} {n : Nat} {cs : List Value} {y : DataW H × List MemPlace} (ht : Tryd.prog.underlying t = some (.int .i64)) (hc : Tryd.prog.cellsOf t = 1) (h : DataW.trod enc Tryd.prog W 0 sp held n t ((cs.drop k).take (Tryd.prog.cellsOf t)) = some y) : ∃ z, cs[k]? = some (.int .i64 z) ∧ I64 z := by
  obtain ⟨z, h1, _, h3⟩ := DataW.trod_int ht h
  exact ⟨z, by have := sub_get h1 0 _ rfl; simpa using this, i64_wf h3⟩
theorem fstr {k : Nat} {n : Nat} {cs : List Value} {y : DataW H × List MemPlace} (h : DataW.trod enc Tryd.prog W 0 sp held n 9 ((cs.drop k).take (Tryd.prog.cellsOf 9)) = some y) : ∃ s : By, cs[k]? = some (.string ⟨s.toArray⟩) ∧ s.length ≤ 9223372036854775807 := by
  obtain ⟨s, h1, _, h3⟩ := DataW.trod_string Tryd.underlying9 h
  refine ⟨s.data.toList, by have := sub_get h1 0 _ rfl; simpa using this, ?_⟩
  have e : s.data.toList.length = s.size := Array.length_toList
  rw [e]
  exact h3
/-- Where elements of a slice lie. -/
theorem at_none {a : Addr} {m sz : Nat} {cs : List Value} (h : W.cells? 0 (a.add (0 * sz)) sz = some cs) (hsz : 0 < sz) : a.spot = none := by
  obtain ⟨_, h2, h3⟩ := World.cells?_some h
  have h4 := h3 0 hsz
  rw [List.getElem?_eq_getElem (by omega)] at h4
  have h5 := spot_noneX h4
  rw [Nat.zero_mul] at h5
  have e0 : ∀ b : Addr, b.add 0 = b := fun b => by unfold Addr.add; rw [if_pos rfl]
  rw [e0, e0] at h5
  exact h5
theorem open_ints32 {t e : TypeId} {fuel : Nat} {cs : List Value} {x : DataW H × List MemPlace} (ht : Tryd.prog.underlying t = some (.slice e)) (he : Tryd.prog.underlying e = some (.int .i64)) (hc : Tryd.prog.cellsOf e = 1) (h : DataW.trod enc Tryd.prog W 0 sp held fuel t cs = some x) : ∃ v l, cs = [v] ∧ IntsRw W v l := by
  rcases open_ints ht he hc h with ⟨hcs, _⟩ | ⟨a, len, cap, zs, hcs, _, hl, hm, hz, _, hcell, hwz⟩
  · exact ⟨_, [], hcs, none, 0, rfl, Nat.le_refl _, fun x hx => (by cases hx), .inl rfl⟩
  · have hzl : len ≤ zs.length := by rw [hz]; split <;> omega
    have htl : (zs.take len).length = len := by simp; omega
    refine ⟨_, zs.take len, hcs, some a, cap, by rw [htl], by rw [htl]; exact hl, fun x hx => i64_wf (hwz x (List.mem_of_mem_take hx)), ?_⟩
    by_cases hn : zs.take len = []
    · exact .inl hn
    have hlen : 0 < len := by
      rcases Nat.eq_zero_or_pos len with h0 | h0
      · subst h0; simp at hn
      · exact h0
    have h0 := hcell 0 (by omega)
    have ha0 : a.add 0 = a := by unfold Addr.add; rw [if_pos rfl]
    rw [ha0] at h0
    obtain ⟨g, o, sp'⟩ := a
    have hsp : sp' = none := spot_noneX h0
    subst hsp
    refine .inr ⟨g, o, rfl, fun j x hx => ?_⟩
    have hj : j < len := by have := (List.getElem?_eq_some_iff.1 hx).1; omega
    have := hcell j (by omega)
    rw [add_atX] at this
    have e : zs.getD j 0 = x := by
      rw [List.getElem?_take_of_lt hj] at hx
      rw [List.getD_eq_getElem?_getD, hx]
      rfl
    rw [e] at this
    exact this
theorem fints {k n : Nat} {cs : List Value} {y : DataW H × List MemPlace} (h : DataW.trod enc Tryd.prog W 0 sp held n 32 ((cs.drop k).take (Tryd.prog.cellsOf 32)) = some y) : ∃ v l, cs[k]? = some v ∧ IntsRw W v l := by
  obtain ⟨v, l, h1, h2⟩ := open_ints32 Tryd.underlying32 Tryd.underlying3 cells3 h
  exact ⟨v, l, by have := sub_get h1 0 _ rfl; simpa using this, h2⟩
/-- A step's ten cells. -/
theorem open_step {fuel : Nat} {cs : List Value} {x : DataW H × List MemPlace} (h : DataW.trod enc Tryd.prog W 0 sp held fuel 44 cs = some x) : ∃ s : Ms, ∀ g o, (∀ i, i < 10 → W.cell? ⟨g, o + i, none⟩ = cs[i]?) → StRw W g o s := by
  obtain ⟨_, _, f0⟩ := fld Tryd.underlying44 h 0 _ rfl
  obtain ⟨_, _, f1⟩ := fld Tryd.underlying44 h 1 _ rfl
  obtain ⟨_, _, f2⟩ := fld Tryd.underlying44 h 2 _ rfl
  obtain ⟨_, _, f3⟩ := fld Tryd.underlying44 h 3 _ rfl
  obtain ⟨_, _, f4⟩ := fld Tryd.underlying44 h 4 _ rfl
  obtain ⟨_, _, f5⟩ := fld Tryd.underlying44 h 5 _ rfl
  obtain ⟨_, _, f6⟩ := fld Tryd.underlying44 h 6 _ rfl
  obtain ⟨_, _, f7⟩ := fld Tryd.underlying44 h 7 _ rfl
  obtain ⟨_, _, f8⟩ := fld Tryd.underlying44 h 8 _ rfl
  obtain ⟨_, _, f9⟩ := fld Tryd.underlying44 h 9 _ rfl
  obtain ⟨z0, a0, b0⟩ := fint Tryd.underlying3 cells3 f0
  obtain ⟨z1, a1, b1⟩ := fint Tryd.underlying3 cells3 f1
  obtain ⟨z2, a2, b2⟩ := fint Tryd.underlying3 cells3 f2
  obtain ⟨z3, a3, b3⟩ := fint Tryd.underlying3 cells3 f3
  obtain ⟨z4, a4, b4⟩ := fint Tryd.underlying3 cells3 f4
  obtain ⟨z5, a5, b5⟩ := fint Tryd.underlying2 cells2 f5
  obtain ⟨z6, a6, b6⟩ := fstr f6
  obtain ⟨z7, a7, b7⟩ := fint Tryd.underlying3 cells3 f7
  obtain ⟨z8, a8, b8⟩ := fstr f8
  obtain ⟨v9, z9, a9, b9⟩ := fints f9
  refine ⟨⟨z0, z1, z2, z3, z4, z5, z6, z7, z8, z9⟩, fun g o hc => ?_⟩
  have h0 := hc 0 (by omega)
  rw [Nat.add_zero] at h0
  exact ⟨h0.trans a0, (hc 1 (by omega)).trans a1, (hc 2 (by omega)).trans a2, (hc 3 (by omega)).trans a3, (hc 4 (by omega)).trans a4, (hc 5 (by omega)).trans a5, (hc 6 (by omega)).trans a6, (hc 7 (by omega)).trans a7, (hc 8 (by omega)).trans a8, ⟨v9, (hc 9 (by omega)).trans a9, b9⟩, ⟨b0, b1, b2, b3, b4, b5, b7⟩, b6, b8⟩
/-- A row of steps. -/
theorem fsteps {k n : Nat} {cs : List Value} {y : DataW H × List MemPlace} (h : DataW.trod enc Tryd.prog W 0 sp held n 33 ((cs.drop k).take (Tryd.prog.cellsOf 33)) = some y) : ∃ (q : Option Addr) (c : Nat) (l : List Ms), cs[k]? = some (.slice q l.length c) ∧ l.length ≤ c ∧ (l = [] ∨ ∃ g p, q = some ⟨g, p, none⟩ ∧ ∀ (j : Nat) (s : Ms), l[j]? = some s → StRw W g (p + j * 10) s) := by
  rcases open_slice Tryd.underlying33 h with ⟨hcs, _⟩ | ⟨a, len, cap, m, n', D, Pl, hcs, _, hl, hm, hmm, _, hx⟩
  · exact ⟨none, 0, [], by have := sub_get hcs 0 _ rfl; simpa using this, Nat.le_refl _, .inl rfl⟩
  · have hlm : len ≤ m := by rw [hmm]; split <;> omega
    rw [cells44] at hx
    obtain ⟨l, h1, h2⟩ := list_of (p := fun i (s : Ms) => ∃ cs', W.cells? 0 (a.add (i * 10)) 10 = some cs' ∧ ∀ g o, (∀ i, i < 10 → W.cell? ⟨g, o + i, none⟩ = cs'[i]?) → StRw W g o s) len (fun i hi => by
      obtain ⟨cs', c1, c2⟩ := hx i (by omega)
      obtain ⟨s, hs⟩ := open_step c2
      exact ⟨s, cs', c1, hs⟩)
    refine ⟨some a, cap, l, by rw [h1]; have := sub_get hcs 0 _ rfl; simpa using this, by rw [h1]; exact hl, ?_⟩
    by_cases hn : l = []
    · exact .inl hn
    have hpos : 0 < len := by
      rcases Nat.eq_zero_or_pos len with h0 | h0
      · exact absurd (List.length_eq_zero_iff.1 (h1.trans h0)) hn
      · exact h0
    obtain ⟨cs', c1, _⟩ := hx 0 (by omega)
    obtain ⟨g, o, sp'⟩ := a
    have hsp : sp' = none := at_none (m := m) c1 (by omega)
    subst hsp
    refine .inr ⟨g, o, rfl, fun j s hj => ?_⟩
    obtain ⟨cs2, d1, d2⟩ := h2 j s hj
    refine d2 g (o + j * 10) (fun i hi => ?_)
    have := (World.cells?_some d1).2.2 i hi
    rw [add_atX, add_atX] at this
    exact this
theorem open_fn {fuel : Nat} {cs : List Value} {x : DataW H × List MemPlace} (h : DataW.trod enc Tryd.prog W 0 sp held fuel 35 cs = some x) : ∃ F : Mf, ∀ g o, (∀ i, i < 4 → W.cell? ⟨g, o + i, none⟩ = cs[i]?) → FnRw W g o F := by
  obtain ⟨_, _, f0⟩ := fld Tryd.underlying35 h 0 _ rfl
  obtain ⟨_, _, f1⟩ := fld Tryd.underlying35 h 1 _ rfl
  obtain ⟨_, _, f2⟩ := fld Tryd.underlying35 h 2 _ rfl
  obtain ⟨_, _, f3⟩ := fld Tryd.underlying35 h 3 _ rfl
  obtain ⟨z0, a0, b0⟩ := fstr f0
  obtain ⟨z1, a1, b1⟩ := fint Tryd.underlying3 cells3 f1
  obtain ⟨v2, z2, a2, b2⟩ := fints f2
  obtain ⟨q3, c3, z3, a3, b3, d3⟩ := fsteps f3
  refine ⟨⟨z0, z1, z2, z3⟩, fun g o hc => ?_⟩
  have h0 := hc 0 (by omega)
  rw [Nat.add_zero] at h0
  exact ⟨h0.trans a0, (hc 1 (by omega)).trans a1, ⟨v2, (hc 2 (by omega)).trans a2, b2⟩, ⟨q3, c3, (hc 3 (by omega)).trans a3, b3, d3⟩, b1, b0⟩
set_option maxRecDepth 100000 in
/-- What a list of functions is. -/
theorem open_fns {v : Value} {d : DataW H} {p : List MemPlace} {r : Reach} {b0 : Nat} (hv : Value.okWide Tryd.prog W r b0 22 v) (h : DataW.Trod enc Tryd.prog W 0 sp held 22 v d p) : ∃ (q : Option Addr) (c : Nat) (L : List Mf), v = .slice q L.length c ∧ RowRw W q c L := by
  obtain ⟨q0, len0, c0, rfl⟩ := okWide_slice Tryd.underlying22 hv
  obtain ⟨fuel, hf⟩ := h
  rcases open_slice Tryd.underlying22 hf with ⟨hcs, _⟩ | ⟨a, len, cap, m, n', D, Pl, hcs, _, hl, hm, hmm, _, hx⟩
  · simp [Value.cells] at hcs
    obtain ⟨rfl, rfl, rfl⟩ := hcs
    exact ⟨none, 0, [], rfl, Nat.le_refl _, .inl rfl⟩
  · simp [Value.cells] at hcs
    obtain ⟨rfl, rfl, rfl⟩ := hcs
    have hlm : len0 ≤ m := by rw [hmm]; split <;> omega
    rw [cells35] at hx
    obtain ⟨l, h1, h2⟩ := list_of (p := fun i (F : Mf) => ∃ cs', W.cells? 0 (a.add (i * 4)) 4 = some cs' ∧ ∀ g o, (∀ i, i < 4 → W.cell? ⟨g, o + i, none⟩ = cs'[i]?) → FnRw W g o F) len0 (fun i hi => by
      obtain ⟨cs', c1, c2⟩ := hx i (by omega)
      obtain ⟨F, hF⟩ := open_fn c2
      exact ⟨F, cs', c1, hF⟩)
    refine ⟨some a, c0, l, by rw [h1], by rw [h1]; exact hl, ?_⟩
    by_cases hn : l = []
    · exact .inl hn
    have hpos : 0 < len0 := by
      rcases Nat.eq_zero_or_pos len0 with h0 | h0
      · exact absurd (List.length_eq_zero_iff.1 (h1.trans h0)) hn
      · exact h0
    obtain ⟨cs', c1, _⟩ := hx 0 (by omega)
    obtain ⟨g, o, sp'⟩ := a
    have hsp : sp' = none := at_none (m := m) c1 (by omega)
    subst hsp
    refine .inr ⟨g, o, rfl, fun j F hj => ?_⟩
    obtain ⟨cs2, d1, d2⟩ := h2 j F hj
    refine d2 g (o + j * 4) (fun i hi => ?_)
    have := (World.cells?_some d1).2.2 i hi
    rw [add_atX, add_atX] at this
    exact this
set_option maxRecDepth 100000 in
theorem open_nums {v : Value} {d : DataW H} {p : List MemPlace} {r : Reach} {b0 : Nat} (hv : Value.okWide Tryd.prog W r b0 23 v) (h : DataW.Trod enc Tryd.prog W 0 sp held 23 v d p) : ∃ l, InW W v l ∧ ∀ x ∈ l, I64 x := by
  obtain ⟨q0, len0, c0, rfl⟩ := okWide_slice Tryd.underlying23 hv
  obtain ⟨fuel, hf⟩ := h
  obtain ⟨v', l, h1, q, c, h2, h3, h4, h5⟩ := open_ints32 Tryd.underlying23 Tryd.underlying2 cells2 hf
  simp [Value.cells] at h1
  subst h1
  refine ⟨l, ⟨q, c, h2, ?_⟩, h4⟩
  rcases h5 with h5 | ⟨g, o, e, h5⟩
  · exact .inl h5
  · by_cases hn : l = []
    · exact .inl hn
    · have hl : 0 < l.length := by
        rcases Nat.eq_zero_or_pos l.length with h0 | h0
        · exact absurd (List.length_eq_zero_iff.1 h0) hn
        · exact h0
      exact .inr ⟨g, o, e, cell_lt (h5 0 l[0] (List.getElem?_eq_getElem hl)), h3, h5⟩
end
end Go.Proofs.YtjmbjpimabnohaaDoor.Mid

namespace Go.Proofs.YtjmbjpimabnohaaDoor.Mid
set_option linter.unusedVariables false
open Go Go.Deep Go.ChangeShapes Go.WideShapes Go.ChangeAt Go.WideMaps Go.WideElems Go.RowKit

section
variable {H : Type} {enc : TypeId × Value → H} {P : Program} {w : World} {base : Nat} {sp : Nat → Bool} {held : Bool}
theorem arr_at {fuel n : Nat} {t e : TypeId} {cs : List Value} {ds : List (DataW H)} {p : List MemPlace} (ht : P.underlying t = some (.array n e)) (h : DataW.trod enc P w base sp held fuel t cs = some (.agg ds, p)) (i : Nat) (hi : i < n) :
    ∃ fuel' d p', ds[i]? = some d ∧ DataW.trod enc P w base sp held fuel' e ((cs.drop (i * P.cellsOf e)).take (P.cellsOf e)) = some (d, p') := by
  obtain ⟨xs, m, rfl, hx, hl, hn, hel⟩ := DataW.trod_array ht h
  have h1 := hel i hi
  simp only [Prod.mk.injEq, DataW.agg.injEq] at hx
  have hlt : i < xs.length := by omega
  rw [List.getElem?_eq_getElem hlt] at h1
  exact ⟨m, xs[i].1, xs[i].2, by rw [hx.1]; simp [hlt], h1⟩
theorem str_at {fuel : Nat} {t : TypeId} {fs : Array Field} {cs : List Value} {ds : List (DataW H)} {p : List MemPlace} (ht : P.underlying t = some (.struct fs)) (h : DataW.trod enc P w base sp held fuel t cs = some (.agg ds, p)) (i : Nat) (f : Field) (hf : fs.toList[i]? = some f) :
    ∃ fuel' d p', ds[i]? = some d ∧ DataW.trod enc P w base sp held fuel' f.type ((cs.drop f.offset).take (P.cellsOf f.type)) = some (d, p') := by
  cases fuel with
  | zero => simp [DataW.trod] at h
  | succ m =>
    simp only [DataW.trod, ht] at h
    split at h
    · obtain ⟨xs, hm, hx⟩ := Option.map_eq_some_iff.1 h
      obtain ⟨b, hb, hb2⟩ := Lib.mapM_at hm i f hf
      simp only [Prod.mk.injEq, DataW.agg.injEq] at hx
      exact ⟨m, b.1, b.2, by rw [← hx.1]; simp [hb], hb2⟩
    · cases h
theorem int_is {fuel : Nat} {t : TypeId} {k k' : IntKind} {z : Int} {cs : List Value} {p : List MemPlace} (ht : P.underlying t = some (.int k)) (h : DataW.trod enc P w base sp held fuel t cs = some (.lit (.int k' z), p)) : cs = [.int k' z] := by
  obtain ⟨n, h1, h2, _⟩ := DataW.trod_int ht h
  simp only [Prod.mk.injEq, DataW.lit.injEq, Lit.int.injEq] at h2
  rw [h1, h2.1.1, h2.1.2]
theorem bool_is {fuel : Nat} {t : TypeId} {b : Bool} {cs : List Value} {p : List MemPlace} (ht : P.underlying t = some .bool) (h : DataW.trod enc P w base sp held fuel t cs = some (.lit (.bool b), p)) : cs = [.bool b] := by
  obtain ⟨n, h1, h2⟩ := DataW.trod_bool ht h
  simp only [Prod.mk.injEq, DataW.lit.injEq, Lit.bool.injEq] at h2
  rw [h1, h2.1]
end
section
variable {H : Type} {enc : TypeId × Value → H} {w : World} {base : Nat} {sp : Nat → Bool} {held : Bool}
theorem int_sub {fuel : Nat} {l : List Value} {t : TypeId} {k k' : IntKind} {z : Int} {a : Nat} {p : List MemPlace} (ht : Tryd.prog.underlying t = some (.int k)) (hc : Tryd.prog.cellsOf t = 1)
    (h : DataW.trod enc Tryd.prog w base sp held fuel t ((l.drop a).take (Tryd.prog.cellsOf t)) = some (.lit (.int k' z), p)) : l[a]? = some (.int k' z) := by
  have := int_is ht h
  rw [hc] at this
  have := sub_get this 0 _ rfl
  simpa using this
theorem bool_sub {fuel : Nat} {l : List Value} {t : TypeId} {z : Bool} {a : Nat} {p : List MemPlace} (ht : Tryd.prog.underlying t = some .bool) (hc : Tryd.prog.cellsOf t = 1)
    (h : DataW.trod enc Tryd.prog w base sp held fuel t ((l.drop a).take (Tryd.prog.cellsOf t)) = some (.lit (.bool z), p)) : l[a]? = some (.bool z) := by
  have := bool_is ht h
  rw [hc] at this
  have := sub_get this 0 _ rfl
  simpa using this
theorem str_one {fuel : Nat} {cs : List Value} {p : List MemPlace} {a : Nat} {s : By} (h : DataW.trod enc Tryd.prog w base sp held fuel 9 ((cs.drop a).take (Tryd.prog.cellsOf 9)) = some (.lit (.string s), p)) : cs[a]? = some (.string ⟨s.toArray⟩) := by
  obtain ⟨x, h1, h2, _⟩ := DataW.trod_string Tryd.underlying9 h
  simp only [Prod.mk.injEq, DataW.lit.injEq, Lit.string.injEq] at h2
  have : x = ⟨s.toArray⟩ := by cases x with | mk d => rw [h2.1]
  rw [this] at h1
  have := sub_get h1 0 _ rfl
  simpa using this
end
theorem own : ownKnob Tryd.prog.godebug = none := by kernel_rfl
theorem laidOut : laidOutB Tryd.prog = true := by kernel_rfl
theorem cells4 : Tryd.prog.cellsOf 4 = 1 := by kernel_rfl
abbrev laidP : List (String × DataW Unit) := [("bloomery/mid.marks", Rows.laid_bloomery_mid_marks), ("bloomery/mid.forms", Rows.laid_bloomery_mid_forms)]
theorem gMarks : Tryd.prog.globalNamed "bloomery/mid.marks" = some 1 := by kernel_rfl
theorem tMarks : (Tryd.prog.globals[1]?).map (·.type) = some 138 := by kernel_rfl
theorem gForms : Tryd.prog.globalNamed "bloomery/mid.forms" = some 0 := by kernel_rfl
theorem marksD : (Rows.laid_bloomery_mid_marks : DataW Unit) = .agg (marksL.map fun r => .lit (.string r)) := by kernel_rfl
theorem formsD : (Rows.laid_bloomery_mid_forms : DataW Unit) = .agg ((List.range 15).map fun j => .agg [.lit (.int .i64 (frm j).d), .lit (.int .i64 (frm j).a), .lit (.int .i64 (frm j).b), .lit (.int .i64 (frm j).c), .lit (.bool (frm j).g)]) := by kernel_rfl
end Go.Proofs.YtjmbjpimabnohaaDoor.Mid
