/- Package mid, walked: reckon at a number. -/
import Derived.Test.YtjmbjpimabnohaaDoorNC
namespace Go.Proofs.YtjmbjpimabnohaaDoor.Mid
set_option linter.unusedVariables false
set_option linter.unusedSimpArgs false
open Go Go.RowKit

/-- Steps that are gone through: also the world in which they lay, and the functions by their names. -/
structure Mx extends Cx where
  wc : World
  fs : By → Option Mf
structure MxOk (X : Mx) : Prop where
  size : X.wc.heap.size ≤ X.P
  keep : ∀ b, b < X.wc.heap.size → X.w0.heap[b]? = X.wc.heap[b]?
theorem cell_lt {w : World} {b o : Nat} {v : Value} (h : w.cell? ⟨b, o, none⟩ = some v) : b < w.heap.size := by
  rcases Nat.lt_or_ge b w.heap.size with h' | h'
  · exact h'
  · unfold World.cell? at h
    simp [Array.getElem?_eq_none h'] at h
theorem MxOk.cell {X : Mx} (h : MxOk X) {w : World} {r : Rs} {d : Nat} (hs : Sm X.w0 X.P X.fv w r d) {b o : Nat} {v : Value} (hc : X.wc.cell? ⟨b, o, none⟩ = some v) : w.cell? ⟨b, o, none⟩ = some v := by
  have hb := cell_lt hc
  have := h.size
  refine hs.cell (by omega) ?_
  rw [← hc]
  exact World.cell?_of_block (a := ⟨b, o, none⟩) (h.keep b hb)
/-- The world in which a value is made ready to be told. -/
abbrev wv (w : World) : World := w.alloc (.cells #[.int .i64 0, .slice none 0 0] 102)
theorem cell_old {w : World} {b o : Nat} {v : Value} {A : Obj} (h : w.cell? ⟨b, o, none⟩ = some v) : (w.alloc A).cell? ⟨b, o, none⟩ = some v := by
  rw [← h]
  exact World.cell?_of_block (a := ⟨b, o, none⟩) (row_eq_alloc (cell_lt h))
/-- What reckon leaves. -/
def RkP (X : Mx) (w : World) (r : Rs) (d : Nat) (x : Except (Int × List Int) (Vl × Sg)) (e : Ending) (w' : World) : Prop :=
  ∃ r' d', Sm X.w0 X.P X.fv w' r' d' ∧ Fz X.P NoE w r w' r' ∧
    ((∃ y p l c, d' = d ∧ x = .ok (y, r'.s) ∧ e = .returned (vlA y.1 (.slice p l c)) ∧ QvS r'.ab y.2 (.slice p l c)) ∨ (∃ k, x = .error (k, r'.s.out) ∧ e = endE k))
/-- How a step is called for. -/
abbrev rkA (X : Mx) (b o ob k : Nat) : Array Value := #[ptr X.P, .pointer (some ⟨b, o, none⟩), .slice (some ⟨ob, 0, none⟩) k k]
/-- A number is told. -/
theorem rk_fin {X : Mx} {w : World} {r : Rs} {d : Nat} (h : Sm X.w0 X.P X.fv w r d) (n : Int) (A : Obj) : RkP X w r d (.ok ((n, none), r.s)) (.returned (vlA n (.slice none 0 0))) (w.alloc A) :=
  ⟨r, d, h.below ((Below.refl _ _).alloc (Nat.le_refl _) _), Fz.below ((Below.refl _ _).alloc (Nat.le_refl _) _), .inl ⟨(n, none), none, 0, 0, rfl, rfl, rfl, rfl⟩⟩
abbrev zv : Obj := .cells #[.int .i64 0, .slice none 0 0] 102
set_option maxRecDepth 100000 in
set_option maxHeartbeats 1000000 in
theorem rk_const {X : Mx} (hX : MxOk X) {s : Ms} {b o : Nat} (hst : StepAt X.wc b o s) (hc : s.code = 1) {g d ob : Nat} {w : World} {r : Rs} {own : List Vl} (hs : Sm X.w0 X.P X.fv w r d) :
    Calls Tryd.prog 44 (rkA X b o ob own.length) w (RkP X w r d (reckG X.fs g d s own r.s)) := by
  have c0 := cell_old (A := zv) (hX.cell hs hst.c0)
  have c5 := cell_old (A := zv) (hX.cell hs hst.c5)
  rw [hc] at c0
  have HS : Hid (Sm X.w0 X.P X.fv w r d) := hs
  have HE : Hid (reckG X.fs g d s own r.s = .ok ((s.n, none), r.s)) := by unfold reckG; rw [if_pos hc]; rfl
  generalize hG : RkP X w r d (reckG X.fs g d s own r.s) = G
  have HG : Hid (RkP X w r d (reckG X.fs g d s own r.s) = G) := hG
  clear hs hst hc hX hG
  go_enter Tryd.func44, Tryd.ntmps44
  go_wp2
  refine bodyPost_ret (v := vlA s.n (.slice none 0 0)) (by simp [results, Tryd.results44, go_sem]) rfl ?_
  rw [← HG.out, HE.out]
  exact rk_fin HS.out _ _
set_option maxRecDepth 100000 in
set_option maxHeartbeats 1000000 in
theorem rk_len {X : Mx} (hX : MxOk X) {s : Ms} {b o : Nat} (hst : StepAt X.wc b o s) (hc : s.code = 10) {g d ob : Nat} {w : World} {r : Rs} {own : List Vl} (hs : Sm X.w0 X.P X.fv w r d) (ho : OwM w ob r.ab own) (ha : 0 ≤ s.a ∧ s.a < own.length) (hk : own.length ≤ 1000000) :
    Calls Tryd.prog 44 (rkA X b o ob own.length) w (RkP X w r d (reckG X.fs g d s own r.s)) := by
  have c0 := cell_old (A := zv) (hX.cell hs hst.c0)
  have c2 := cell_old (A := zv) (hX.cell hs hst.c2)
  rw [hc] at c0
  obtain ⟨q, o1, o2, o3⟩ := ho.get ha.1 ha.2
  have HS : Hid (Sm X.w0 X.P X.fv w r d) := hs
  obtain ⟨ia, hia⟩ : ∃ ia : Nat, s.a = ia := ⟨s.a.toNat, by omega⟩
  obtain ⟨k, hk2⟩ : ∃ k, own.length = k := ⟨_, rfl⟩
  have hlt : ia < k := by omega
  rw [hia] at c2 o2
  rw [Int.toNat_natCast] at o2
  have o2' := cell_old (A := zv) o2
  obtain ⟨z, hz, hq⟩ : ∃ z : Nat, (∃ p c, q = .slice p z c) ∧ reckG X.fs g d s own r.s = .ok (((z : Int), none), r.s) := by
    have e : reckG X.fs g d s own r.s = .ok ((((arrOf r.s (pl own s.a).2).length : Int), none), r.s) := by unfold reckG; rw [if_neg (by omega), if_neg (by omega), if_neg (by omega), if_neg (by omega), if_pos hc]; rfl
    cases h2 : (pl own s.a).2 with
    | none =>
      rw [h2] at o3 e
      exact ⟨0, ⟨none, 0, o3⟩, e⟩
    | some i =>
      rw [h2] at o3 e
      obtain ⟨bb, n, g1, g2⟩ := o3
      obtain ⟨l, g3, g4, _, _⟩ := hs.arr i bb n g1
      refine ⟨n, ⟨_, _, g2⟩, ?_⟩
      rw [e]
      show Except.ok ((((r.s.hp.getD i []).length : Int), none), r.s) = _
      rw [List.getD_eq_getElem?_getD, g3]
      show Except.ok (((l.length : Int), none), r.s) = _
      rw [g4]
  obtain ⟨p, c, rfl⟩ := hz
  have HE : Hid (reckG X.fs g d s own r.s = .ok (((z : Int), none), r.s)) := hq
  show Calls Tryd.prog 44 #[ptr X.P, .pointer (some ⟨b, o, none⟩), .slice (some ⟨ob, 0, none⟩) own.length own.length] w _
  generalize hG : RkP X w r d (reckG X.fs g d s own r.s) = G
  have HG : Hid (RkP X w r d (reckG X.fs g d s own r.s) = G) := hG
  rw [hk2]
  rw [hk2] at hk
  clear hs hst hc hX hG ha o1 o2 o3 hia hk2 hq ho
  go_enter Tryd.func44, Tryd.ntmps44
  go_wp2
  refine bodyPost_ret (v := vlA z (.slice none 0 0)) (by simp [results, Tryd.results44, go_sem]) rfl ?_
  rw [← HG.out, HE.out]
  exact rk_fin HS.out _ _
end Go.Proofs.YtjmbjpimabnohaaDoor.Mid
