/- Package tree's tokenAt, walked. -/
import Derived.Test.YtpakgaegckkmnaaGreatDoorT2
namespace Go.Proofs.YtpakgaegckkmnaaGreatDoor
set_option linter.unusedVariables false
set_option linter.unusedSimpArgs false
open Go Go.RowKit

/-- What is thrown: an At around an Errno, at a place. -/
def Threw (k : Int) (p : Nat) (e : Ending) (w' : World) : Prop := ∃ a, e = .panicked [{ v := .iface 43 (.pointer (some ⟨a, 0, none⟩)), recovered := false }] ∧ w'.heap[a]? = some (.cells #[.int .i64 k, .int .i64 (p : Int)] 78)
set_option maxRecDepth 100000 in
theorem ix_mark (j : Nat) (hj : j < 24) (W : World) : (Instr.index 107 (.agg (marksL.map str).toArray) (.int .i64 (j : Int))).run Tryz.prog W = .ok (str (marksL.getD j [])) W := by
  have hc : j = 0 ∨ j = 1 ∨ j = 2 ∨ j = 3 ∨ j = 4 ∨ j = 5 ∨ j = 6 ∨ j = 7 ∨ j = 8 ∨ j = 9 ∨ j = 10 ∨ j = 11 ∨ j = 12 ∨ j = 13 ∨ j = 14 ∨ j = 15 ∨ j = 16 ∨ j = 17 ∨ j = 18 ∨ j = 19 ∨ j = 20 ∨ j = 21 ∨ j = 22 ∨ j = 23 := by omega
  rcases hc with rfl | rfl | rfl | rfl | rfl | rfl | rfl | rfl | rfl | rfl | rfl | rfl | rfl | rfl | rfl | rfl | rfl | rfl | rfl | rfl | rfl | rfl | rfl | rfl <;> rfl
theorem bytes_neq {b s : ByteArray} (h : ¬ b = s) : (b.toList == s.toList) = false := by
  rw [Lib.toList_data, Lib.toList_data]
  simp only [beq_eq_false_iff_ne, ne_eq]
  intro e
  exact h (ba_inj e)
theorem ba_ne (x : ByteArray) (h : ¬ x = ⟨#[]⟩) : x.toList.isEmpty = false := by
  have h1 := bytes_neq h
  have e : (⟨#[]⟩ : ByteArray).toList = [] := by simp
  rw [e] at h1
  cases hx : x.toList with
  | nil => rw [hx] at h1; simp at h1
  | cons _ _ => rfl
theorem str_ne {l : By} (h : ¬ l = []) : (⟨l.toArray⟩ : ByteArray).toList.isEmpty = false := ba_ne _ (fun e => h (by
  have : (⟨l.toArray⟩ : ByteArray).data.toList = [] := by rw [e]
  simpa using this))
def setW : ByteArray := ⟨#[97, 98, 99, 100, 101, 102, 103, 104, 105, 106, 107, 108, 109, 110, 111, 112, 113, 114, 115, 116, 117, 118, 119, 120, 121, 122, 95, 48, 49, 50, 51, 52, 53, 54, 55, 56, 57]⟩
def setD : ByteArray := ⟨#[48, 49, 50, 51, 52, 53, 54, 55, 56, 57]⟩

theorem row_free {w : World} {g : Nat} {cs : Array Value} {t : TypeId} (h : w.heap[g]? = some (.cells cs t)) (i : Nat) : w.frozen? ⟨g, i, none⟩ = false := by simp [World.frozen?, h]
theorem row_alloc {w : World} {g : Nat} {o : Obj} (h : w.heap[g]? = some o) (A : Obj) : (w.alloc A).heap[g]? = some o := by
  rw [((Below.refl w.heap.size w).alloc (Nat.le_refl _) A).block g (Array.getElem?_eq_some_iff.1 h).1]; exact h
/-- A token's cells. -/
structure TkAt (w : World) (g : Nat) (a b c : Value) : Prop where
  h : w.heap[g]? = some (.cells #[a, b, c] 75)
  c0 : w.cell? ⟨g, 0, none⟩ = some a
  c1 : w.cell? ⟨g, 1, none⟩ = some b
  c2 : w.cell? ⟨g, 2, none⟩ = some c
  f0 : w.frozen? ⟨g, 0, none⟩ = false
  f1 : w.frozen? ⟨g, 1, none⟩ = false
  f2 : w.frozen? ⟨g, 2, none⟩ = false
theorem tkAt {w : World} {g : Nat} {a b c : Value} (h : w.heap[g]? = some (.cells #[a, b, c] 75)) : TkAt w g a b c :=
  ⟨h, by rw [cell_of_row _ _ _ _ _ _ h]; rfl, by rw [cell_of_row _ _ _ _ _ _ h]; rfl, by rw [cell_of_row _ _ _ _ _ _ h]; rfl, row_free h 0, row_free h 1, row_free h 2⟩
theorem tk_set {w : World} {g : Nat} {a b c : Value} (h : w.heap[g]? = some (.cells #[a, b, c] 75)) (x y z : Value) : (((w.setCell ⟨g, 0, none⟩ x).setCell ⟨g, 1, none⟩ y).setCell ⟨g, 2, none⟩ z).heap[g]? = some (.cells #[x, y, z] 75) :=
  heap_setCell_same _ _ _ _ _ _ (heap_setCell_same _ _ _ _ _ _ (heap_setCell_same _ _ _ _ _ _ h))
theorem below_set3 {B : Nat} {w w' : World} {g : Nat} (h : Below B w w') (hg : B ≤ g) (x y z : Value) : Below B w (((w'.setCell ⟨g, 0, none⟩ x).setCell ⟨g, 1, none⟩ y).setCell ⟨g, 2, none⟩ z) :=
  ((h.setCell (p := ⟨g, 0, none⟩) hg _).setCell (p := ⟨g, 1, none⟩) hg _).setCell (p := ⟨g, 2, none⟩) hg _
theorem results_cell1 {fn : Func} {p : Tmp} {ty : TypeId} (h : fn.results = #[.cell p ty]) (tmps : Array Value) (P : Program) (w : World) :
    (results fn tmps).run P w = ((asAddr (tmps.getD p undef)).run P w).andThen fun a w₁ => (loadVar ty a).run P w₁ := by
  simp only [results, h]
  simp [Sem.run_bind, Result.andThen]
theorem resTok {fn : Func} {p : Tmp} (h : fn.results = #[.cell p 75]) (tmps : Array Value) (w : World) (g : Nat) (a b c : Value) (hp : tmps.getD p undef = .pointer (some ⟨g, 0, none⟩)) (hg : w.heap[g]? = some (.cells #[a, b, c] 75)) :
    (results fn tmps).run Tryz.prog w = .ok (.agg #[a, b, c]) w := by
  rw [results_cell1 h, hp]
  have h1 : (loadVar 75 ⟨g, 0, none⟩).run Tryz.prog w = .ok (.agg #[a, b, c]) w := run_loadVar_row w g 75 75 _ (0, 0) _ hg Tryz.underlying75 rfl (by kernel_rfl)
  simp only [asAddr, Sem.run_pure, Result.andThen_ok, h1]

set_option maxRecDepth 100000 in
set_option maxHeartbeats 4000000 in
theorem tokenAt_core (s : ByteArray) (k b : Nat) (w : World) (d1 d2 : ByteArray) (kd : Int) (he : Env w) (hk : k ≤ s.size)
    (H1 : Hid (∀ W, Calls Tryz.prog 41 #[.string (s.extract k s.size), .string setD] W fun e w' => e = .returned (.string d1) ∧ Below W.heap.size W w'))
    (H2 : Hid (∀ W, Calls Tryz.prog 41 #[.string (s.extract k s.size), .string setW] W fun e w' => e = .returned (.string d2) ∧ Below W.heap.size W w'))
    (hm : Hid (∀ W, Below w.heap.size w W → (Instr.lookup 70 (.map (some b)) (.string d2) false).run Tryz.prog W = .ok (.int .i64 kd) W))
    (h : d1.toList.isEmpty = false ∨ (d1 = ⟨#[]⟩ ∧ d2.toList.isEmpty = false)) :
    Calls Tryz.prog 27 #[.string s, .int .i64 k, .map (some b)] w fun e w' => (e = .returned (if d1.toList.isEmpty = false then .agg #[.int .i64 2, .string d1, .int .i64 k] else .agg #[.int .i64 kd, .string d2, .int .i64 k])) ∧ Below w.heap.size w w' := by
  unfold setD setW at *
  rcases h with h | ⟨rfl, h⟩
  · rw [if_pos h]
    go_enter Tryz.func27, Tryz.ntmps27
    go_wp2_with (go_at_call 41; refine (H1.out _).mono ?_; rintro e w1 ⟨rfl, hb⟩; have HB : Hid (Below w.heap.size w w1) := ((Below.refl _ _).alloc (Nat.le_refl _) _).trans (hb.mono (by simp)); have hx : w1.heap[w.heap.size]? = some (.cells #[.int .i64 0, .string ⟨#[]⟩, .int .i64 0] 75) := (by rw [hb.block _ (by simp)]; exact heap_alloc_last w _); have HX : Hid (w1.heap[w.heap.size]? = some (.cells #[.int .i64 0, .string ⟨#[]⟩, .int .i64 0] 75)) := hx; obtain ⟨_, c0, c1, c2, f0, f1, f2⟩ := tkAt hx; clear hb hx)
    exact bodyPost_ret (resTok Tryz.results27 _ _ w.heap.size _ _ _ rfl (tk_set HX.out _ _ _)) rfl ⟨rfl, below_set3 HB.out (Nat.le_refl _) _ _ _⟩
  · have h0 : ¬ (⟨#[]⟩ : ByteArray).toList.isEmpty = false := by simp
    rw [if_neg h0]
    clear h0
    go_enter Tryz.func27, Tryz.ntmps27
    go_wp2_with (go_at_call 41; fail)
    refine (H1.out _).mono ?_
    rintro e w1 ⟨rfl, hb1⟩
    have HB1 : Hid (Below w.heap.size w w1) := ((Below.refl _ _).alloc (Nat.le_refl _) _).trans (hb1.mono (by simp))
    have HX1 : Hid (w1.heap[w.heap.size]? = some (.cells #[.int .i64 0, .string ⟨#[]⟩, .int .i64 0] 75)) := by show _ = _; rw [hb1.block _ (by simp)]; exact heap_alloc_last w _
    clear hb1
    go_wp2_with (go_at_call 41; fail)
    refine (H2.out _).mono ?_
    rintro e w2 ⟨rfl, hb2⟩
    have HB2 : Hid (Below w.heap.size w w2) := HB1.out.trans (hb2.mono HB1.out.size)
    have HX2 : Hid (w2.heap[w.heap.size]? = some (.cells #[.int .i64 0, .string ⟨#[]⟩, .int .i64 0] 75)) := by show _ = _; rw [hb2.block _ (Array.getElem?_eq_some_iff.1 HX1.out).1]; exact HX1.out
    obtain ⟨_, c0, c1, c2, f0, f1, f2⟩ := tkAt HX2.out
    have hlk := hm.out w2 HB2.out
    clear hb2
    go_wp2
    exact bodyPost_ret (resTok Tryz.results27 _ _ w.heap.size _ _ _ rfl (tk_set HX2.out _ _ _)) rfl ⟨rfl, below_set3 HB2.out (Nat.le_refl _) _ _ _⟩
end Go.Proofs.YtpakgaegckkmnaaGreatDoor
