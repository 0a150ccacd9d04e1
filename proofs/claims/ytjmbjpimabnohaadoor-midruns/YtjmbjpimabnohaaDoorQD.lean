/- Package mid, walked: places. -/
import Derived.Test.YtjmbjpimabnohaaDoorQC
import Derived.BigRegion
namespace Go.Proofs.YtjmbjpimabnohaaDoor.Mid
set_option linter.unusedVariables false
set_option linter.unusedSimpArgs false
open Go Go.RowKit

def plT (t : Int) : Bool := t == 1 || t == 2
/-- May a function have the places that it has? -/
def placesB (F : Mf) : Bool := decide (0 ≤ F.params) && (decide (F.params ≤ F.types.length) && (decide (F.types.length ≤ 3000) && F.types.all plT))
theorem ret_b {a b : Bool} (h : a = b) : Ending.returned (.bool a) = .returned (.bool b) := by rw [h]
/-- What only looks leaves. -/
def LkP (b : Bool) (w : World) (e : Ending) (w' : World) : Prop := e = .returned (.bool b) ∧ Below w.heap.size w w'
theorem pl_1 {F : Mf} (h : F.params < 0) : placesB F = false := by unfold placesB; rw [decide_eq_false (by omega)]; rfl
theorem pl_2 {F : Mf} (h : (F.types.length : Int) < F.params) : placesB F = false := by unfold placesB; rw [decide_eq_false (p := F.params ≤ F.types.length) (by omega)]; simp
theorem pl_3 {F : Mf} (h : 3000 < F.types.length) : placesB F = false := by unfold placesB; rw [decide_eq_false (p := F.types.length ≤ 3000) (by omega)]; simp
theorem pl_4 {F : Mf} (h1 : ¬ F.params < 0) (h2 : ¬ (F.types.length : Int) < F.params) (h3 : ¬ 3000 < F.types.length) : placesB F = F.types.all plT := by
  unfold placesB; rw [decide_eq_true (p := 0 ≤ F.params) (by omega), decide_eq_true (p := F.params ≤ F.types.length) (by omega), decide_eq_true (p := F.types.length ≤ 3000) (by omega)]; simp
theorem all_bad {l : List Int} {i : Nat} {x : Int} (h : l[i]? = some x) (hx : plT x = false) : l.all plT = false := by
  rw [List.all_eq_false]
  exact ⟨x, List.mem_of_getElem? h, by simp [hx]⟩
set_option maxRecDepth 100000 in
set_option maxHeartbeats 4000000 in
theorem places_any (w : World) (fb fo : Nat) (F : Mf) (h : FnAt w fb fo F) : Calls Tryd.prog 23 #[.pointer (some ⟨fb, fo, none⟩)] w (LkP (placesB F) w) := by
  have k1 := h.c1
  obtain ⟨v, k2, q, c, rfl, hl6, hI, hcells⟩ := h.c2
  have d1 : w.drew.cell? ⟨fb, fo + 1, none⟩ = some (.int .i64 F.params) := k1
  have d2 : w.drew.cell? ⟨fb, fo + 2, none⟩ = some (.slice q F.types.length c) := k2
  obtain ⟨pa, hpa⟩ : ∃ pa, F.params = pa := ⟨_, rfl⟩
  obtain ⟨n, hn⟩ : ∃ n, F.types.length = n := ⟨_, rfl⟩
  rw [hpa] at k1 d1
  rw [hn] at k2 d2 hl6
  have HI : Hid (F.params = pa ∧ F.types.length = n) := ⟨hpa, hn⟩
  have HC : Hid (F.types = [] ∨ ∃ g o, q = some ⟨g, o, none⟩ ∧ ∀ j x, F.types[j]? = some x → w.cell? ⟨g, o + j, none⟩ = some (.int .i64 x)) := hcells
  generalize hG : LkP (placesB F) w = G
  have HG : Hid (LkP (placesB F) w = G) := hG
  clear hG hcells hI h hpa hn
  by_cases h1 : pa < 0
  · have HE : Hid (G (.returned (.bool false)) w.drew) := by show G _ _; rw [← HG.out, pl_1 (by rw [HI.out.1]; exact h1)]; exact ⟨rfl, (Below.refl _ _).drew⟩
    have t1 : decide (pa < 0) = true := decide_eq_true h1
    clear h1
    go_enter Tryd.func23, Tryd.ntmps23
    go_wp2_with fail
    go_region
    go_wp2
    exact HE.out
  by_cases h2 : (n : Int) < pa
  · have HE : Hid (G (.returned (.bool false)) w.drew) := by show G _ _; rw [← HG.out, pl_2 (by rw [HI.out.1, HI.out.2]; exact h2)]; exact ⟨rfl, (Below.refl _ _).drew⟩
    have t1 : decide (pa < 0) = false := decide_eq_false h1
    have t2 : decide ((n : Int) < pa) = true := decide_eq_true h2
    clear h1 h2
    go_enter Tryd.func23, Tryd.ntmps23
    go_wp2_with fail
    go_region
    go_wp2
    exact HE.out
  by_cases h3 : 3000 < n
  · have HE : Hid (G (.returned (.bool false)) w.drew) := by show G _ _; rw [← HG.out, pl_3 (by rw [HI.out.2]; exact h3)]; exact ⟨rfl, (Below.refl _ _).drew⟩
    have t1 : decide (pa < 0) = false := decide_eq_false h1
    have t2 : decide ((n : Int) < pa) = false := decide_eq_false h2
    have t3 : decide ((3000 : Int) < n) = true := decide_eq_true (by omega)
    clear h1 h2 h3
    go_enter Tryd.func23, Tryd.ntmps23
    go_wp2_with fail
    go_region
    go_wp2
    exact HE.out
  have HP : Hid (placesB F = F.types.all plT) := pl_4 (by rw [HI.out.1]; exact h1) (by rw [HI.out.1, HI.out.2]; exact h2) (by rw [HI.out.2]; exact h3)
  have t1 : decide (pa < 0) = false := decide_eq_false h1
  have t2 : decide ((n : Int) < pa) = false := decide_eq_false h2
  have t3 : decide ((3000 : Int) < n) = false := decide_eq_false (by omega)
  clear h1 h2 h3
  go_enter Tryd.func23, Tryd.ntmps23
  go_wp2_with fail
  go_region
  go_wp2_with fail
  go_loopw [35] (fun v wr => ∃ i : Nat, i ≤ n ∧ v = .int .i64 i ∧ wr = w.drew ∧ Hid ((F.types.take i).all plT = true)) (fun v _ => n - (intOf v).toNat)
  case atStart => exact ⟨0, Nat.zero_le _, rfl, rfl, (by show _ = _; simp)⟩
  case round =>
    obtain ⟨i, hin, rfl, rfl, HA⟩ := hrel
    by_cases hlt2 : i < n
    · obtain ⟨x, hx⟩ : ∃ x, F.types[i]? = some x := ⟨F.types[i]'(by rw [HI.out.2]; exact hlt2), List.getElem?_eq_getElem _⟩
      obtain ⟨g, p, rfl, hcs⟩ : ∃ g o, q = some ⟨g, o, none⟩ ∧ ∀ j x, F.types[j]? = some x → w.cell? ⟨g, o + j, none⟩ = some (.int .i64 x) := by
        rcases HC.out with h | h
        · rw [h] at hx; simp at hx
        · exact h
      have k3 : w.drew.cell? ⟨g, p + i, none⟩ = some (.int .i64 x) := hcs i x hx
      have hl9 : (i : Int) < (n : Int) := by omega
      have HX : Hid (F.types[i]? = some x) := hx
      clear hcs hx
      cases ht : plT x with
      | true =>
        have HA2 : Hid ((F.types.take (i + 1)).all plT = true) := by show _ = _; rw [take_snoc HX.out, List.all_append, HA.out]; simp [ht]
        have tx : x = 1 ∨ x = 2 := by simpa [plT] using ht
        clear ht
        rcases tx with rfl | rfl
        · go_wp2
          exact ⟨⟨i + 1, by omega, by go_num, by trivial, HA2⟩, by simp [intOf]; omega⟩
        · go_wp2
          exact ⟨⟨i + 1, by omega, by go_num, by trivial, HA2⟩, by simp [intOf]; omega⟩
      | false =>
        have HE : Hid (G (.returned (.bool false)) w.drew) := by show G _ _; rw [← HG.out, HP.out, all_bad HX.out ht]; exact ⟨rfl, (Below.refl _ _).drew⟩
        have tx : (x == 1) = false ∧ (x == 2) = false := by simpa [plT] using ht
        obtain ⟨tx1, tx2⟩ := tx
        have tx3 : (x != 1) = true := by simp [bne, tx1]
        have tx4 : (x != 2) = true := by simp [bne, tx2]
        clear ht
        go_wp2
        exact HE.out
    · have hin2 : i = n := by omega
      subst hin2
      have HE : Hid (G (.returned (.bool true)) w.drew) := by
        show G _ _
        have e : F.types.take i = F.types := by rw [← HI.out.2, List.take_length]
        have := HA.out
        rw [e] at this
        rw [← HG.out, HP.out, this]
        exact ⟨rfl, (Below.refl _ _).drew⟩
      go_wp2
      exact HE.out
end Go.Proofs.YtjmbjpimabnohaaDoor.Mid
