/- Package mid: Steps, walked; the document's in, typed. -/
import Derived.Test.YtjmbjpimabnohaaDoorQI
namespace Go.Proofs.YtjmbjpimabnohaaDoor.Mid
set_option linter.unusedVariables false
set_option linter.unusedSimpArgs false
open Go Go.RowKit

/-- How many steps there are. -/
def stepsV (L : List Mf) : Nat := (L.map (fun F => F.steps.length)).sum
theorem steps_snoc (L : List Mf) (F : Mf) : stepsV (L ++ [F]) = stepsV L + F.steps.length := by simp [stepsV]
theorem steps_le : ∀ (L : List Mf), (∀ F ∈ L, F.steps.length ≤ 1000000) → stepsV L ≤ L.length * 1000000
  | [], _ => by simp [stepsV]
  | F :: L, h => by
    have h1 := steps_le L (fun G hG => h G (by simp [hG]))
    have h2 := h F (by simp)
    simp only [stepsV, List.map_cons, List.sum_cons, List.length_cons] at h1 ⊢
    omega
def NmP (n : Nat) (w : World) (e : Ending) (w' : World) : Prop := e = .returned (.int .i64 (n : Int)) ∧ Below w.heap.size w w'
set_option maxRecDepth 100000 in
set_option maxHeartbeats 2000000 in
theorem Steps_any (w : World) (cb : Nat) (q : Option Addr) (c : Nat) (L : List Mf) (h : CodeAt w cb q c L) : Calls Tryd.prog 10 #[ptr cb] w (NmP (stepsV L) w) := by
  have k0 := h.c0
  have HA : Hid (CodeAt w cb q c L) := h
  obtain ⟨n, hn⟩ : ∃ n, n = L.length := ⟨_, rfl⟩
  have HN : Hid (n = L.length) := hn
  have hn6 : n ≤ 1000000 := by rw [hn]; exact h.le.2
  rw [← hn] at k0
  have HBd : Hid (∀ i, i ≤ n → stepsV (L.take i) ≤ i * 1000000) := fun i hi => by
    have := steps_le (L.take i) (fun F hF => by
      have hF' := List.mem_of_mem_take hF
      obtain ⟨j, hj⟩ := List.getElem?_of_mem hF'
      rcases HA.out.fn with h2 | ⟨g, p, _, h2⟩
      · rw [h2] at hj; simp at hj
      · exact (h2 j F hj).i2.2.2)
    rw [List.length_take] at this
    have hm : min i L.length ≤ i := Nat.min_le_left _ _
    exact Nat.le_trans this (Nat.mul_le_mul_right _ hm)
  generalize hG : NmP (stepsV L) w = G
  have HG : Hid (NmP (stepsV L) w = G) := hG
  clear h hn hG
  go_enter Tryd.func10, Tryd.ntmps10
  go_wp2_with fail
  go_loopw [3, 13] (fun v3 v wr => ∃ i s : Nat, i ≤ n ∧ v3 = .int .i64 (s : Int) ∧ v = .int .i64 i ∧ Hid (s = stepsV (L.take i)) ∧ Hid (Below w.heap.size w wr)) (fun _ v _ => n - (intOf v).toNat)
  case atStart => exact ⟨0, 0, Nat.zero_le _, rfl, rfl, rfl, Below.refl _ _⟩
  case round =>
    obtain ⟨i, s, hin, rfl, rfl, HS, HB⟩ := hrel
    have hs6 : s ≤ 1000000000000 := by have h1 := HBd.out i hin; have h2 := HS.out; omega
    by_cases hlt2 : i < n
    · obtain ⟨F, hF⟩ : ∃ F, L[i]? = some F := ⟨L[i]'(by rw [← HN.out]; exact hlt2), List.getElem?_eq_getElem _⟩
      obtain ⟨g, p, rfl, hfn⟩ : ∃ g p, q = some ⟨g, p, none⟩ ∧ ∀ j F, L[j]? = some F → FnAt w g (p + j * 4) F := by
        rcases HA.out.fn with h | h
        · rw [h] at hF; simp at hF
        · exact h
      have hFA := (hfn i F hF).below HB.out
      have d0 := hFA.c0
      have d1 := hFA.c1
      obtain ⟨vt, d2, qt, ct, rfl, _⟩ := hFA.c2
      obtain ⟨qs, cs, d3, _, _⟩ := hFA.c3
      obtain ⟨ns, hns⟩ : ∃ ns, ns = F.steps.length := ⟨_, rfl⟩
      obtain ⟨nt, hnt⟩ : ∃ nt, nt = F.types.length := ⟨_, rfl⟩
      obtain ⟨y, hy⟩ : ∃ y : ByteArray, y = ⟨F.name.toArray⟩ := ⟨_, rfl⟩
      obtain ⟨pa, hpa⟩ : ∃ pa, pa = F.params := ⟨_, rfl⟩
      rw [← hns] at d3
      rw [← hnt] at d2
      rw [← hy] at d0
      rw [← hpa] at d1
      have hns6 : ns ≤ 1000000 := by rw [hns]; exact hFA.i2.2.2
      have HS2 : Hid (s + ns = stepsV (L.take (i + 1))) := by show _ = _; rw [take_snoc hF, steps_snoc, ← HS.out, hns]
      have HB2 : Hid (Below w.heap.size w (wr.alloc (.cells #[.string y, .int .i64 pa, .slice qt nt ct, .slice qs ns cs] 35))) := HB.out.trans ((al_bel2 _ _).mono HB.out.size)
      have hl9 : (i : Int) < (n : Int) := by omega
      clear hF hfn hFA hns hnt hy hpa
      go_wp2
      exact ⟨⟨i + 1, s + ns, by omega, by go_num, by go_num, HS2, HB2⟩, by simp [intOf]; omega⟩
    · have hin2 : i = n := by omega
      subst hin2
      have HE : Hid (G (.returned (.int .i64 (s : Int))) wr) := by
        show G _ _
        rw [← HG.out, HS.out, HN.out, List.take_length]
        exact ⟨rfl, HB.out⟩
      go_wp2
      exact HE.out
/-- A number between two. -/
def inB (a lo hi : Int) : Bool := decide (lo ≤ a ∧ a ≤ hi)
set_option maxHeartbeats 1000000 in
theorem in_any (a lo hi : Int) (w : World) : Calls Tryd.prog 25 #[.int .i64 a, .int .i64 lo, .int .i64 hi] w (LqP (inB a lo hi) w) := by
  generalize hG : LqP (inB a lo hi) w = G
  have HG : Hid (LqP (inB a lo hi) w = G) := hG
  clear hG
  by_cases h1 : lo ≤ a
  · by_cases h2 : a ≤ hi
    · have HE : Hid (G (.returned (.bool true)) w) := by show G _ _; rw [← HG.out]; unfold inB; rw [decide_eq_true ⟨h1, h2⟩]; exact ⟨rfl, rfl⟩
      have t1 : decide (a < lo) = false := decide_eq_false (by omega)
      have t2 : decide (hi < a) = false := decide_eq_false (by omega)
      go_enter Tryd.func25, Tryd.ntmps25
      go_wp2
      exact HE.out
    · have HE : Hid (G (.returned (.bool false)) w) := by show G _ _; rw [← HG.out]; unfold inB; rw [decide_eq_false (by omega)]; exact ⟨rfl, rfl⟩
      have t1 : decide (a < lo) = false := decide_eq_false (by omega)
      have t2 : decide (hi < a) = true := decide_eq_true (by omega)
      go_enter Tryd.func25, Tryd.ntmps25
      go_wp2
      exact HE.out
  · have HE : Hid (G (.returned (.bool false)) w) := by show G _ _; rw [← HG.out]; unfold inB; rw [decide_eq_false (by omega)]; exact ⟨rfl, rfl⟩
    have t1 : decide (a < lo) = true := decide_eq_true (by omega)
    go_enter Tryd.func25, Tryd.ntmps25
    go_wp2
    exact HE.out
end Go.Proofs.YtjmbjpimabnohaaDoor.Mid
