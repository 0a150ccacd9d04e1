/- slices.Equal at []int64: two lists that are the same. -/
import Derived.Test.YtbobbmkmfcdeeaaDoorI2
namespace Go.Proofs.YtbobbmkmfcdeeaaDoor
open Go Go.RowKit

/-- A list of numbers that is read. -/
def Rd (w : World) (v : Value) (l : List Int) : Prop := ∃ p c, v = .slice p l.length c ∧ (l ≠ [] → ∃ g o, p = some ⟨g, o, none⟩ ∧ ∀ j, j < l.length → w.cell? ⟨g, o + j, none⟩ = some (.int .i64 (l.getD j 0)))

theorem Rd.of_own {w : World} {B : Nat} {v : Value} {l : List Int} (h : w.ownsRow B 2 1 v l.length (outL l)) : Rd w v l := by
  rcases h.2 with ⟨h1, h2⟩ | ⟨g, cap, cur, hv, _⟩
  · refine ⟨none, 0, by rw [h1, h2], fun hl => absurd (List.length_eq_zero_iff.1 h2) hl⟩
  · subst hv
    refine ⟨_, _, rfl, fun _ => ⟨g, 0, rfl, fun j hj => ?_⟩⟩
    have := h.cells (g := g) rfl j (.int .i64 l[j]) (by simp [outL, hj])
    rw [Nat.zero_add]
    have e : (⟨g, 0, none⟩ : Addr).add j = ⟨g, j, none⟩ := by unfold Addr.add; split <;> simp_all
    rw [e] at this
    rw [List.getD_eq_getElem?_getD, List.getElem?_eq_getElem hj]
    exact this

theorem Rd.below {w w' : World} {v : Value} {l : List Int} (h : Rd w v l) (hb : Below w.heap.size w w') : Rd w' v l := by
  obtain ⟨p, c, h1, h2⟩ := h
  refine ⟨p, c, h1, fun hl => ?_⟩
  obtain ⟨g, o, h3, h4⟩ := h2 hl
  refine ⟨g, o, h3, fun j hj => ?_⟩
  rw [hb.cell (block_lt_of_cell (h4 j hj))]; exact h4 j hj

set_option maxRecDepth 100000 in
set_option maxHeartbeats 1000000 in
theorem equal_nil (w : World) (p q : Option Addr) (c d : Nat) :
    Calls Tryd.prog 21 #[.slice p 0 c, .slice q 0 d] w fun e w' => e = .returned (.bool true) ∧ Below w.heap.size w w' := by
  go_enter Tryd.func21, Tryd.ntmps21
  go_wp2
  go_loop [13] (fun i => i = .int .i64 0) (fun _ => 0)
  case atStart => exact rfl
  case round =>
    subst hrel
    go_wp2
    go_ret
    exact ⟨rfl, Below.refl _ _⟩

set_option maxRecDepth 100000 in
set_option maxHeartbeats 1000000 in
theorem equal_some (w : World) (g o c g' o' d n : Nat) (f : Nat → Int) (h1 : ∀ j, j < n → w.cell? ⟨g, o + j, none⟩ = some (.int .i64 (f j))) (h2 : ∀ j, j < n → w.cell? ⟨g', o' + j, none⟩ = some (.int .i64 (f j))) (hn : n ≤ 100000) :
    Calls Tryd.prog 21 #[.slice (some ⟨g, o, none⟩) n c, .slice (some ⟨g', o', none⟩) n d] w fun e w' => e = .returned (.bool true) ∧ Below w.heap.size w w' := by
  have H1 : Hid (∀ j, j < n → w.cell? ⟨g, o + j, none⟩ = some (.int .i64 (f j))) := h1
  have H2 : Hid (∀ j, j < n → w.cell? ⟨g', o' + j, none⟩ = some (.int .i64 (f j))) := h2
  clear h1 h2
  go_enter Tryd.func21, Tryd.ntmps21
  go_wp2
  go_loopw [13] (fun i wr => ∃ j : Nat, j ≤ n ∧ i = .int .i64 j ∧ Hid (Below w.heap.size w wr)) (fun i _ => n - (intOf i).toNat)
  case atStart => exact ⟨0, Nat.zero_le _, rfl, Below.refl _ _⟩
  case round =>
    obtain ⟨j, hj, rfl, hb⟩ := hrel
    by_cases hlt : j < n
    · have k1 : wr.cell? ⟨g, o + j, none⟩ = some (.int .i64 (f j)) := by rw [hb.out.cell (block_lt_of_cell (H1.out j hlt))]; exact H1.out j hlt
      have k2 : wr.cell? ⟨g', o' + j, none⟩ = some (.int .i64 (f j)) := by rw [hb.out.cell (block_lt_of_cell (H2.out j hlt))]; exact H2.out j hlt
      generalize f j = x at *
      go_wp2
      go_region
      go_wp2
      exact ⟨⟨j + 1, by omega, by go_num, hb.out.drew⟩, by simp [intOf]; omega⟩
    · have e : j = n := by omega
      subst e
      go_wp2
      go_ret
      exact ⟨rfl, hb.out⟩

theorem equal_same (w : World) (v1 v2 : Value) (l : List Int) (h1 : Rd w v1 l) (h2 : Rd w v2 l) (hl : l.length ≤ 100000) :
    Calls Tryd.prog 21 #[v1, v2] w fun e w' => e = .returned (.bool true) ∧ Below w.heap.size w w' := by
  obtain ⟨p, c, rfl, k1⟩ := h1
  obtain ⟨q, d, rfl, k2⟩ := h2
  by_cases e : l = []
  · subst e; exact equal_nil w p q c d
  · obtain ⟨g, o, rfl, m1⟩ := k1 e
    obtain ⟨g', o', rfl, m2⟩ := k2 e
    exact equal_some w g o c g' o' d l.length (fun j => l.getD j 0) m1 m2 hl
end Go.Proofs.YtbobbmkmfcdeeaaDoor
