/- slices.Equal of two lists of instructions that are alike. -/
import Derived.Test.YtjjjdplgdlaihaaGreatDoorF0
namespace Go.Proofs.YtjjjdplgdlaihaaGreatDoor
open Go Go.RowKit

/-- An instruction's cells, from place p of block g on. -/
structure Five (w : World) (g p : Nat) (d : Dr) : Prop where
  c0 : w.cell? ⟨g, p, none⟩ = some (.int .i64 d.o)
  c1 : w.cell? ⟨g, p + 1, none⟩ = some (.int .i64 d.d)
  c2 : w.cell? ⟨g, p + 2, none⟩ = some (.int .i64 d.a)
  c3 : w.cell? ⟨g, p + 3, none⟩ = some (.int .i64 d.b)
  c4 : w.cell? ⟨g, p + 4, none⟩ = some (.int .i64 d.n)
/-- A slice's instructions. -/
def Sl (w : World) (q : Option Addr) (l : List Dr) : Prop := ∃ g p, (0 < l.length → q = some ⟨g, p, none⟩) ∧ ∀ (i : Nat) (d : Dr), l[i]? = some d → Five w g (p + i * 5) d

set_option maxRecDepth 100000 in
set_option maxHeartbeats 2000000 in
theorem equal_yes (w : World) (q1 q2 : Option Addr) (c1 c2 L : Nat) (l : List Dr) (hl : L = l.length) (hb : L < 4294967281) (h1 : Sl w q1 l) (h2 : Sl w q2 l) :
    Calls Tryz.prog 18 #[.slice q1 L c1, .slice q2 L c2] w fun e w' => e = .returned (.bool true) ∧ Below w.heap.size w w' := by
  obtain ⟨g1, p1, e1, f1⟩ := h1
  obtain ⟨g2, p2, e2, f2⟩ := h2
  rw [← hl] at e1 e2
  have HL : Hid (L = l.length) := hl
  have F1 : Hid (∀ (i : Nat) (d : Dr), l[i]? = some d → Five w g1 (p1 + i * 5) d) := f1
  have F2 : Hid (∀ (i : Nat) (d : Dr), l[i]? = some d → Five w g2 (p2 + i * 5) d) := f2
  clear hl f1 f2
  go_enter Tryz.func18, Tryz.ntmps18
  go_wp2_with fail
  go_loopw [13] (fun i wr => ∃ k : Nat, k ≤ L ∧ i = .int .i64 k ∧ Hid (Below w.heap.size w wr ∧ wr.heap = w.heap)) (fun i _ => L - (intOf i).toNat)
  case atStart => exact ⟨0, Nat.zero_le _, rfl, Below.refl _ _, rfl⟩
  case round =>
    obtain ⟨k, hk, rfl, hw⟩ := hrel
    by_cases hlt : k < L
    · obtain ⟨x, hx⟩ : ∃ x, l[k]? = some x := ⟨_, List.getElem?_eq_getElem (by rw [← HL.out]; exact hlt)⟩
      have hq1 := e1 (by omega)
      have hq2 := e2 (by omega)
      subst hq1
      subst hq2
      have hcell : ∀ a, wr.cell? a = w.cell? a := fun a => World.cell?_of_block (w := w) (by rw [hw.out.2])
      obtain ⟨a0, a1, a2, a3, a4⟩ := F1.out k x hx
      obtain ⟨b0, b1, b2, b3, b4⟩ := F2.out k x hx
      rw [← hcell] at a0 a1 a2 a3 a4 b0 b1 b2 b3 b4
      clear hcell hx
      go_wp2_with fail
      go_region
      all_goals go_wp2
      all_goals exact ⟨⟨k + 1, by omega, by go_num, hw.out.1.drew, hw.out.2⟩, by simp [intOf]; omega⟩
    · obtain rfl : k = L := by omega
      go_wp2
      go_ret
      exact ⟨rfl, hw.out.1⟩
end Go.Proofs.YtjjjdplgdlaihaaGreatDoor
