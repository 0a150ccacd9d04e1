/- Package machine's take, goesThere, and the closure that writes a register, walked. -/
import Derived.Test.YtbobbmkmfcdeeaaDoorG5
namespace Go.Proofs.YtbobbmkmfcdeeaaDoor
open Go Go.RowKit

set_option maxHeartbeats 1000000 in
theorem take_none (w : World) (s : Nat) (p : Option Addr) (c : Nat) (hg : w.cell? ⟨s, 34, none⟩ = some (.slice p 0 c)) :
    Calls Tryd.prog 66 #[.pointer (some ⟨s, 0, none⟩)] w fun e w' => e = .returned (.int .i64 0) ∧ w' = w := by
  go_enter Tryd.func66, Tryd.ntmps66
  go_wp2
  go_ret
  exact ⟨rfl, rfl⟩

set_option maxHeartbeats 1000000 in
theorem take_some (w : World) (s gb o n c : Nat) (g : Int) (hg : w.cell? ⟨s, 34, none⟩ = some (.slice (some ⟨gb, o, none⟩) (n + 1) c)) (hc : n + 1 ≤ c) (hc2 : c ≤ 9223372036854775807) (hv : w.cell? ⟨gb, o, none⟩ = some (.int .i64 g))
    (hf : ∀ i, w.frozen? ⟨s, i, none⟩ = false) :
    Calls Tryd.prog 66 #[.pointer (some ⟨s, 0, none⟩)] w fun e w' => e = .returned (.int .i64 g) ∧ ∃ o', w' = w.setCell ⟨s, 34, none⟩ (.slice (some ⟨gb, o', none⟩) n (c - 1)) ∧ (n = 0 ∨ o' = o + 1) := by
  by_cases h1 : c = 1
  · obtain rfl : n = 0 := by omega
    subst h1
    go_enter Tryd.func66, Tryd.ntmps66
    go_wp2
    go_ret
    exact ⟨rfl, _, rfl, .inl trivial⟩
  · have h2 : 2 ≤ c := by omega
    go_enter Tryd.func66, Tryd.ntmps66
    go_wp2
    all_goals
      first
      | (exfalso; omega)
      | (go_ret
         exact ⟨rfl, _, rfl, .inr rfl⟩)

/-- What goesThere tells. -/
def goesV (o a b : Int) : Bool := if o = 25 then a == b else if o = 26 then a != b else if o = 27 then decide (a < b) else decide (b ≤ a)

def goesL (a b : Int) : List Value := List.replicate 25 (.bool false) ++ [.bool (a == b), .bool (a != b), .bool (decide (a < b)), .bool (decide (b ≤ a))]

theorem goesL_one (a b : Int) : ∀ v ∈ goesL a b, v.oneCell' = true := by
  intro v hv
  simp [goesL] at hv
  rcases hv with rfl | rfl | rfl | rfl | rfl <;> rfl

set_option maxRecDepth 100000 in
set_option maxHeartbeats 1000000 in
theorem goes_any (o a b : Int) (w : World) (ho : o = 25 ∨ o = 26 ∨ o = 27 ∨ o = 28) :
    Calls Tryd.prog 46 #[.int .i64 o, .int .i64 a, .int .i64 b] w fun e w' => e = .returned (.bool (goesV o a b)) ∧ Below w.heap.size w w' := by
  have HB : Hid (Below w.heap.size w (w.alloc (.cells (goesL a b).toArray 128))) := (Below.refl _ _).alloc (Nat.le_refl _) _
  have hcell : (w.alloc (.cells (goesL a b).toArray 128)).cell? ⟨w.heap.size, o.toNat, none⟩ = some (.bool (goesV o a b)) := by
    rw [cell_of_row _ _ _ _ _ _ (heap_alloc_last w _)]
    rcases ho with rfl | rfl | rfl | rfl <;> rfl
  have ONE := goesL_one a b
  have SZ : (Tryd.prog.info? 128).map (·.size) = some (goesL a b).length := by kernel_rfl
  have HO : Hid (∀ v ∈ goesL a b, v.oneCell' = true) := ONE
  have HS : Hid ((Tryd.prog.info? 128).map (·.size) = some (goesL a b).length) := SZ
  clear ONE SZ
  have ho2 : 25 ≤ o ∧ o ≤ 28 := by omega
  obtain ⟨o, rfl⟩ := Int.eq_ofNat_of_zero_le (show 0 ≤ o by omega)
  simp only [Int.toNat_natCast] at hcell
  generalize goesV o a b = r at *
  go_enter Tryd.func46, Tryd.ntmps46
  go_wp2_with (refine wpList_store_new rfl 128 _ _ rfl _ _ (goesL a b) rfl rfl (by simp) HS.out (by rfl) HO.out ?_)
  go_ret
  exact ⟨rfl, HB.out⟩

set_option maxHeartbeats 1000000 in
theorem write_zero (w : World) (g1 g2 : Nat) (v : Int) (h1 : w.cell? ⟨g1, 1, none⟩ = some (.int .i64 0)) :
    Calls Tryd.prog 43 #[.int .i64 v, .pointer (some ⟨g1, 0, none⟩), .pointer (some ⟨g2, 0, none⟩)] w fun e w' => e = .returned (.tuple #[]) ∧ w' = w := by
  go_enter Tryd.func43, Tryd.ntmps43
  go_wp2
  go_end0
  exact ⟨rfl, rfl⟩

set_option maxHeartbeats 1000000 in
theorem write_some (w : World) (g1 g2 s d : Nat) (v : Int) (u : Value) (h1 : w.cell? ⟨g1, 1, none⟩ = some (.int .i64 (d : Int))) (h2 : w.cell? ⟨g2, 0, none⟩ = some (.pointer (some ⟨s, 0, none⟩)))
    (hd : d ≠ 0) (hd2 : d < 32) (hc : w.cell? ⟨s, d, none⟩ = some u) (hf : w.frozen? ⟨s, d, none⟩ = false) :
    Calls Tryd.prog 43 #[.int .i64 v, .pointer (some ⟨g1, 0, none⟩), .pointer (some ⟨g2, 0, none⟩)] w fun e w' => e = .returned (.tuple #[]) ∧ w' = (w.setCell ⟨s, d, none⟩ (.int .i64 v)).drew := by
  go_enter Tryd.func43, Tryd.ntmps43
  go_wp2
  go_region
  go_wp2
  go_end0
  exact ⟨rfl, rfl⟩
end Go.Proofs.YtbobbmkmfcdeeaaDoor
