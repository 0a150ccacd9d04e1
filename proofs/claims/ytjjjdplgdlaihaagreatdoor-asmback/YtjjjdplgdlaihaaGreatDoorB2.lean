/- Package asm's opOf, walked. -/
import Derived.Test.YtjjjdplgdlaihaaGreatDoorB1
namespace Go.Proofs.YtjjjdplgdlaihaaGreatDoor
open Go Go.RowKit

theorem opV_hit (s : By) (k : Nat) (h1 : 1 ≤ k) (h2 : k < 32) (hk : opN k = s) (hb : ∀ j, 1 ≤ j → j < k → opN j ≠ s) : opV s = k := by
  unfold opV
  have : (List.range 32).find? (fun i => decide (1 ≤ i) && (opsL.getD i ([], [])).1 == s) = some k := by
    rw [List.find?_range_eq_some]
    refine ⟨by simp [h1]; exact hk, by simpa using h2, fun j hj => ?_⟩
    by_cases h : 1 ≤ j
    · simp [h]; exact hb j h hj
    · simp [h]
  rw [this]
  rfl
theorem opV_miss (s : By) (hb : ∀ j, 1 ≤ j → j < 32 → opN j ≠ s) : opV s = 0 := by
  unfold opV
  have : (List.range 32).find? (fun i => decide (1 ≤ i) && (opsL.getD i ([], [])).1 == s) = none := by
    rw [List.find?_eq_none]
    intro j hj
    simp only [List.mem_range] at hj
    by_cases h : 1 ≤ j
    · simp [h]; exact hb j h hj
    · simp [h]
  rw [this]
  rfl

theorem bytes_ext (s : ByteArray) (l : By) : s = ⟨l.toArray⟩ ↔ s.data.toList = l := by
  constructor
  · intro h; rw [h]
  · intro h; cases s with | mk d => simp at h ⊢; rw [← h]

theorem bytes_neq {b s : ByteArray} (h : ¬ b = s) : (b.toList == s.toList) = false := by
  rw [Lib.toList_data, Lib.toList_data]
  simp only [beq_eq_false_iff_ne, ne_eq]
  intro e
  exact h ((bytes_ext b s.data.toList).2 e)

set_option maxHeartbeats 2000000 in
theorem opOf_any (s : ByteArray) (w : World) (he : Env w) :
    Calls Tryz.prog 61 #[.string s] w fun e w' => e = .returned (.int .i64 (opV s.data.toList : Int)) ∧ w' = w := by
  have HE : Hid (Env w) := he
  clear he
  go_enter Tryz.func61, Tryz.ntmps61
  go_wp2
  go_loop [3] (fun i => ∃ k : Nat, 1 ≤ k ∧ k ≤ 32 ∧ i = .int .i64 k ∧ Hid (∀ j, 1 ≤ j → j < k → opN j ≠ s.data.toList)) (fun i => 32 - (intOf i).toNat)
  case atStart => exact ⟨1, by omega, by omega, rfl, fun j h1 h2 => by omega⟩
  case round =>
    obtain ⟨k, hk1, hk2, rfl, hb⟩ := hrel
    by_cases hlt : k < 32
    · have hc := HE.out.opn k hk1 (by omega)
      have hk3 : (k : Int) ≤ 31 := by omega
      by_cases hq : opN k = s.data.toList
      · have HV : Hid (opV s.data.toList = k) := opV_hit _ k hk1 hlt hq hb.out
        have hs : (⟨(opN k).toArray⟩ : ByteArray) = s := ((bytes_ext s _).2 hq.symm).symm
        simp only [str] at hc
        rw [hs] at hc
        clear hs hq
        go_wp2
        go_ret
        exact ⟨ret_int (by rw [HV.out]), rfl⟩
      · have hn : ¬ (⟨(opN k).toArray⟩ : ByteArray) = s := fun h => hq ((bytes_ext s _).1 h.symm).symm
        have HB : Hid (∀ j, 1 ≤ j → j < k + 1 → opN j ≠ s.data.toList) := fun j h1 h2 => by
          rcases Nat.lt_or_eq_of_le (Nat.le_of_lt_succ h2) with h | h
          · exact hb.out j h1 h
          · rw [h]; exact hq
        simp only [str] at hc
        clear hq
        generalize (⟨(opN k).toArray⟩ : ByteArray) = b at *
        have hn2 : (b.toList == s.toList) = false := bytes_neq hn
        go_wp2
        go_round
        case rel => exact ⟨k + 1, by omega, by omega, by go_num, HB⟩
        case measure => simp [intOf]; omega
    · obtain rfl : k = 32 := by omega
      have HV : Hid (opV s.data.toList = 0) := opV_miss _ hb.out
      go_wp2
      go_ret
      exact ⟨ret_int (by rw [HV.out]; rfl), rfl⟩
end Go.Proofs.YtjjjdplgdlaihaaGreatDoor
