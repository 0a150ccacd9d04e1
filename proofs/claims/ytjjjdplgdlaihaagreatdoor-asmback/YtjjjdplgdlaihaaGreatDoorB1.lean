/- Package asm's letter and Name, walked. -/
import Derived.Test.YtjjjdplgdlaihaaGreatDoorB0
namespace Go.Proofs.YtjjjdplgdlaihaaGreatDoor
open Go Go.RowKit

def ltI (x : Int) : Bool := decide (97 ≤ x) && decide (x ≤ 122)
theorem letter_any (x : Int) (w : World) : Calls Tryz.prog 30 #[.int .u8 x] w fun e w' => e = .returned (.bool (ltI x)) ∧ w' = w := by
  by_cases h1 : 97 ≤ x
  · by_cases h2 : x ≤ 122
    · go_enter Tryz.func30, Tryz.ntmps30
      go_wp2
      go_ret
      exact ⟨ret_bool (by simp [ltI, h1, h2]), rfl⟩
    · go_enter Tryz.func30, Tryz.ntmps30
      go_wp2
      go_ret
      exact ⟨ret_bool (by simp [ltI, h2]), rfl⟩
  · go_enter Tryz.func30, Tryz.ntmps30
    go_wp2
    go_ret
    exact ⟨ret_bool (by simp [ltI]; omega), rfl⟩

theorem ltI_is (c : UInt8) : ltI (c.toNat : Int) = isL c := by
  unfold ltI isL
  rw [Bool.eq_iff_iff]
  simp
  omega
def okI (x : Int) : Bool := ltI x || (decide (48 ≤ x) && decide (x ≤ 57)) || decide (x = 95) || decide (x = 46)
theorem okI_is (c : UInt8) : okI (c.toNat : Int) = okC c := by
  have e1 : decide ((c.toNat : Int) = 95) = (c.toNat == 95) := by rw [Bool.eq_iff_iff]; simp; omega
  have e2 : decide ((c.toNat : Int) = 46) = (c.toNat == 46) := by rw [Bool.eq_iff_iff]; simp; omega
  have e3 : decide (48 ≤ (c.toNat : Int)) = decide (48 ≤ c.toNat) := by rw [Bool.eq_iff_iff]; simp; omega
  have e4 : decide ((c.toNat : Int) ≤ 57) = decide (c.toNat ≤ 57) := by rw [Bool.eq_iff_iff]; simp; omega
  unfold okI okC
  rw [ltI_is, e1, e2, e3, e4]

theorem all_snoc (s : ByteArray) (k : Nat) (h : k < s.size) : (s.data.toList.take (k + 1)).all okC = ((s.data.toList.take k).all okC && okC s[k]) := by
  rw [List.take_succ_eq_append_getElem (by simpa using h), List.all_append]
  simp
  rfl

set_option maxHeartbeats 2000000 in
theorem name_any (s : ByteArray) (w : World) (hs : s.size ≤ 9223372036854775807) :
    Calls Tryz.prog 9 #[.string s] w fun e w' => e = .returned (.bool (nameV s.data.toList)) ∧ w' = w := by
  have hlen : s.data.toList.length = s.size := by simp
  by_cases h1 : s.size < 1
  · have e : nameV s.data.toList = false := by unfold nameV; rw [hlen]; simp; omega
    rw [e]
    go_enter Tryz.func9, Tryz.ntmps9
    go_wp2
    go_ret
    exact ⟨rfl, rfl⟩
  · by_cases h2 : 24 < s.size
    · have e : nameV s.data.toList = false := by unfold nameV; rw [hlen]; simp; omega
      rw [e]
      go_enter Tryz.func9, Tryz.ntmps9
      go_wp2
      go_ret
      exact ⟨rfl, rfl⟩
    · have h0 : 0 < s.size := by omega
      have hd : ∃ c t, s.data.toList = c :: t ∧ s[0] = c := by
        cases hc : s.data.toList with
        | nil => rw [hc] at hlen; simp at hlen; omega
        | cons c t =>
          refine ⟨c, t, rfl, ?_⟩
          have : s.data.toList[0]? = some c := by rw [hc]; rfl
          rw [List.getElem?_eq_getElem (by omega)] at this
          exact (by simpa using this : s.data[0] = c)
      obtain ⟨c, t, hct, hc0⟩ := hd
      cases hL : isL c with
      | false =>
        have e : nameV s.data.toList = false := by unfold nameV; rw [hct]; simp [hL]
        rw [e]
        have HL : Hid (ltI (s[0].toNat : Int) = false) := by show _ = _; rw [ltI_is, hc0]; exact hL
        clear e hct hL hc0 hlen
        go_enter Tryz.func9, Tryz.ntmps9
        go_wp2_with (first | (go_at_call 30; refine (letter_any _ _).mono ?_; rw [HL.out]; rintro e w ⟨rfl, rfl⟩) | go_in)
        go_ret
        exact ⟨rfl, rfl⟩
      | true =>
        have HL : Hid (ltI (s[0].toNat : Int) = true) := by show _ = _; rw [ltI_is, hc0]; exact hL
        have HN : Hid (nameV s.data.toList = s.data.toList.all okC) := by
          show _ = _
          unfold nameV
          rw [hlen, hct]
          simp [hL]
          intro _ _
          omega
        clear hct hL hc0 hlen
        go_enter Tryz.func9, Tryz.ntmps9
        go_wp2_with (first | (go_at_call 30; refine (letter_any _ _).mono ?_; rw [HL.out]; rintro e w ⟨rfl, rfl⟩) | go_in)
        go_loop [21] (fun i => ∃ k : Nat, k ≤ s.size ∧ i = .int .i64 k ∧ Hid ((s.data.toList.take k).all okC = true)) (fun i => s.size - (intOf i).toNat)
        case atStart => exact ⟨0, Nat.zero_le _, rfl, by show _ = _; simp⟩
        case round =>
          obtain ⟨k, hk, rfl, hall⟩ := hrel
          by_cases hlt : k < s.size
          · have HS : Hid ((s.data.toList.take (k + 1)).all okC = ((s.data.toList.take k).all okC && okC s[k])) := all_snoc s k hlt
            have HO : Hid (okI (s[k].toNat : Int) = okC s[k]) := okI_is _
            have HT : Hid (okI (s[k].toNat : Int) = true → (s.data.toList.take (k + 1)).all okC = true) := fun h => by rw [HS.out, hall.out, ← HO.out, h]; rfl
            have HF : Hid (okI (s[k].toNat : Int) = false → nameV s.data.toList = false) := fun h => by
              rw [HN.out, ← List.take_append_drop (k + 1) s.data.toList, List.all_append, HS.out, ← HO.out, h]
              simp
            clear HS HO
            cases hl : ltI (s[k].toNat : Int) with
            | true =>
              have HL2 : Hid (ltI (s[k].toNat : Int) = true) := hl
              clear hl
              go_wp2_with (first | (go_at_call 30; refine (letter_any _ _).mono ?_; rw [HL2.out]; rintro e w ⟨rfl, rfl⟩) | go_in)
              go_round
              case rel => exact ⟨k + 1, by omega, by go_num, HT.out (by simp [okI, HL2.out])⟩
              case measure => simp [intOf]; omega
            | false =>
              have HL2 : Hid (ltI (s[k].toNat : Int) = false) := hl
              clear hl
              have h4 : (48 ≤ (s[k].toNat : Int) ∧ (s[k].toNat : Int) ≤ 57) ∨ (s[k].toNat : Int) = 95 ∨ (s[k].toNat : Int) = 46 ∨ ((s[k].toNat : Int) < 48 ∧ ¬ (s[k].toNat : Int) = 46) ∨ (57 < (s[k].toNat : Int) ∧ ¬ (s[k].toNat : Int) = 95) := by omega
              rcases h4 with ⟨h4, h5⟩ | h4 | h4 | ⟨h4, h5⟩ | ⟨h4, h5⟩
              · go_wp2_with (first | (go_at_call 30; refine (letter_any _ _).mono ?_; rw [HL2.out]; rintro e w ⟨rfl, rfl⟩) | go_in)
                go_round
                case rel => exact ⟨k + 1, by omega, by go_num, HT.out (by simp [okI, HL2.out]; omega)⟩
                case measure => simp [intOf]; omega
              · rw [h4] at HT HF HL2
                go_wp2_with (first | (go_at_call 30; refine (letter_any _ _).mono ?_; rw [HL2.out]; rintro e w ⟨rfl, rfl⟩) | go_in)
                go_round
                case rel => exact ⟨k + 1, by omega, by go_num, HT.out (by decide)⟩
                case measure => simp [intOf]; omega
              · rw [h4] at HT HF HL2
                go_wp2_with (first | (go_at_call 30; refine (letter_any _ _).mono ?_; rw [HL2.out]; rintro e w ⟨rfl, rfl⟩) | go_in)
                go_round
                case rel => exact ⟨k + 1, by omega, by go_num, HT.out (by decide)⟩
                case measure => simp [intOf]; omega
              · have h6 : ((s[k].toNat : Int) != 95) = true := by simp; omega
                have h7 : ((s[k].toNat : Int) != 46) = true := by simp; omega
                go_wp2_with (first | (go_at_call 30; refine (letter_any _ _).mono ?_; rw [HL2.out]; rintro e w ⟨rfl, rfl⟩) | go_in)
                go_ret
                exact ⟨ret_bool (HF.out (by simp [okI, HL2.out]; omega)).symm, rfl⟩
              · have h6 : ((s[k].toNat : Int) != 46) = true := by simp; omega
                have h7 : ((s[k].toNat : Int) != 95) = true := by simp; omega
                go_wp2_with (first | (go_at_call 30; refine (letter_any _ _).mono ?_; rw [HL2.out]; rintro e w ⟨rfl, rfl⟩) | go_in)
                go_ret
                exact ⟨ret_bool (HF.out (by simp [okI, HL2.out]; omega)).symm, rfl⟩
          · have e : k = s.size := by omega
            subst e
            go_wp2
            go_ret
            refine ⟨ret_bool ?_, rfl⟩
            rw [HN.out]
            have := hall.out
            rw [List.take_of_length_le (by simp)] at this
            exact this.symm
end Go.Proofs.YtjjjdplgdlaihaaGreatDoor
