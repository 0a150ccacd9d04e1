/- Package asm's readRegister, walked. -/
import Derived.Test.YtjjjdplgdlaihaaGreatDoorB3
namespace Go.Proofs.YtjjjdplgdlaihaaGreatDoor
open Go Go.RowKit

theorem pre_yes (t : By) : Lib.hasPrefix (120 :: t) [120] = true ∧ Lib.trimPrefix (120 :: t) [120] = t := by
  have h : Lib.hasPrefix (120 :: t) [120] = true := by simp [Lib.hasPrefix, List.isPrefixOf]
  exact ⟨h, by unfold Lib.trimPrefix; rw [h]; rfl⟩
theorem pre_no (l : By) (h : ∀ t, l ≠ 120 :: t) : Lib.hasPrefix l [120] = false := by
  cases l with
  | nil => rfl
  | cons c t =>
    have : ¬ c = 120 := fun e => h t (by rw [e])
    simp [Lib.hasPrefix, List.isPrefixOf]
    exact fun e => this e.symm

theorem rgs_split {l : By} {v : Int} (h : rgsV l = some v) : ∃ t, l = 120 :: t ∧ numV t = some v ∧ 0 ≤ v ∧ v < 32 := by
  cases l with
  | nil => simp [rgsV] at h
  | cons c t =>
    unfold rgsV at h
    dsimp only at h
    split at h
    · rename_i hc
      split at h
      · rename_i n hn
        split at h
        · rename_i hr
          injection h with h
          subst h
          exact ⟨t, by rw [hc], hn, hr.1, hr.2⟩
        · cases h
      · cases h
    · cases h

abbrev nW (w : World) : World := w.alloc (.cells #[.int .i64 0] 2)

set_option maxHeartbeats 2000000 in
theorem reg_yes (s : ByteArray) (p : Addr) (old : Value) (v : Int) (w : World) (he : Env w) (hsz : s.size ≤ 281474976710656) (h : rgsV s.data.toList = some v) (hc : w.cell? p = some old) (hf : w.frozen? p = false) :
    Calls Tryz.prog 90 #[.string s, .pointer (some p)] w fun e w' => e = .returned (.bool true) ∧ ∃ w2, Below w.heap.size w w2 ∧ w' = w2.setCell p (.int .i64 v) := by
  obtain ⟨t, h1, h2, v0, v1⟩ := rgs_split h
  have HP : Hid (Calls Tryz.prog 110 #[.string s, .string ⟨#[120]⟩] w fun e w' => e = .returned (.tuple #[.string ⟨t.toArray⟩, .bool true]) ∧ w' = w) := by
    have := Tryz.strings_CutPrefix s ⟨#[120]⟩ w
    have e : (ByteArray.mk #[120]).data.toList = [120] := rfl
    rw [h1, e, (pre_yes t).1, (pre_yes t).2] at this
    exact this
  have hb0 : Below w.heap.size w (nW w) := (Below.refl _ _).alloc (Nat.le_refl _) _
  have hts : (ByteArray.mk t.toArray).size ≤ 281474976710656 := by
    have : s.data.toList.length = s.size := by simp
    rw [h1] at this
    simp at this
    show t.toArray.size ≤ _
    simp; omega
  have HN : Hid (Calls Tryz.prog 91 #[.string ⟨t.toArray⟩, .pointer (some ⟨w.heap.size, 0, none⟩)] (nW w) fun e w' => e = .returned (.bool true) ∧ w'.cell? ⟨w.heap.size, 0, none⟩ = some (.int .i64 v) ∧ Below w.heap.size w w') :=
    (num_yes ⟨t.toArray⟩ ⟨w.heap.size, 0, none⟩ (.int .i64 0) v (nW w) (he.below hb0) hts h2 (by simp) (by simp)).mono fun e w' ⟨a, w2, b1, b2⟩ => by
      have c2 : w2.cell? ⟨w.heap.size, 0, none⟩ = some (.int .i64 0) := by
        rw [b1.cell (p := ⟨w.heap.size, 0, none⟩) (by simp)]; simp
      have hB : Below w.heap.size w w2 := hb0.trans (b1.mono (by simp))
      exact ⟨a, by rw [b2]; exact World.cell?_setCell_same _ _ _ c2, by rw [b2]; exact hB.setCell (p := ⟨w.heap.size, 0, none⟩) (Nat.le_refl _) _⟩
  have HC : Hid (∀ w', Below w.heap.size w w' → w'.cell? p = some old ∧ w'.frozen? p = false) := fun w' hb => by
    have hl := block_lt_of_cell hc
    exact ⟨(hb.cell hl).trans hc, (World.frozen?_of_block (w := w) (hb.block _ hl)).trans hf⟩
  clear h h1 h2 he hc hf hb0 hts hsz
  go_enter Tryz.func90, Tryz.ntmps90
  go_wp2_with (first
    | (go_at_call 110; refine HP.out.mono ?_; rintro e w ⟨rfl, rfl⟩)
    | (go_at_call 91; refine HN.out.mono ?_; rintro e w2 ⟨rfl, hc2, hb2⟩; obtain ⟨hc3, hf3⟩ := HC.out _ hb2; have HB2 : Hid (Below w.heap.size w w2) := hb2; clear hb2)
    | go_in)
  go_ret
  exact ⟨rfl, w2, HB2.out, rfl⟩

set_option maxHeartbeats 2000000 in
theorem reg_no (s : ByteArray) (p : Addr) (w : World) (he : Env w) (hsz : s.size ≤ 281474976710656) (h : rgsV s.data.toList = none) :
    Calls Tryz.prog 90 #[.string s, .pointer (some p)] w fun e w' => e = .returned (.bool false) ∧ Below w.heap.size w w' := by
  have hb0 : Below w.heap.size w (nW w) := (Below.refl _ _).alloc (Nat.le_refl _) _
  have e0 : (ByteArray.mk #[120]).data.toList = [120] := rfl
  by_cases hx : ∃ t, s.data.toList = 120 :: t
  · obtain ⟨t, ht⟩ := hx
    have hts : (ByteArray.mk t.toArray).size ≤ 281474976710656 := by
      have : s.data.toList.length = s.size := by simp
      rw [ht] at this
      simp at this
      show t.toArray.size ≤ _
      simp; omega
    have HP : Hid (Calls Tryz.prog 110 #[.string s, .string ⟨#[120]⟩] w fun e w' => e = .returned (.tuple #[.string ⟨t.toArray⟩, .bool true]) ∧ w' = w) := by
      have := Tryz.strings_CutPrefix s ⟨#[120]⟩ w
      rw [ht, e0, (pre_yes t).1, (pre_yes t).2] at this
      exact this
    cases hn : numV t with
    | none =>
      have HN : Hid (Calls Tryz.prog 91 #[.string ⟨t.toArray⟩, .pointer (some ⟨w.heap.size, 0, none⟩)] (nW w) fun e w' => e = .returned (.bool false) ∧ Below w.heap.size w w') :=
        (num_no ⟨t.toArray⟩ ⟨w.heap.size, 0, none⟩ (nW w) (he.below hb0) hts hn).mono fun e w' ⟨a, b⟩ => ⟨a, hb0.trans (b.mono (by simp))⟩
      clear h he hts hsz hb0 hn ht
      go_enter Tryz.func90, Tryz.ntmps90
      go_wp2_with (first
        | (go_at_call 110; refine HP.out.mono ?_; rintro e w ⟨rfl, rfl⟩)
        | (go_at_call 91; refine HN.out.mono ?_; rintro e w2 ⟨rfl, hb2⟩; have HB2 : Hid (Below w.heap.size w w2) := hb2; clear hb2)
        | go_in)
      go_ret
      exact ⟨rfl, HB2.out⟩
    | some v =>
      have hv : v < 0 ∨ 32 ≤ v := by
        unfold rgsV at h
        rw [ht] at h
        dsimp only at h
        rw [if_pos rfl, hn] at h
        dsimp only at h
        split at h
        · cases h
        · omega
      have HN : Hid (Calls Tryz.prog 91 #[.string ⟨t.toArray⟩, .pointer (some ⟨w.heap.size, 0, none⟩)] (nW w) fun e w' => e = .returned (.bool true) ∧ w'.cell? ⟨w.heap.size, 0, none⟩ = some (.int .i64 v) ∧ Below w.heap.size w w') :=
        (num_yes ⟨t.toArray⟩ ⟨w.heap.size, 0, none⟩ (.int .i64 0) v (nW w) (he.below hb0) hts hn (by simp) (by simp)).mono fun e w' ⟨a, w2, b1, b2⟩ => by
          have c2 : w2.cell? ⟨w.heap.size, 0, none⟩ = some (.int .i64 0) := by
            rw [b1.cell (p := ⟨w.heap.size, 0, none⟩) (by simp)]; simp
          have hB : Below w.heap.size w w2 := hb0.trans (b1.mono (by simp))
          exact ⟨a, by rw [b2]; exact World.cell?_setCell_same _ _ _ c2, by rw [b2]; exact hB.setCell (p := ⟨w.heap.size, 0, none⟩) (Nat.le_refl _) _⟩
      clear h he hts hsz hb0 hn ht
      rcases hv with hv | hv
      · go_enter Tryz.func90, Tryz.ntmps90
        go_wp2_with (first
          | (go_at_call 110; refine HP.out.mono ?_; rintro e w ⟨rfl, rfl⟩)
          | (go_at_call 91; refine HN.out.mono ?_; rintro e w2 ⟨rfl, hc2, hb2⟩; have HB2 : Hid (Below w.heap.size w w2) := hb2; clear hb2)
          | go_in)
        go_ret
        exact ⟨rfl, HB2.out⟩
      · go_enter Tryz.func90, Tryz.ntmps90
        go_wp2_with (first
          | (go_at_call 110; refine HP.out.mono ?_; rintro e w ⟨rfl, rfl⟩)
          | (go_at_call 91; refine HN.out.mono ?_; rintro e w2 ⟨rfl, hc2, hb2⟩; have HB2 : Hid (Below w.heap.size w w2) := hb2; clear hb2)
          | go_in)
        go_ret
        exact ⟨rfl, HB2.out⟩
  · have hp := pre_no s.data.toList (fun t e => hx ⟨t, e⟩)
    have HP : Hid (Calls Tryz.prog 110 #[.string s, .string ⟨#[120]⟩] w fun e w' => ∃ x, e = .returned (.tuple #[.string x, .bool false]) ∧ w' = w) := by
      have := Tryz.strings_CutPrefix s ⟨#[120]⟩ w
      rw [e0, hp] at this
      exact this.mono fun e w' ⟨a, b⟩ => ⟨_, a, b⟩
    clear h he hsz hp
    have HB2 : Hid (Below w.heap.size w (nW w)) := hb0
    clear hb0
    go_enter Tryz.func90, Tryz.ntmps90
    go_wp2_with (first
      | (go_at_call 110; refine HP.out.mono ?_; rintro e w ⟨x, rfl, rfl⟩)
      | go_in)
    go_ret
    exact ⟨rfl, HB2.out⟩
end Go.Proofs.YtjjjdplgdlaihaaGreatDoor
