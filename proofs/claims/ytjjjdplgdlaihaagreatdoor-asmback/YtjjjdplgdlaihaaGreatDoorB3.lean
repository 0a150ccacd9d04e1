/- Package asm's readNumber and readRegister, walked. -/
import Derived.Test.YtjjjdplgdlaihaaGreatDoorB2
namespace Go.Proofs.YtjjjdplgdlaihaaGreatDoor
open Go Go.RowKit

abbrev I64 (x : Int) : Prop := -9223372036854775808 ≤ x ∧ x ≤ 9223372036854775807

theorem parse_in {l : By} {v : Int} (h : Lib.parseIntB 64 l = .ok v) : I64 v := by
  cases l with
  | nil => simp [Lib.parseIntB] at h
  | cons c r =>
    simp only [Lib.parseIntB] at h
    split at h
    · cases h
    · cases h
    · rename_i u _
      split at h
      · cases h
      · rename_i h1
        split at h
        · cases h
        · rename_i h2
          injection h with h
          subst h
          simp at h1 h2
          split <;> (constructor <;> omega)

theorem numV_split {l : By} {v : Int} (h : numV l = some v) : Lib.parseIntB 64 l = .ok v ∧ Lib.itoa v = l := by
  unfold numV at h
  split at h
  · rename_i u hu
    split at h
    · rename_i e
      injection h with h
      subst h
      exact ⟨hu, e⟩
    · cases h
  · cases h
theorem numV_in {l : By} {v : Int} (h : numV l = some v) : I64 v := parse_in (numV_split h).1

set_option maxHeartbeats 2000000 in
theorem num_yes (s : ByteArray) (p : Addr) (old : Value) (v : Int) (w : World) (he : Env w) (hsz : s.size ≤ 281474976710656) (h : numV s.data.toList = some v) (hc : w.cell? p = some old) (hf : w.frozen? p = false) :
    Calls Tryz.prog 91 #[.string s, .pointer (some p)] w fun e w' => e = .returned (.bool true) ∧ ∃ w2, Below w.heap.size w w2 ∧ w' = w2.setCell p (.int .i64 v) := by
  obtain ⟨h1, h2⟩ := numV_split h
  obtain ⟨v0, v1⟩ := numV_in h
  have hs : (⟨(Lib.itoa v).toArray⟩ : ByteArray) = s := by rw [h2]
  have HP : Hid (Calls Tryz.prog 87 #[.string s, .int .i64 10, .int .i64 64] w fun e w' => e = .returned (.tuple #[.int .i64 v, .nilIface]) ∧ Below w.heap.size w w') :=
    (Tryz.strconv_ParseInt_10_at64_ok s (by omega) v h1 w).mono fun e w' ⟨a, b⟩ => ⟨a, by
      rcases b with b | ⟨t, b⟩
      · rw [b]; exact Below.refl _ _
      · rw [b]; exact Lib.bytesWorld_below _ _ _⟩
  have HF : Hid (∀ w', Below w.heap.size w w' → Calls Tryz.prog 34 #[.int .i64 v, .int .i64 10] w' fun e w'' => e = .returned (.string s) ∧ Below w.heap.size w w'') := fun w' hb => by
    have := Tryz.strconv_FormatInt_10 v v0 v1 w' (he.below hb).pow
    rw [hs] at this
    exact this.mono fun e w'' ⟨a, k, os, b⟩ => ⟨a, by rw [b]; exact hb.trans (Lib.below_grow _ _ hb.size _ _)⟩
  have HC : Hid (∀ w', Below w.heap.size w w' → w'.cell? p = some old ∧ w'.frozen? p = false) := fun w' hb => by
    have hl := block_lt_of_cell hc
    exact ⟨(hb.cell hl).trans hc, (World.frozen?_of_block (w := w) (hb.block _ hl)).trans hf⟩
  clear h h1 h2 hs he hc hf
  go_enter Tryz.func91, Tryz.ntmps91
  go_wp2_with (first
    | (go_at_call 87; refine HP.out.mono ?_; rintro e w1 ⟨rfl, hb⟩; have HB : Hid (Below w.heap.size w w1) := hb; clear hb)
    | (go_at_call 34; refine (HF.out _ HB.out).mono ?_; rintro e w2 ⟨rfl, hb⟩; have HB2 : Hid (Below w.heap.size w w2) := hb; obtain ⟨hc2, hf2⟩ := HC.out _ hb; clear hb)
    | go_in)
  go_ret
  exact ⟨rfl, w2, HB2.out, rfl⟩

set_option maxHeartbeats 2000000 in
theorem num_no (s : ByteArray) (p : Addr) (w : World) (he : Env w) (hsz : s.size ≤ 281474976710656) (h : numV s.data.toList = none) :
    Calls Tryz.prog 91 #[.string s, .pointer (some p)] w fun e w' => e = .returned (.bool false) ∧ Below w.heap.size w w' := by
  rcases hp : Lib.parseIntB 64 s.data.toList with v | _ | _
  · obtain ⟨v0, v1⟩ := parse_in hp
    have hn : ¬ (⟨(Lib.itoa v).toArray⟩ : ByteArray) = s := fun e => by
      have : s.data.toList = Lib.itoa v := by rw [← e]
      unfold numV at h
      rw [hp] at h
      simp [this] at h
    have HP : Hid (Calls Tryz.prog 87 #[.string s, .int .i64 10, .int .i64 64] w fun e w' => e = .returned (.tuple #[.int .i64 v, .nilIface]) ∧ Below w.heap.size w w') :=
      (Tryz.strconv_ParseInt_10_at64_ok s (by omega) v hp w).mono fun e w' ⟨a, b⟩ => ⟨a, by
        rcases b with b | ⟨t, b⟩
        · rw [b]; exact Below.refl _ _
        · rw [b]; exact Lib.bytesWorld_below _ _ _⟩
    have HF : Hid (∀ w', Below w.heap.size w w' → Calls Tryz.prog 34 #[.int .i64 v, .int .i64 10] w' fun e w'' => e = .returned (.string ⟨(Lib.itoa v).toArray⟩) ∧ Below w.heap.size w w'') := fun w' hb =>
      (Tryz.strconv_FormatInt_10 v v0 v1 w' (he.below hb).pow).mono fun e w'' ⟨a, k, os, b⟩ => ⟨a, by rw [b]; exact hb.trans (Lib.below_grow _ _ hb.size _ _)⟩
    clear h hp he
    generalize (⟨(Lib.itoa v).toArray⟩ : ByteArray) = b at *
    have hn2 := bytes_neq hn
    clear hn
    go_enter Tryz.func91, Tryz.ntmps91
    go_wp2_with (first
      | (go_at_call 87; refine HP.out.mono ?_; rintro e w1 ⟨rfl, hb⟩; have HB : Hid (Below w.heap.size w w1) := hb; clear hb)
      | (go_at_call 34; refine (HF.out _ HB.out).mono ?_; rintro e w2 ⟨rfl, hb⟩; have HB2 : Hid (Below w.heap.size w w2) := hb; clear hb)
      | go_in)
    go_ret
    exact ⟨rfl, HB2.out⟩
  · obtain ⟨tp, q, hv⟩ := he.syn
    have HP : Hid (Calls Tryz.prog 87 #[.string s, .int .i64 10, .int .i64 64] w fun e w' => ∃ N, e = .returned (.tuple #[.int .i64 0, .iface 200 (.pointer (some ⟨N, 0, none⟩))]) ∧ Below w.heap.size w w') :=
      (Tryz.strconv_ParseInt_10_at64_syntax_var s hsz hp tp q w hv).mono fun e w' ⟨N, a, _, _, b⟩ => ⟨N, a, b⟩
    clear h hp he hv
    go_enter Tryz.func91, Tryz.ntmps91
    go_wp2_with (go_at_call 87; refine HP.out.mono ?_; rintro e w1 ⟨N, rfl, hb⟩; have HB : Hid (Below w.heap.size w w1) := hb; clear hb)
    go_ret
    exact ⟨rfl, HB.out⟩
  · obtain ⟨tp, q, hv⟩ := he.rng
    have HP : Hid (Calls Tryz.prog 87 #[.string s, .int .i64 10, .int .i64 64] w fun e w' => ∃ N, e = .returned (.tuple #[.int .i64 (Lib.intSat 64 s.data.toList), .iface 200 (.pointer (some ⟨N, 0, none⟩))]) ∧ Below w.heap.size w w') :=
      (Tryz.strconv_ParseInt_10_at64_range_var s hsz hp tp q w hv).mono fun e w' ⟨N, a, _, _, b⟩ => ⟨N, a, b⟩
    clear h hp he hv
    generalize Lib.intSat 64 s.data.toList = z at *
    go_enter Tryz.func91, Tryz.ntmps91
    go_wp2_with (go_at_call 87; refine HP.out.mono ?_; rintro e w1 ⟨N, rfl, hb⟩; have HB : Hid (Below w.heap.size w w1) := hb; clear hb)
    go_ret
    exact ⟨rfl, HB.out⟩
end Go.Proofs.YtjjjdplgdlaihaaGreatDoor
