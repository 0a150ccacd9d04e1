/- Package machine's call: it ends; a number is taken. -/
import Derived.Test.YtbobbmkmfcdeeaaDoorG9
namespace Go.Proofs.YtbobbmkmfcdeeaaDoor
open Go Go.RowKit

set_option maxRecDepth 100000 in
set_option maxHeartbeats 1000000 in
theorem call_end (w : World) (B s mb L : Nat) (m : MS) (gv ov : Value) (h : Mac w B s mb L m gv ov) (h1 : m.R 17 = 3) (h2 : 1 ≤ m.R 10) (h3 : m.R 10 ≤ 8) :
    Calls Tryd.prog 45 #[.pointer (some ⟨s, 0, none⟩)] w fun e w' => e = .returned (.tuple #[]) ∧ Post w B s mb L { m with way := m.R 10, code := m.R 11 } ov w' := by
  have HM : Hid (Mac (boxP w s) B s mb L m gv ov) := h.grown (boxP_below w s)
  have r10 := HM.out.core.reg 10 (by omega)
  have r11 := HM.out.core.reg 11 (by omega)
  have r17 := HM.out.core.reg 17 (by omega)
  have cp := boxP_cell w s
  rw [h1] at r17
  clear h1 h
  generalize m.R 10 = y at *
  generalize m.R 11 = z at *
  go_enter Tryd.func45, Tryd.ntmps45
  go_wp2_with fail
  have HD : Hid (Mac (boxP w s).drew B s mb L m gv ov) := HM.out.drew
  go_region_with (go_at_call 30; refine (stop_any _ s _ _ _ _ HD.out.core.way HD.out.core.cod HD.out.core.fs).mono ?_; rintro e w' ⟨rfl, rfl⟩)
  all_goals
    go_wp2
    go_end0
    exact ⟨rfl, Post.grown (boxP_below w s) (Post.stop HM.out y z).drew⟩

set_option maxRecDepth 100000 in
set_option maxHeartbeats 1000000 in
theorem call_give0 (w : World) (B s mb L : Nat) (m : MS) (gv ov : Value) (h : Mac w B s mb L m gv ov) (h1 : m.R 17 = 2) (h2 : m.G = []) :
    Calls Tryd.prog 45 #[.pointer (some ⟨s, 0, none⟩)] w fun e w' => e = .returned (.tuple #[]) ∧ Post w B s mb L { m with R := upd m.R 10 0 } ov w' := by
  have HM : Hid (Mac (boxP w s) B s mb L m gv ov) := h.grown (boxP_below w s)
  have HD : Hid (Mac (boxP w s).drew B s mb L m gv ov) := HM.out.drew
  have r10 := HM.out.core.reg 10 (by omega)
  have r17 := HM.out.core.reg 17 (by omega)
  have cp := boxP_cell w s
  rw [h1] at r17
  have hg : ∃ p c, gv = .slice p 0 c := by
    rcases h.giv with h' | ⟨gb, o, c, h', _⟩
    · exact h'.2
    · rw [h2] at h'; exact ⟨_, _, h'⟩
  obtain ⟨p, c, hgv⟩ := hg
  have HG : Hid (w.cell? ⟨s, 34, none⟩ = some (.slice p 0 c)) := by rw [← hgv]; exact h.core.giv
  have HG' : Hid ((boxP w s).drew.cell? ⟨s, 34, none⟩ = some (.slice p 0 c)) := by rw [← hgv]; exact HD.out.core.giv
  have f10 := HM.out.core.fs 10
  clear h1 h h2 hgv
  generalize m.R 10 = y at *
  go_enter Tryd.func45, Tryd.ntmps45
  go_wp2_with fail
  go_region_with (go_at_call 66; refine (take_none _ s p c HG'.out).mono ?_; rintro e w' ⟨rfl, rfl⟩)
  all_goals
    go_wp2
    go_end0
    refine ⟨rfl, Post.grown (boxP_below w s) (Post.of (gv := gv) ?_ ?_)⟩
    · exact (HM.out.setReg 10 (by omega) 0).drew
    · exact ((off_s _ _).drew).ws

set_option maxRecDepth 100000 in
set_option maxHeartbeats 1000000 in
theorem call_give (w : World) (B s mb L : Nat) (m : MS) (gv ov : Value) (g : Int) (t : List Int) (h : Mac w B s mb L m gv ov) (h1 : m.R 17 = 2) (h2 : m.G = g :: t) :
    Calls Tryd.prog 45 #[.pointer (some ⟨s, 0, none⟩)] w fun e w' => e = .returned (.tuple #[]) ∧ Post w B s mb L { m with G := t, R := upd m.R 10 g } ov w' := by
  have HM : Hid (Mac (boxP w s) B s mb L m gv ov) := h.grown (boxP_below w s)
  have r10 := HM.out.core.reg 10 (by omega)
  have r17 := HM.out.core.reg 17 (by omega)
  have cp := boxP_cell w s
  rw [h1] at r17
  have hg := HM.out.giv
  rw [h2] at hg
  rcases hg with h' | ⟨gb, o, c, k1, k2, k3, k4, k5, k6, k7, k8⟩
  · cases h'.1
  · have e0 := k8 0 (by simp)
    simp only [Nat.add_zero, List.getElem_cons_zero] at e0
    have et : ∀ i (hi : i < t.length), (boxP w s).cell? ⟨gb, o + 1 + i, none⟩ = some (.int .i64 (t[i]'hi)) := fun i hi => by
      have := k8 (i + 1) (by simp; omega)
      rw [show o + (i + 1) = o + 1 + i by omega] at this
      simpa using this
    have HT : Hid (Calls Tryd.prog 66 #[.pointer (some ⟨s, 0, none⟩)] (boxP w s).drew fun e w' => e = .returned (.int .i64 g) ∧ ∃ o', w' = ((boxP w s).setCell ⟨s, 34, none⟩ (.slice (some ⟨gb, o', none⟩) t.length (c - 1))).drew ∧ (t.length = 0 ∨ o' = o + 1)) :=
      take_some (boxP w s).drew s gb o t.length c g (by have := HM.out.core.giv; rw [k1] at this; simpa using this) (by simpa using k2) k3 (by simpa using e0) (fun i => by simpa using HM.out.core.fs i)
    have HK : Hid (∀ o', (t.length = 0 ∨ o' = o + 1) → Mac ((boxP w s).setCell ⟨s, 34, none⟩ (.slice (some ⟨gb, o', none⟩) t.length (c - 1))) B s mb L { m with G := t } (.slice (some ⟨gb, o', none⟩) t.length (c - 1)) ov) :=
      fun o' ho => HM.out.taken t gb o c o' k4 k5 k6 k7 (by simpa using k2) k3 et ho
    have f10 := HM.out.core.fs 10
    clear h1 h h2 k1 k2 k3 k4 k5 k6 k7 k8 e0 et
    generalize m.R 10 = y at *
    go_enter Tryd.func45, Tryd.ntmps45
    go_wp2_with fail
    go_region_with (go_at_call 66; refine HT.out.mono ?_; rintro e w' ⟨rfl, o', rfl, ho⟩)
    all_goals
      go_wp2
      go_end0
      refine ⟨rfl, Post.grown (boxP_below w s) ⟨_, ov, ((HK.out o' ho).setReg 10 (by omega) g).drew, ?_, fun k e => .inl e⟩⟩
      exact (((off_s _ _).trans (off_s _ _)).drew).ws

/-- An Ecall, whatever the machine has. -/
theorem call_any (w : World) (B s mb L : Nat) (m : MS) (gv ov : Value) (h : Mac w B s mb L m gv ov) :
    Calls Tryd.prog 45 #[.pointer (some ⟨s, 0, none⟩)] w fun e w' => e = .returned (.tuple #[]) ∧ Post w B s mb L (callV m) ov w' := by
  unfold callV
  by_cases h1 : m.R 17 = 1
  · rw [if_pos h1]
    by_cases h2 : 200 ≤ m.out.length
    · rw [if_pos h2]; exact call_full w B s mb L m gv ov h h1 h2
    · rw [if_neg h2]; exact call_tell w B s mb L m gv ov h h1 (by omega)
  · rw [if_neg h1]
    by_cases h2 : m.R 17 = 2
    · rw [if_pos h2]
      cases hG : m.G with
      | nil =>
        have h0 := call_give0 w B s mb L m gv ov h h2 hG
        rw [hG] at h0
        exact h0
      | cons g t => exact call_give w B s mb L m gv ov g t h h2 hG
    · rw [if_neg h2]
      by_cases h3 : m.R 17 = 3
      · rw [if_pos h3]
        by_cases h4 : m.R 10 < 1 ∨ 8 < m.R 10
        · rw [if_pos h4]; exact call_noway w B s mb L m gv ov h h3 h4
        · rw [if_neg h4]; exact call_end w B s mb L m gv ov h h3 (by omega) (by omega)
      · rw [if_neg h3]; exact call_bad w B s mb L m gv ov h h1 h2 h3
end Go.Proofs.YtbobbmkmfcdeeaaDoor
