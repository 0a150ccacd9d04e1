/- sameInsts of the law, of two lists of instructions that are alike. What strings.ReplaceAll makes of a text; a text line by line. -/
import Derived.Test.YtjjjdplgdlaihaaGreatDoorMF
import Derived.Test.YtjjjdplgdlaihaaGreatDoorMC
import Derived.Lib.Replace
import Derived.Lib.SplitLaws
namespace Go.Proofs.YtjjjdplgdlaihaaGreatDoor
open Go Go.RowKit

set_option maxRecDepth 100000 in
set_option maxHeartbeats 2000000 in
theorem same_yes (w : World) (q1 q2 : Option Addr) (c1 c2 L : Nat) (l : List Dr) (hl : L = l.length) (hb : L < 4294967281) (h1 : Sl w q1 l) (h2 : Sl w q2 l) :
    Calls Tryz.prog 8 #[.slice q1 L c1, .slice q2 L c2] w fun e w' => e = .returned (.bool true) ∧ Below w.heap.size w w' := by
  obtain ⟨g1, p1, e1, f1⟩ := h1
  obtain ⟨g2, p2, e2, f2⟩ := h2
  rw [← hl] at e1 e2
  have HL : Hid (L = l.length) := hl
  have F1 : Hid (∀ (i : Nat) (d : Dr), l[i]? = some d → Five w g1 (p1 + i * 5) d) := f1
  have F2 : Hid (∀ (i : Nat) (d : Dr), l[i]? = some d → Five w g2 (p2 + i * 5) d) := f2
  clear hl f1 f2
  go_enter Tryz.func8, Tryz.ntmps8
  go_wp2_with fail
  go_loopw [5] (fun i wr => ∃ k : Nat, k ≤ L ∧ i = .int .i64 k ∧ Hid (Below w.heap.size w wr ∧ wr.heap = w.heap)) (fun i _ => L - (intOf i).toNat)
  case atStart => exact ⟨0, Nat.zero_le _, rfl, Below.refl _ _, rfl⟩
  case round =>
    obtain ⟨k, hk, rfl, hw⟩ := hrel
    by_cases hlt : k < L
    · obtain ⟨x, hx⟩ : ∃ x, l[k]? = some x := ⟨_, List.getElem?_eq_getElem (by rw [← HL.out]; exact hlt)⟩
      have hq1 := e1 (by omega)
      have hq2 := e2 (by omega)
      subst hq1
      subst hq2
      have hcell : ∀ a, wr.cell? a = w.cell? a := fun a => World.cell?_of_block (w := w) (by rw [hw.out.2])
      obtain ⟨a0, a1, a2, a3, a4⟩ := F1.out k x hx
      obtain ⟨b0, b1, b2, b3, b4⟩ := F2.out k x hx
      rw [← hcell] at a0 a1 a2 a3 a4 b0 b1 b2 b3 b4
      clear hcell hx
      go_wp2_with fail
      go_region
      all_goals go_wp2
      all_goals exact ⟨⟨k + 1, by omega, by go_num, hw.out.1.drew, hw.out.2⟩, by simp [intOf]; omega⟩
    · obtain rfl : k = L := by omega
      go_wp2
      go_ret
      exact ⟨rfl, hw.out.1⟩
end Go.Proofs.YtjjjdplgdlaihaaGreatDoor

namespace Go.Proofs.YtjjjdplgdlaihaaGreatDoor
open Go

theorem ix_ne (b : UInt8) (l : By) (h : b ≠ 10) : Lib.index (b :: l) [10] = if Lib.index l [10] == -1 then -1 else Lib.index l [10] + 1 := by
  have hp : ([10] : By).isPrefixOf (b :: l) = false := by simp [List.isPrefixOf, Ne.symm h]
  rw [Lib.index, hp]
  simp
theorem ix_eq (l : By) : Lib.index (10 :: l) [10] = ((0 : Nat) : Int) := by rw [Lib.index]; simp [List.isPrefixOf]
theorem repl_ne (new : By) (b : UInt8) (h : b ≠ 10) : ∀ (k : Nat) (l : By), Lib.replaceK [10] new k (b :: l) = b :: Lib.replaceK [10] new k l
  | 0, l => rfl
  | k + 1, l => by
    by_cases hm : Lib.index l [10] = -1
    · have h1 : Lib.index (b :: l) [10] = -1 := by rw [ix_ne b l h, if_pos (by simp [hm])]
      rw [Lib.replaceK, Lib.replaceK, if_pos (by simp [h1]), if_pos (by simp [hm])]
    · have hge := Lib.index_ge l [10]
      obtain ⟨j, hj⟩ : ∃ j : Nat, Lib.index l [10] = j := ⟨(Lib.index l [10]).toNat, by omega⟩
      have h1 : Lib.index (b :: l) [10] = ((j + 1 : Nat) : Int) := by
        rw [ix_ne b l h, if_neg (by simp [hj]), hj]
        omega
      rw [Lib.replaceK_hit _ _ _ _ _ h1, Lib.replaceK_hit _ _ _ _ _ hj]
      simp
theorem repl_eq (new : By) (k : Nat) (l : By) : Lib.replaceK [10] new (k + 1) (10 :: l) = new ++ Lib.replaceK [10] new k l := by
  rw [Lib.replaceK_hit _ _ _ _ _ (ix_eq l)]
  simp
theorem repl_widen : ∀ s : By, Lib.replaceK [10] [32, 32, 10, 10] (Lib.count s [10]) s = widen s
  | [] => by rw [Lib.count_one]; rfl
  | b :: l => by
    have ih := repl_widen l
    have e : widen (b :: l) = (if b = 10 then [32, 32, 10, 10] else [b]) ++ widen l := by simp [widen]
    by_cases h : b = 10
    · subst h
      rw [Lib.count_cons_eq, Nat.add_comm, repl_eq, ih, e, if_pos rfl]
    · rw [Lib.count_cons_ne b 10 l h, repl_ne _ b h, ih, e, if_neg h]
      rfl
theorem replaceAll_widen (s : By) : Lib.replaceAll s [10] [32, 32, 10, 10] = widen s := by
  unfold Lib.replaceAll Lib.replace
  rw [if_neg (by decide), Lib.replaceNum, if_pos (.inl (by decide))]
  exact repl_widen s

theorem textV_append (l m : List Dr) : textV (l ++ m) = textV l ++ textV m := by
  induction l with
  | nil => rfl
  | cons d l ih => simp [textV, ih]
theorem textV_take (l : List Dr) (k : Nat) (d : Dr) (h : l[k]? = some d) : textV (l.take (k + 1)) = textV (l.take k) ++ (prV d ++ [10]) := by
  obtain ⟨hk, rfl⟩ := List.getElem?_eq_some_iff.1 h
  rw [List.take_succ_eq_append_getElem hk, textV_append]
  simp [textV]
end Go.Proofs.YtjjjdplgdlaihaaGreatDoor
