/- slices.Clone at []int64, machine's End and Run, walked. -/
import Derived.Test.YtbobbmkmfcdeeaaDoorG9
namespace Go.Proofs.YtbobbmkmfcdeeaaDoor
open Go Go.RowKit

theorem eqlNil (a : Option Addr) (n c : Nat) (w : World) : (binOp .eql 23 (.slice a n c) (.slice none 0 0)).run Tryd.prog w = .ok (.bool a.isNone) w := Lib.run_eql_slice_nil w 23 2 a n c 0 0 Tryd.underlying23

/-- A list of numbers in memory. -/
def Src (w : World) (v : Value) (l : List Int) : Prop :=
  (v = .slice none 0 0 ∧ l = []) ∨ ∃ ad c, v = .slice (some ad) l.length c ∧ ∀ j u, (outL l)[j]? = some u → w.cell? (ad.add j) = some u

theorem Src.of_own {w : World} {B : Nat} {v : Value} {l : List Int} (h : w.ownsRow B 2 1 v l.length (outL l)) : Src w v l := by
  rcases h.2 with ⟨h1, h2⟩ | ⟨g, cap, cur, hv, _⟩
  · exact .inl ⟨h1, List.length_eq_zero_iff.1 h2⟩
  · subst hv
    exact .inr ⟨_, _, rfl, h.cells (g := g) rfl⟩

theorem outL_one (l : List Int) : ∀ u ∈ outL l, u.oneCell' = true := by
  intro u hu
  simp [outL] at hu
  obtain ⟨a, _, rfl⟩ := hu
  rfl

set_option maxRecDepth 100000 in
set_option maxHeartbeats 1000000 in
theorem clone_any (w : World) (v : Value) (l : List Int) (h : Src w v l) (hl : l.length ≤ 1000) :
    Calls Tryd.prog 25 #[v] w fun e w' => ∃ v', e = .returned v' ∧ w'.ownsRow w.heap.size 2 1 v' l.length (outL l) ∧ Below w.heap.size w w' := by
  have hen := eqlNil
  rcases h with ⟨rfl, rfl⟩ | ⟨ad, c, rfl, hc⟩
  · go_enter Tryd.func25, Tryd.ntmps25
    go_wp2
    go_ret
    exact ⟨_, rfl, World.ownsRow_nil _ _ _ _, Below.refl _ _⟩
  · obtain ⟨i0, hi0, hz0, hz1, hz2⟩ := info_parts info2
    have HC : Hid (∀ j u, (outL l)[j]? = some u → w.cell? (ad.add j) = some u) := hc
    have HOW : Hid ((w.alloc (.cells #[] 2)).ownsRow w.heap.size 2 1 (.slice (some ⟨w.heap.size, 0, none⟩) 0 0) 0 []) := World.ownsRow_made (base := w.heap.size) (e := 2) (size := 1) w #[] 0 (Nat.le_refl _) (by unfold maxLen; omega) rfl
    clear hc
    have HN : Hid (∀ j u, (outL l)[j]? = some u → (w.alloc (.cells #[] 2)).cell? (ad.add j) = some u) := fun j u hu => by
      have h0 := HC.out j u hu
      rw [World.cell?_alloc_lt _ _ _ (block_lt_of_cell h0)]; exact h0
    go_enter Tryd.func25, Tryd.ntmps25
    go_wp2_with (at_builtin; refine wpList_append_own _ rfl _ _ 23 rfl w.heap.size 2 i0 (.int .i64 0) 1 8 Tryd.underlying23 hi0 hz0 hz1 hz2 rfl (by decide) (.slice (some ⟨w.heap.size, 0, none⟩) 0 0) 0 [] rfl HOW.out ad l.length c (outL l) rfl (by simp [outL]) HN.out (outL_one l) (by unfold maxLen; omega) (by omega) (by simp) ?_; intro v' w3 hown hgrow _)
    go_ret
    refine ⟨_, rfl, by simpa using hown, ?_⟩
    exact ((Below.refl w.heap.size w).alloc (Nat.le_refl _) _).grown hgrow (by simp) (fun k e => by simp [Value.ownBlock] at e; omega)
end Go.Proofs.YtbobbmkmfcdeeaaDoor
