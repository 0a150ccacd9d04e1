/- TN -/
import Derived.Test.YtnfhpdbbfejioaaGreatDoorE03
namespace Go.Proofs.YtnfhpdbbfejioaaGreatDoor
set_option linter.unusedVariables false
set_option linter.unusedSimpArgs false
set_option maxRecDepth 100000
set_option maxHeartbeats 16000000
open Go Go.RowKit
def IsNd (t : Tr) : Prop := ∃ c a n nm op l r g, t = nd c a n nm op l r g
theorem isNd (c a n : Int) (nm op : By) (l r g : Tr) : IsNd (nd c a n nm op l r g) := ⟨c, a, n, nm, op, l, r, g, rfl⟩
theorem IsNd.ptr {S : Nat → Prop} {w : World} {t : Tr} {v : Value} (h : IsNd t) (hx : ExAt S w t v) : ∃ b, v = .pointer (some ⟨b, 0, none⟩) := by
 obtain ⟨c, a, n, nm, op, l, r, g, rfl⟩ := h
 rw [ExAt] at hx
 obtain ⟨b, _, _, _, _, _, e, _⟩ := hx
 exact ⟨b, e⟩
theorem ok_nd {t u : Tr} {l l' : List Tok} (h : (Except.ok (u, l) : R Tr) = .ok (t, l')) (hu : IsNd u) : IsNd t := by
 injection h with h
 injection h with h1 h2
 rw [← h1]; exact hu
theorem zq : ∀ (f g lv d : Nat) (x : Tr) (p : Nat) (l : List Tok) (t : Tr) (l' : List Tok), (g = 1 ∨ g = 3 → IsNd x) → g ≠ 7 → exV f g lv d x p l = .ok (t, l') → IsNd t
 | 0, _, _, _, _, _, _, _, _, _, _, h => by simp [exV] at h
 | f + 1, 0, lv, d, x, p, l, t, l', hx, hg, h => by
  rw [exV] at h
  split at h
  ·exact zq f 2 0 d .nil 0 l t l' (by omega) (by omega) h
  ·obtain ⟨y, l1, h1, h2⟩ := za h
   exact zq f 1 lv d y _ l1 t l' (fun _ => zq f 0 (lv + 1) d .nil 0 l y l1 (by omega) (by omega) h1) (by omega) h2
 | f + 1, 1, lv, d, x, p, l, t, l', hx, hg, h => by
  rw [exV] at h
  split at h
  ·obtain ⟨y, l1, h1, h2⟩ := za h
   exact zq f 1 lv d _ _ l1 t l' (fun _ => isNd _ _ _ _ _ _ _ _) (by omega) h2
  ·exact ok_nd h (hx (.inl rfl))
 | f + 1, 2, lv, d, x, p, l, t, l', hx, hg, h => by
  rw [exV] at h
  obtain ⟨_, _, _, h⟩ := za h
  split at h
  ·obtain ⟨y, l1, h1, h2⟩ := za h
   exact ok_nd h2 (isNd _ _ _ _ _ _ _ _)
  ·obtain ⟨y, l1, h1, h2⟩ := za h
   exact zq f 3 0 d y _ l1 t l' (fun _ => zq f 4 0 d .nil 0 l y l1 (by omega) (by omega) h1) (by omega) h2
 | f + 1, 3, lv, d, x, p, l, t, l', hx, hg, h => by
  rw [exV] at h
  split at h
  ·obtain ⟨y, l1, h1, h2⟩ := za h
   exact zq f 3 0 d _ _ l1 t l' (fun _ => isNd _ _ _ _ _ _ _ _) (by omega) h2
  ·exact ok_nd h (hx (.inr rfl))
 | f + 1, 4, lv, d, x, p, l, t, l', hx, hg, h => by
  rw [exV] at h
  split at h
  ·obtain ⟨y, l1, h1, h2⟩ := za h
   exact ok_nd h2 (isNd _ _ _ _ _ _ _ _)
  split at h
  ·obtain ⟨y, l1, h1, h2⟩ := za h
   split at h2
   ·split at h2
    ·exact ok_nd h2 (isNd _ _ _ _ _ _ _ _)
    ·obtain ⟨y2, l2, h3, h4⟩ := za h2
     exact ok_nd h4 (isNd _ _ _ _ _ _ _ _)
   ·exact ok_nd h2 (isNd _ _ _ _ _ _ _ _)
  split at h
  ·obtain ⟨y, l1, h1, h2⟩ := za h
   exact ok_nd h2 (isNd _ _ _ _ _ _ _ _)
  split at h
  ·obtain ⟨y, l1, h1, h2⟩ := za h
   exact ok_nd h2 (isNd _ _ _ _ _ _ _ _)
  split at h
  ·obtain ⟨y, l1, h1, h2⟩ := za h
   obtain ⟨y2, l2, h3, h4⟩ := za h2
   exact ok_nd h4 (isNd _ _ _ _ _ _ _ _)
  ·exact zq f 5 0 d .nil 0 l t l' (by omega) (by omega) h
 | f + 1, 5, lv, d, x, p, l, t, l', hx, hg, h => by
  rw [exV] at h
  obtain ⟨_, l1, h1, h⟩ := za h
  obtain ⟨y, l2, h2, h⟩ := za h
  obtain ⟨_, l3, h3, h⟩ := za h
  exact ok_nd h (zq f 0 1 (d + 1) .nil 0 l1 y l2 (by omega) (by omega) h2)
 | f + 1, 6, lv, d, x, p, l, t, l', hx, hg, h => by
  rw [exV] at h
  obtain ⟨y, l2, h2, h⟩ := za h
  obtain ⟨_, l3, h3, h⟩ := za h
  exact ok_nd h (zq f 0 1 (d + 1) .nil 0 l y l2 (by omega) (by omega) h2)
 | f + 1, 7, lv, d, x, p, l, t, l', hx, hg, h => absurd rfl hg
 | f + 1, g + 8, lv, d, x, p, l, t, l', hx, hg, h => by rw [exV] at h; cases h
end Go.Proofs.YtnfhpdbbfejioaaGreatDoor
