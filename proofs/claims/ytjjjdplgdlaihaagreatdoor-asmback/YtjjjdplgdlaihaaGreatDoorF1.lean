/- What finish hands back, out of the plain function. -/
import Derived.Test.YtjjjdplgdlaihaaGreatDoorF0
namespace Go.Proofs.YtjjjdplgdlaihaaGreatDoor
open Go Go.RowKit

def rtD (d : Dr) : Bool := Rt d.o d.d d.a d.b d.n
theorem map_ok {α β : Type} {f : α → β} {x : Except (Int × Nat) α} {y : β} (h : x.map f = .ok y) : ∃ z, x = .ok z ∧ y = f z := by
  cases x with
  | error e => cases h
  | ok z => exact ⟨z, rfl, by injection h with h; exact h.symm⟩
theorem fin_of (ps : Places) : ∀ (ds : Drafts) (i : Nat) (out : List Dr), finV rtD ps i ds = .ok out →
    out.length = ds.length ∧ ∀ (k : Nat) (d : Dr) (ln : Nat), ds[k]? = some (d, ln) → ∃ N : Int, out[k]? = some ⟨d.o, d.d, d.a, d.b, N, []⟩ ∧ Rt d.o d.d d.a d.b N = true ∧ ((d.pl = [] ∧ N = d.n) ∨ (d.pl ≠ [] ∧ ∃ j : Nat, ps.lookup d.pl = some j ∧ N = 4 * ((j : Int) - ((i + k : Nat) : Int))))
  | [], i, out, h => by
    rw [finV] at h
    injection h with h
    subst h
    exact ⟨rfl, fun k d ln hk => by simp at hk⟩
  | (d, ln) :: ds, i, out, h => by
    rw [finV] at h
    by_cases hp : d.pl = []
    · rw [if_pos hp] at h
      cases hr : rtD d with
      | false => rw [hr] at h; cases h
      | true =>
        rw [hr, if_pos rfl] at h
        obtain ⟨z, hz, rfl⟩ := map_ok h
        obtain ⟨h1, h2⟩ := fin_of ps ds (i + 1) z hz
        refine ⟨by simp [h1], fun k d' ln' hk => ?_⟩
        cases k with
        | zero =>
          simp at hk
          obtain ⟨rfl, rfl⟩ := hk
          refine ⟨d.n, ?_, hr, .inl ⟨hp, rfl⟩⟩
          obtain ⟨o, dd, a, b, n, pl⟩ := d
          simp only at hp
          subst hp
          rfl
        | succ k =>
          obtain ⟨N, a1, a2, a3⟩ := h2 k d' ln' (by simpa using hk)
          refine ⟨N, by simpa using a1, a2, ?_⟩
          rcases a3 with a3 | ⟨a3, j, a4, a5⟩
          · exact .inl a3
          · exact .inr ⟨a3, j, a4, by rw [a5]; congr 2; omega⟩
    · rw [if_neg hp] at h
      cases hl : ps.lookup d.pl with
      | none => rw [hl] at h; cases h
      | some j =>
        rw [hl] at h
        simp only at h
        cases hr : rtD { d with n := 4 * ((j : Int) - i), pl := [] } with
        | false => rw [hr] at h; cases h
        | true =>
          rw [hr, if_pos rfl] at h
          obtain ⟨z, hz, rfl⟩ := map_ok h
          obtain ⟨h1, h2⟩ := fin_of ps ds (i + 1) z hz
          refine ⟨by simp [h1], fun k d' ln' hk => ?_⟩
          cases k with
          | zero =>
            simp at hk
            obtain ⟨rfl, rfl⟩ := hk
            exact ⟨4 * ((j : Int) - i), rfl, hr, .inr ⟨hp, j, hl, rfl⟩⟩
          | succ k =>
            obtain ⟨N, a1, a2, a3⟩ := h2 k d' ln' (by simpa using hk)
            refine ⟨N, by simpa using a1, a2, ?_⟩
            rcases a3 with a3 | ⟨a3, j, a4, a5⟩
            · exact .inl a3
            · exact .inr ⟨a3, j, a4, by rw [a5]; congr 2; omega⟩

theorem lookup_mem (nm : By) (j : Nat) : ∀ ps : Places, ps.lookup nm = some j → ∃ x, (x, j) ∈ ps
  | [], h => by simp at h
  | (x, i) :: ps, h => by
    rw [List.lookup] at h
    split at h
    · injection h with h; subst h; exact ⟨x, by simp⟩
    · obtain ⟨y, hy⟩ := lookup_mem nm j ps h
      exact ⟨y, by simp [hy]⟩

/-- finish's own words, where no draft is at fault. -/
theorem finOk_of (ds : Drafts) (ps : Places) (out : List Dr) (h : finV rtD ps 0 ds = .ok out) (hp : ∀ x ∈ ps, x.2 < 4294967281) (hd : ∀ x ∈ ds, x.1.pl.length < 4294967281) : FinOk ds ps out := by
  obtain ⟨h1, h2⟩ := fin_of ps ds 0 out h
  refine ⟨h1, fun k d ln hk => ?_⟩
  obtain ⟨N, a1, a2, a3⟩ := h2 k d ln hk
  refine ⟨N, a1, a2, ?_⟩
  rcases a3 with a3 | ⟨a3, j, a4, a5⟩
  · exact .inl a3
  · obtain ⟨x, hx⟩ := lookup_mem _ _ _ a4
    exact .inr ⟨a3, hd _ (List.mem_of_getElem? hk), j, hp _ hx, a4, by rw [a5]; simp⟩
end Go.Proofs.YtjjjdplgdlaihaaGreatDoor
