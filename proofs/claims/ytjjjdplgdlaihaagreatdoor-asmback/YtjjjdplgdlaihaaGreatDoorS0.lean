/- Drafts in memory, and what is known of them behind so many lines. -/
import Derived.Test.YtjjjdplgdlaihaaGreatDoorI2
import Derived.Test.YtjjjdplgdlaihaaGreatDoorF1
import Derived.Test.YtjjjdplgdlaihaaGreatDoorE0
namespace Go.Proofs.YtjjjdplgdlaihaaGreatDoor
open Go Go.RowKit

/-- Drafts' cells. -/
def dcs (ds : Drafts) : List Value := ds.flatMap fun x => (drC x.1 (x.2 : Int)).toList
theorem dcs_snoc (ds : Drafts) (d : Dr) (k : Nat) : dcs (ds ++ [(d, k)]) = dcs ds ++ (drC d k).toList := by simp [dcs]
theorem dcs_len (ds : Drafts) : (dcs ds).length = ds.length * 7 := by
  induction ds with
  | nil => rfl
  | cons x ds ih => 
    have e : dcs (x :: ds) = (drC x.1 (x.2 : Int)).toList ++ dcs ds := rfl
    have l7 : (drC x.1 (x.2 : Int)).toList.length = 7 := rfl
    rw [e, List.length_append, ih, l7, List.length_cons]
    omega
theorem dcs_at : ∀ (ds : Drafts) (i j : Nat) (d : Dr) (k : Nat), ds[i]? = some (d, k) → j < 7 → (dcs ds)[i * 7 + j]? = (drC d k).toList[j]?
  | [], i, j, d, k, h, _ => by simp at h
  | x :: ds, 0, j, d, k, h, hj => by
    have e : dcs (x :: ds) = (drC x.1 (x.2 : Int)).toList ++ dcs ds := rfl
    simp at h
    subst h
    rw [e, Nat.zero_mul, Nat.zero_add, List.getElem?_append_left (by show j < 7; exact hj)]
  | x :: ds, i + 1, j, d, k, h, hj => by
    have e : dcs (x :: ds) = (drC x.1 (x.2 : Int)).toList ++ dcs ds := rfl
    have l7 : (drC x.1 (x.2 : Int)).toList.length = 7 := rfl
    rw [e, List.getElem?_append_right (by rw [l7]; omega), l7]
    have : (i + 1) * 7 + j - 7 = i * 7 + j := by omega
    rw [this]
    exact dcs_at ds i j d k (by simpa using h) hj

theorem row_cell {w : World} {B : Nat} {e : TypeId} {size n c g : Nat} {xs : List Value} (h : w.ownsRow B e size (.slice (some ⟨g, 0, none⟩) n c) n xs) (j : Nat) (u : Value) (hj : xs[j]? = some u) : w.cell? ⟨g, j, none⟩ = some u := by
  obtain ⟨hl, h | ⟨g', cap, cur, hv, _, hh, hc1, _, hc2, ht⟩⟩ := h
  · cases h.1
  · injection hv with hv _ _
    injection hv with hv
    injection hv with hv
    subst hv
    rw [cell_of_row _ _ _ _ _ _ hh]
    rw [← ht] at hj
    rw [List.getElem?_take] at hj
    split at hj
    · rw [← Array.getElem?_toList]; exact hj
    · cases hj
theorem seven_of {w : World} {B n c g : Nat} {ds : Drafts} (h : w.ownsRow B 71 7 (.slice (some ⟨g, 0, none⟩) n c) n (dcs ds)) (i : Nat) (d : Dr) (k : Nat) (hd : ds[i]? = some (d, k)) : Seven w g (i * 7) d k := by
  have c : ∀ j, j < 7 → ∀ u, (drC d k).toList[j]? = some u → w.cell? ⟨g, i * 7 + j, none⟩ = some u := fun j hj u hu => row_cell h _ _ ((dcs_at ds i j d k hd hj).trans hu)
  exact ⟨c 0 (by omega) _ rfl, c 1 (by omega) _ rfl, c 2 (by omega) _ rfl, c 3 (by omega) _ rfl, c 4 (by omega) _ rfl, c 5 (by omega) _ rfl, c 6 (by omega) _ rfl⟩
theorem row_base {w : World} {B B' : Nat} {e : TypeId} {size n : Nat} {v : Value} {xs : List Value} (h : w.ownsRow B e size v n xs) (hb : B' ≤ B) : w.ownsRow B' e size v n xs := by
  obtain ⟨hl, h | ⟨g', cap, cur, hv, hg, r⟩⟩ := h
  · exact ⟨hl, .inl h⟩
  · exact ⟨hl, .inr ⟨g', cap, cur, hv, Nat.le_trans hb hg, r⟩⟩

theorem ins_at : ∀ (l : List Dr) (i j : Nat) (d : Dr), l[i]? = some d → j < 5 → (ins l)[i * 5 + j]? = [Value.int .i64 d.o, .int .i64 d.d, .int .i64 d.a, .int .i64 d.b, .int .i64 d.n][j]?
  | [], i, j, d, h, _ => by simp at h
  | x :: ds, 0, j, d, h, hj => by
    have e : ins (x :: ds) = [Value.int .i64 x.o, .int .i64 x.d, .int .i64 x.a, .int .i64 x.b, .int .i64 x.n] ++ ins ds := rfl
    simp at h
    subst h
    rw [e, Nat.zero_mul, Nat.zero_add, List.getElem?_append_left (by show j < 5; exact hj)]
  | x :: ds, i + 1, j, d, h, hj => by
    have e : ins (x :: ds) = [Value.int .i64 x.o, .int .i64 x.d, .int .i64 x.a, .int .i64 x.b, .int .i64 x.n] ++ ins ds := rfl
    rw [e, List.getElem?_append_right (by show 5 ≤ _; omega)]
    have : (i + 1) * 5 + j - [Value.int .i64 x.o, .int .i64 x.d, .int .i64 x.a, .int .i64 x.b, .int .i64 x.n].length = i * 5 + j := by show _ - 5 = _; omega
    rw [this]
    exact ins_at ds i j d (by simpa using h) hj
theorem ins_len (l : List Dr) : (ins l).length = l.length * 5 := by
  induction l with
  | nil => rfl
  | cons x ds ih => 
    have e : ins (x :: ds) = [Value.int .i64 x.o, .int .i64 x.d, .int .i64 x.a, .int .i64 x.b, .int .i64 x.n] ++ ins ds := rfl
    have l5 : [Value.int .i64 x.o, .int .i64 x.d, .int .i64 x.a, .int .i64 x.b, .int .i64 x.n].length = 5 := rfl
    rw [e, List.length_append, ih, l5, List.length_cons]
    omega
theorem five_of {w : World} {B n c g : Nat} {l : List Dr} (h : w.ownsRow B 39 5 (.slice (some ⟨g, 0, none⟩) n c) n (ins l)) (i : Nat) (d : Dr) (hd : l[i]? = some d) : Five w g (i * 5) d := by
  have c : ∀ j, j < 5 → ∀ u, [Value.int .i64 d.o, .int .i64 d.d, .int .i64 d.a, .int .i64 d.b, .int .i64 d.n][j]? = some u → w.cell? ⟨g, i * 5 + j, none⟩ = some u := fun j hj u hu => row_cell h _ _ ((ins_at l i j d hd hj).trans hu)
  exact ⟨c 0 (by omega) _ rfl, c 1 (by omega) _ rfl, c 2 (by omega) _ rfl, c 3 (by omega) _ rfl, c 4 (by omega) _ rfl⟩

/-- A PLACE that is read has no more than 24 letters. -/
theorem name_len {s : By} (h : nameV s = true) : s.length ≤ 24 := by
  simp only [nameV, Bool.and_eq_true, decide_eq_true_eq] at h
  exact h.1.1.2
theorem take_pl {k : UInt8} {p : By} {d d' : Dr} (h : takeV k p d = some d') (hd : d.pl.length ≤ 24) : d'.pl.length ≤ 24 := by
  unfold takeV memV at h
  repeat' split at h
  all_goals first
    | (simp only [Option.map_eq_some_iff] at h; obtain ⟨_, _, rfl⟩ := h; exact hd)
    | (cases h; rename_i hn; exact name_len hn.2)
    | (cases h)
theorem parts_pl : ∀ (ks rest : By) (d d' : Dr), partsV ks rest d = some d' → d.pl.length ≤ 24 → d'.pl.length ≤ 24
  | [], rest, d, d', h, hd => by
    rw [partsV] at h
    split at h
    · injection h with h; subst h; exact hd
    · cases h
  | c :: ks, rest, d, d', h, hd => by
    rw [parts_step] at h
    split at h
    · split at h
      · cases h
      · rename_i d1 h1
        exact parts_pl ks _ d1 d' h (take_pl h1 hd)
    · cases h
theorem read_pl {l : By} {d : Dr} (h : readV l = some d) : d.pl.length ≤ 24 := by
  unfold readV at h
  simp only at h
  split at h
  · cases h
  · exact parts_pl _ _ _ _ h (by simp)

theorem st_bounds : ∀ (n : Nat) (l : List Ln), l.length = n → ∀ ds ps, stV l = .ok (ds, ps) → ds.length ≤ n ∧ (∀ x ∈ ps, x.2 ≤ n) ∧ (∀ x ∈ ds, x.1.pl.length ≤ 24)
  | 0, l, hl, ds, ps, h => by
    obtain rfl := List.length_eq_zero_iff.1 hl
    injection h with h
    injection h with h1 h2
    subst h1; subst h2
    simp
  | n + 1, l, hl, ds, ps, h => by
    have hne : l ≠ [] := by intro e; rw [e] at hl; simp at hl
    obtain ⟨l', x, rfl⟩ : ∃ l' x, l = l' ++ [x] := ⟨l.dropLast, l.getLast hne, (List.dropLast_concat_getLast hne).symm⟩
    have hl' : l'.length = n := by simp at hl; exact hl
    rw [stV_snoc] at h
    cases hs : stV l' with
    | error e => rw [hs] at h; cases h
    | ok r =>
      obtain ⟨ds', ps'⟩ := r
      obtain ⟨b1, b2, b3⟩ := st_bounds n l' hl' ds' ps' hs
      rw [hs, stepV] at h
      split at h
      · injection h with h; injection h with h1 h2; subst h1; subst h2
        exact ⟨by omega, fun x hx => by have := b2 x hx; omega, b3⟩
      · split at h
        · split at h
          · cases h
          · split at h
            · cases h
            · injection h with h; injection h with h1 h2; subst h1; subst h2
              refine ⟨by omega, fun x hx => ?_, b3⟩
              simp at hx
              rcases hx with rfl | hx
              · show ds'.length ≤ _; omega
              · have := b2 x hx; omega
        · split at h
          · cases h
          · rename_i d hd
            injection h with h; injection h with h1 h2; subst h1; subst h2
            refine ⟨by simp; omega, fun x hx => by have := b2 x hx; omega, fun x hx => ?_⟩
            simp at hx
            rcases hx with hx | rfl
            · exact b3 x hx
            · exact read_pl hd

/-- Once at fault, at fault. -/
theorem st_prefix (s : By) (N : Nat) (pre : List Ln) (h : pre <+: upto s N) (e : Int × Nat) (he : stV pre = .error e) : stV (upto s N) = .error e := by
  obtain ⟨t, ht⟩ := h
  rw [← ht, stV, List.foldl_append]
  have : List.foldl (fun st x => stepV st x.1.1 x.1.2.data.toList) (.ok ([], [])) pre = .error e := he
  rw [this]
  clear ht this
  induction t with
  | nil => rfl
  | cons x t ih => rw [List.foldl_cons, stepV]; exact ih
end Go.Proofs.YtjjjdplgdlaihaaGreatDoor
