/- Plain: what is read is a tree as it is written, and its text is not long: expressions. -/
import Derived.Test.YtpakgaegckkmnaaGreatDoorV6
import Derived.Lib.ParseIntBTie
import Derived.Lib.ItoaLen
namespace Go.Proofs.YtpakgaegckkmnaaGreatDoor
set_option linter.unusedVariables false
set_option linter.unusedSimpArgs false
open Go Go.RowKit

theorem near_short {m : By} (h : 1 ≤ nearV m) : m.length ≤ 2 := by
  rcases near_at pairsL m with ⟨J, h1, h2, _, _⟩ | ⟨_, h2⟩
  · have h6 : ∀ J, J < 13 → (pairsL.getD J ([], 0)).1.length ≤ 2 := by decide
    rw [← h2]
    exact h6 J h1
  · have : nearV m = 0 := h2
    omega
theorem good_nd {c a n : Int} {nm op : By} {l r g : Tr} {xs : List Tr} (c1 : 1 ≤ c) (c9 : c ≤ 9) (n0 : -9223372036854775808 ≤ n) (n1 : n ≤ 9223372036854775807) (hl : l = .nil ∨ IsNd l) (hr : r = .nil ∨ IsNd r) (gl : GoodE l) (gr : GoodE r) (gg : GoodE g) (hg : g = chain xs) (hx : xs.length ≤ 1000000) : GoodE (nd c a n nm op l r g) := by
  rw [GoodE]
  exact ⟨c1, c9, n0, n1, hl, hr, gl, gr, gg, xs, hg, hx⟩
theorem good_nil : GoodE .nil := by rw [GoodE]; trivial
theorem good_ce : GoodE ce := by rw [GoodE]; trivial
theorem hold_le (t : Tr) (k : Nat) (s : By) : (hold t k s).length ≤ s.length + 2 := by
  unfold hold
  split
  · omega
  · split
    · omega
    · simp
theorem ce_chain : ce = chain [] := rfl
theorem join_cons (x : Tr) (xs : List Tr) : (joinT (x :: xs)).length ≤ (wrT x).length + 2 + (joinT xs).length := by
  cases xs with
  | nil => simp [joinT]
  | cons y xs => simp [joinT]; omega
/-- What a reader of expressions has read. -/
def ExG (g : Nat) (x : Tr) (l : List Tok) (t : Tr) (l' : List Tok) : Prop :=
  if g = 7 then ∃ xs, t = chain xs ∧ GoodE t ∧ (joinT xs).length + 2 + 30 * l'.length ≤ 30 * l.length ∧ xs.length + l'.length ≤ l.length
  else GoodE t ∧ (wrT t).length + 2 + 30 * l'.length ≤ 30 * l.length + (if g = 1 ∨ g = 3 then (wrT x).length + 2 else 0)
theorem exG_of {g : Nat} {x t : Tr} {l l' : List Tok} (h7 : g ≠ 7) (h13 : ¬ (g = 1 ∨ g = 3)) (h : ExG g x l t l') : GoodE t ∧ (wrT t).length + 2 + 30 * l'.length ≤ 30 * l.length := by
  unfold ExG at h
  rw [if_neg h7, if_neg h13] at h
  exact h
theorem exG_lp {g : Nat} {x t : Tr} {l l' : List Tok} (h13 : g = 1 ∨ g = 3) (h : ExG g x l t l') : GoodE t ∧ (wrT t).length + 2 + 30 * l'.length ≤ 30 * l.length + ((wrT x).length + 2) := by
  unfold ExG at h
  rw [if_neg (by omega), if_pos h13] at h
  exact h
theorem ex_good : ∀ (f g lv d : Nat) (x : Tr) (p : Nat) (l : List Tok) (t : Tr) (l' : List Tok), (g ≤ 1 → 1 ≤ lv) → (g = 1 ∨ g = 3 → GoodE x ∧ IsNd x) → Ends l → l.length ≤ 1000000 → exV f g lv d x p l = .ok (t, l') → ExG g x l t l'
  | 0, _, _, _, _, _, _, _, _, _, _, _, _, h => by simp [exV] at h
  | f + 1, 0, lv, d, x, p, l, t, l', hv, hx, he, h6, h => by
    rw [exV] at h
    unfold ExG
    rw [if_neg (by omega), if_neg (by omega)]
    split at h
    · exact exG_of (by omega) (by omega) (ex_good f 2 0 d .nil 0 l t l' (fun h => by omega) (fun h => by omega) he h6 h)
    · obtain ⟨y, l1, h1, h2⟩ := bnd_ok h
      have e1 := ex_ends f 0 (lv + 1) d .nil 0 l y l1 (fun _ => by omega) he h1
      have g1 := exG_of (by omega) (by omega) (ex_good f 0 (lv + 1) d .nil 0 l y l1 (fun _ => by omega) (fun h => by omega) he h6 h1)
      have n1 := ex_node f 0 (lv + 1) d .nil 0 l y l1 (by omega) (by omega) h1
      have g2 := exG_lp (.inl rfl) (ex_good f 1 lv d y _ l1 t l' (fun _ => hv (by omega)) (fun _ => ⟨g1.1, n1⟩) e1.1 (by have := e1.2.1; omega) h2)
      exact ⟨g2.1, by have := g1.2; have := g2.2; omega⟩
  | f + 1, 1, lv, d, x, p, l, t, l', hv, hx, he, h6, h => by
    rw [exV] at h
    unfold ExG
    rw [if_neg (by omega), if_pos (.inl rfl)]
    obtain ⟨gx, nx⟩ := hx (.inl rfl)
    split at h
    · rename_i hn
      obtain ⟨y, l1, h1, h2⟩ := bnd_ok h
      have hlv := hv (by omega)
      have hk : (hd l).t ≠ [] := fun e => by
        rw [e] at hn
        have h0 : nearV [] = 0 := by decide
        omega
      obtain ⟨t1, t2, t3, t4⟩ := he.tail hk
      have e1 := ex_ends f 0 (lv + 1) d .nil 0 l.tail y l1 (fun _ => by omega) t1 h1
      have g1 := exG_of (by omega) (by omega) (ex_good f 0 (lv + 1) d .nil 0 l.tail y l1 (fun _ => by omega) (fun h => by omega) t1 (by omega) h1)
      have n1 := ex_node f 0 (lv + 1) d .nil 0 l.tail y l1 (by omega) (by omega) h1
      have gn : GoodE (nd 3 p 0 [] (hd l).t x y ce) := good_nd (by omega) (by omega) (by omega) (by omega) (.inr nx) (.inr n1) gx g1.1 good_ce ce_chain (by simp)
      have g2 := exG_lp (.inl rfl) (ex_good f 1 lv d _ _ l1 t l' (fun _ => hlv) (fun _ => ⟨gn, isNd _ _ _ _ _ _ _ _⟩) e1.1 (by have := e1.2.1; omega) h2)
      refine ⟨g2.1, ?_⟩
      have hw : wrT (nd 3 p 0 [] (hd l).t x y ce) = hold x (nearV (hd l).t) (wrT x) ++ ([32] ++ (hd l).t ++ [32]) ++ hold y (nearV (hd l).t + 1) (wrT y) := by rw [wrT]; simp
      have a1 := hold_le x (nearV (hd l).t) (wrT x)
      have a2 := hold_le y (nearV (hd l).t + 1) (wrT y)
      have a3 := near_short (m := (hd l).t) (by omega)
      have a4 := g1.2
      have a5 := g2.2
      rw [hw] at a5
      simp only [List.length_append, List.length_cons, List.length_nil] at a5
      omega
    · obtain ⟨rfl, rfl⟩ := ok_eq h
      exact ⟨gx, by omega⟩
  | f + 1, 2, lv, d, x, p, l, t, l', hv, hx, he, h6, h => by
    rw [exV] at h
    unfold ExG
    rw [if_neg (by omega), if_neg (by omega)]
    obtain ⟨_, _, hb, h⟩ := bnd_ok h
    split at h
    · rename_i hn
      obtain ⟨y, l1, h1, h2⟩ := bnd_ok h
      have hk : (hd l).t ≠ [] := by rcases hn with hn | hn <;> rw [hn] <;> simp
      have hk1 : (hd l).t.length = 1 := by rcases hn with hn | hn <;> rw [hn] <;> rfl
      obtain ⟨t1, t2, t3, t4⟩ := he.tail hk
      have g1 := exG_of (by omega) (by omega) (ex_good f 2 0 (d + 1) .nil 0 l.tail y l1 (fun h => by omega) (fun h => by omega) t1 (by omega) h1)
      have n1 := ex_node f 2 0 (d + 1) .nil 0 l.tail y l1 (by omega) (by omega) h1
      obtain ⟨rfl, rfl⟩ := ok_eq h2
      refine ⟨good_nd (by omega) (by omega) (by omega) (by omega) (.inr n1) (.inl rfl) g1.1 good_nil good_ce ce_chain (by simp), ?_⟩
      have hw : wrT (nd 4 (hd l).p 0 [] (hd l).t y .nil ce) = (hd l).t ++ hold y 7 (wrT y) := by rw [wrT]; simp
      have a1 := hold_le y 7 (wrT y)
      rw [hw]
      simp only [List.length_append]
      have := g1.2
      omega
    · obtain ⟨y, l1, h1, h2⟩ := bnd_ok h
      have e1 := ex_ends f 4 0 d .nil 0 l y l1 (fun h => by omega) he h1
      have g1 := exG_of (by omega) (by omega) (ex_good f 4 0 d .nil 0 l y l1 (fun h => by omega) (fun h => by omega) he h6 h1)
      have n1 := ex_node f 4 0 d .nil 0 l y l1 (by omega) (by omega) h1
      have g2 := exG_lp (.inr rfl) (ex_good f 3 0 d y _ l1 t l' (fun h => by omega) (fun _ => ⟨g1.1, n1⟩) e1.1 (by have := e1.2.1; omega) h2)
      exact ⟨g2.1, by have := g1.2; have := g2.2; omega⟩
  | f + 1, 3, lv, d, x, p, l, t, l', hv, hx, he, h6, h => by
    rw [exV] at h
    unfold ExG
    rw [if_neg (by omega), if_pos (.inr rfl)]
    obtain ⟨gx, nx⟩ := hx (.inr rfl)
    split at h
    · rename_i hn
      obtain ⟨y, l1, h1, h2⟩ := bnd_ok h
      obtain ⟨t1, t2, t3, t4⟩ := he.tail (by rw [hn]; simp)
      have e1 := ex_ends f 6 0 d .nil 0 l.tail y l1 (fun h => by omega) t1 h1
      have g1 := exG_of (by omega) (by omega) (ex_good f 6 0 d .nil 0 l.tail y l1 (fun h => by omega) (fun h => by omega) t1 (by omega) h1)
      have n1 := ex_node f 6 0 d .nil 0 l.tail y l1 (by omega) (by omega) h1
      have gn : GoodE (nd 8 p 0 [] [] x y ce) := good_nd (by omega) (by omega) (by omega) (by omega) (.inr nx) (.inr n1) gx g1.1 good_ce ce_chain (by simp)
      have g2 := exG_lp (.inr rfl) (ex_good f 3 0 d _ _ l1 t l' (fun h => by omega) (fun _ => ⟨gn, isNd _ _ _ _ _ _ _ _⟩) e1.1 (by have := e1.2.1; omega) h2)
      refine ⟨g2.1, ?_⟩
      have hw : wrT (nd 8 p 0 [] [] x y ce) = hold x 8 (wrT x) ++ ([91] ++ wrT y ++ [93]) := by rw [wrT]; simp
      have a1 := hold_le x 8 (wrT x)
      have a4 := g1.2
      have a5 := g2.2
      rw [hw] at a5
      simp only [List.length_append, List.length_cons, List.length_nil] at a5
      omega
    · obtain ⟨rfl, rfl⟩ := ok_eq h
      exact ⟨gx, by omega⟩
  | f + 1, 4, lv, d, x, p, l, t, l', hv, hx, he, h6, h => by
    rw [exV] at h
    unfold ExG
    rw [if_neg (by omega), if_neg (by omega)]
    split at h
    · rename_i hk
      obtain ⟨v, l1, h1, h2⟩ := bnd_ok h
      obtain ⟨hp, rfl⟩ := num_ok h1
      obtain ⟨t1, t2, t3, t4⟩ := he.tail (he.kind (by omega))
      have hb := Lib.parseIntB_bounds hp
      have e63 : ((2 ^ (64 - 1) : Nat) : Int) = 9223372036854775808 := by decide
      rw [e63] at hb
      obtain ⟨rfl, rfl⟩ := ok_eq h2
      refine ⟨good_nd (by omega) (by omega) (by omega) (by omega) (.inl rfl) (.inl rfl) good_nil good_nil good_ce ce_chain (by simp), ?_⟩
      have hw : wrT (nd 1 (hd l).p v [] [] .nil .nil ce) = Lib.itoa v := by rw [wrT]; simp
      have := Lib.itoa_length_le v (by omega) (by omega)
      rw [hw]
      omega
    split at h
    · rename_i hk2 hk
      obtain ⟨nm, l1, h1, h2⟩ := bnd_ok h
      obtain ⟨_, _, hn12, rfl⟩ := name_ok h1
      obtain ⟨t1, t2, t3, t4⟩ := he.tail (he.kind (by omega))
      split at h2
      · rename_i h40
        obtain ⟨s1, s2, s3, s4⟩ := t1.tail (by rw [h40]; simp)
        split at h2
        · rename_i h41
          obtain ⟨r1, r2, r3, r4⟩ := s1.tail (by rw [h41]; simp)
          obtain ⟨rfl, rfl⟩ := ok_eq h2
          refine ⟨good_nd (by omega) (by omega) (by omega) (by omega) (.inl rfl) (.inl rfl) good_nil good_nil good_ce ce_chain (by simp), ?_⟩
          have hw : wrT (nd 5 (hd l).p 0 nm [] .nil .nil ce) = (nm ++ [40]) ++ wrT ce ++ [41] := by rw [wrT]; simp
          have hc : wrT ce = [] := by rw [ce_chain, join_chain]; rfl
          rw [hw, hc]
          simp only [List.length_append, List.length_cons, List.length_nil]
          omega
        · obtain ⟨gg, l2, h3, h4⟩ := bnd_ok h2
          have q := ex_good f 7 0 d ce 0 l.tail.tail gg l2 (fun h => by omega) (fun h => by omega) s1 (by omega) h3
          unfold ExG at q
          rw [if_pos rfl] at q
          obtain ⟨xs, hxs, hgg, hlen, hcnt⟩ := q
          obtain ⟨rfl, rfl⟩ := ok_eq h4
          refine ⟨good_nd (by omega) (by omega) (by omega) (by omega) (.inl rfl) (.inl rfl) good_nil good_nil hgg hxs (by omega), ?_⟩
          have hw : wrT (nd 5 (hd l).p 0 nm [] .nil .nil gg) = (nm ++ [40]) ++ wrT gg ++ [41] := by rw [wrT]; simp
          have hc : wrT gg = joinT xs := by rw [hxs, join_chain]
          rw [hw, hc]
          simp only [List.length_append, List.length_cons, List.length_nil]
          omega
      · obtain ⟨rfl, rfl⟩ := ok_eq h2
        refine ⟨good_nd (by omega) (by omega) (by omega) (by omega) (.inl rfl) (.inl rfl) good_nil good_nil good_ce ce_chain (by simp), ?_⟩
        have hw : wrT (nd 2 (hd l).p 0 nm [] .nil .nil ce) = nm := by rw [wrT]; simp
        rw [hw]
        omega
    split at h
    · rename_i hn
      obtain ⟨y, l1, h1, h2⟩ := bnd_ok h
      obtain ⟨t1, t2, t3, t4⟩ := he.tail (by rw [hn]; simp)
      have g1 := exG_of (by omega) (by omega) (ex_good f 5 0 d .nil 0 l.tail y l1 (fun h => by omega) (fun h => by omega) t1 (by omega) h1)
      have n1 := ex_node f 5 0 d .nil 0 l.tail y l1 (by omega) (by omega) h1
      obtain ⟨rfl, rfl⟩ := ok_eq h2
      refine ⟨good_nd (by omega) (by omega) (by omega) (by omega) (.inr n1) (.inl rfl) g1.1 good_nil good_ce ce_chain (by simp), ?_⟩
      have hw : wrT (nd 6 (hd l).p 0 [] [] y .nil ce) = ([110, 101, 119] ++ [40]) ++ wrT y ++ [41] := by rw [wrT]; simp
      rw [hw]
      simp only [List.length_append, List.length_cons, List.length_nil]
      have := g1.2
      omega
    split at h
    · rename_i hn
      obtain ⟨y, l1, h1, h2⟩ := bnd_ok h
      obtain ⟨t1, t2, t3, t4⟩ := he.tail (by rw [hn]; simp)
      have g1 := exG_of (by omega) (by omega) (ex_good f 5 0 d .nil 0 l.tail y l1 (fun h => by omega) (fun h => by omega) t1 (by omega) h1)
      have n1 := ex_node f 5 0 d .nil 0 l.tail y l1 (by omega) (by omega) h1
      obtain ⟨rfl, rfl⟩ := ok_eq h2
      refine ⟨good_nd (by omega) (by omega) (by omega) (by omega) (.inr n1) (.inl rfl) g1.1 good_nil good_ce ce_chain (by simp), ?_⟩
      have hw : wrT (nd 7 (hd l).p 0 [] [] y .nil ce) = ([108, 101, 110] ++ [40]) ++ wrT y ++ [41] := by rw [wrT]; simp
      rw [hw]
      simp only [List.length_append, List.length_cons, List.length_nil]
      have := g1.2
      omega
    split at h
    · rename_i hn
      obtain ⟨t1, t2, t3, t4⟩ := he.tail (by rw [hn]; simp)
      obtain ⟨_, l1, h1, h⟩ := bnd_ok h
      obtain ⟨e1, s1⟩ := need_tail h1 (by decide) t1
      obtain ⟨_, l2, h2, h⟩ := bnd_ok h
      obtain ⟨e2, s2⟩ := need_tail h2 (by decide) e1
      obtain ⟨rfl, rfl⟩ := ok_eq h
      refine ⟨good_nd (by omega) (by omega) (by omega) (by omega) (.inl rfl) (.inl rfl) good_nil good_nil good_ce ce_chain (by simp), ?_⟩
      have hw : wrT (nd 9 (hd l).p 0 [] [] .nil .nil ce) = ([105, 110, 112, 117, 116] ++ [40]) ++ [41] := by rw [wrT]; simp
      rw [hw]
      simp only [List.length_append, List.length_cons, List.length_nil]
      omega
    · exact exG_of (by omega) (by omega) (ex_good f 5 0 d .nil 0 l t l' (fun h => by omega) (fun h => by omega) he h6 h)
  | f + 1, 5, lv, d, x, p, l, t, l', hv, hx, he, h6, h => by
    rw [exV] at h
    unfold ExG
    rw [if_neg (by omega), if_neg (by omega)]
    obtain ⟨_, l1, h1, h⟩ := bnd_ok h
    obtain ⟨e1, s1⟩ := need_tail h1 (by decide) he
    obtain ⟨y, l2, h2, h⟩ := bnd_ok h
    have e2 := ex_ends f 0 1 (d + 1) .nil 0 l1 y l2 (fun _ => by omega) e1 h2
    have g1 := exG_of (by omega) (by omega) (ex_good f 0 1 (d + 1) .nil 0 l1 y l2 (fun h => by omega) (fun h => by omega) e1 (by omega) h2)
    obtain ⟨_, l3, h3, h⟩ := bnd_ok h
    obtain ⟨e3, s3⟩ := need_tail h3 (by decide) e2.1
    obtain ⟨rfl, rfl⟩ := ok_eq h
    exact ⟨g1.1, by have := g1.2; omega⟩
  | f + 1, 6, lv, d, x, p, l, t, l', hv, hx, he, h6, h => by
    rw [exV] at h
    unfold ExG
    rw [if_neg (by omega), if_neg (by omega)]
    obtain ⟨y, l2, h2, h⟩ := bnd_ok h
    have e2 := ex_ends f 0 1 (d + 1) .nil 0 l y l2 (fun _ => by omega) he h2
    have g1 := exG_of (by omega) (by omega) (ex_good f 0 1 (d + 1) .nil 0 l y l2 (fun h => by omega) (fun h => by omega) he h6 h2)
    obtain ⟨_, l3, h3, h⟩ := bnd_ok h
    obtain ⟨e3, s3⟩ := need_tail h3 (by decide) e2.1
    obtain ⟨rfl, rfl⟩ := ok_eq h
    exact ⟨g1.1, by have := g1.2; omega⟩
  | f + 1, 7, lv, d, x, p, l, t, l', hv, hx, he, h6, h => by
    rw [exV] at h
    unfold ExG
    rw [if_pos rfl]
    obtain ⟨y, l2, h2, h⟩ := bnd_ok h
    have e2 := ex_ends f 0 1 (d + 1) .nil 0 l y l2 (fun _ => by omega) he h2
    have g1 := exG_of (by omega) (by omega) (ex_good f 0 1 (d + 1) .nil 0 l y l2 (fun h => by omega) (fun h => by omega) he h6 h2)
    have n1 := ex_node f 0 1 (d + 1) .nil 0 l y l2 (by omega) (by omega) h2
    split at h
    · rename_i hn
      obtain ⟨s1, s2, s3, s4⟩ := e2.1.tail (by rw [hn]; simp)
      obtain ⟨gg, l4, h5, h⟩ := bnd_ok h
      have q := ex_good f 7 0 d ce 0 l2.tail gg l4 (fun h => by omega) (fun h => by omega) s1 (by have := e2.2.1; omega) h5
      unfold ExG at q
      rw [if_pos rfl] at q
      obtain ⟨xs, hxs, hgg, hlen, hcnt⟩ := q
      obtain ⟨rfl, rfl⟩ := ok_eq h
      refine ⟨y :: xs, by rw [hxs]; rfl, by rw [GoodE]; exact ⟨n1, g1.1, hgg⟩, ?_, ?_⟩
      · have := join_cons y xs
        have := g1.2
        omega
      · have := e2.2.1
        simp only [List.length_cons]
        omega
    · obtain ⟨_, l3, h3, h⟩ := bnd_ok h
      obtain ⟨e3, s3⟩ := need_tail h3 (by decide) e2.1
      obtain ⟨rfl, rfl⟩ := ok_eq h
      refine ⟨[y], rfl, by rw [GoodE]; exact ⟨n1, g1.1, good_ce⟩, ?_, ?_⟩
      · have := g1.2
        simp only [joinT]
        omega
      · have := e2.2.1
        simp
        omega
  | f + 1, g + 8, lv, d, x, p, l, t, l', hv, hx, he, h6, h => by rw [exV] at h; cases h
end Go.Proofs.YtpakgaegckkmnaaGreatDoor
