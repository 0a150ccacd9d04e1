/- The document's run of steps: item, the deferred closure, end, walked. -/
import Derived.Test.YtjmbjpimabnohaaDoorUC
namespace Go.Proofs.YtjmbjpimabnohaaDoor.Mid
set_option linter.unusedVariables false
set_option linter.unusedSimpArgs false
open Go Go.RowKit

/-- An array's number. -/
def arrN : Option Nat → Int
  | none => 0
  | some i => (i : Int) + 1
theorem own_cell {w : World} {B e n : Nat} {v : Value} {l : List Value} (h : w.ownsRow B e 1 v n l) {j : Nat} {x : Value} (hx : l[j]? = some x) : ∃ g cap, v = .slice (some ⟨g, 0, none⟩) n cap ∧ n ≤ cap ∧ j < n ∧ w.cell? ⟨g, j, none⟩ = some x := by
  obtain ⟨e1, hh⟩ := h
  rcases hh with ⟨rfl, e2⟩ | ⟨g, cap, cur, rfl, hb, hg, hc, hle, hz, ht⟩
  · rw [e2] at e1
    have := (List.getElem?_eq_some_iff.1 hx).1
    omega
  · have hj : j < n := by have := (List.getElem?_eq_some_iff.1 hx).1; omega
    refine ⟨g, cap, rfl, by omega, hj, ?_⟩
    refine cell_at hg ?_
    rw [← ht, List.getElem?_take] at hx
    split at hx
    · simpa using hx
    · cases hx
/-- An array that is there. -/
def QvR (r : Rr) : Option Nat → Prop
  | none => True
  | some i => i < r.ab.length
theorem arr_cell {w0 : World} {P : Nat} {w : World} {r : Rr} {d : Nat} {way : Int} (h : Wm w0 P w r d way) {q : Option Nat} (hq : QvR r q) : ∃ (g cap a : Nat) (p : Option Addr) (l c : Nat), r.av = .slice (some ⟨g, 0, none⟩) (r.ab.length + 1) cap ∧ r.ab.length + 1 ≤ cap ∧ arrN q = a ∧ a < r.ab.length + 1 ∧ w.cell? ⟨g, a, none⟩ = some (.slice p l c) ∧ (arrOf r.s q).length = l ∧ l ≤ 40 ∧ l ≤ c ∧ (l = 0 ∨ ∃ i b, q = some i ∧ r.ab[i]? = some (b, l) ∧ p = some ⟨b, 0, none⟩) := by
  cases q with
  | none =>
    obtain ⟨g, cap, h1, h2, h3, h4⟩ := own_cell h.arrs (j := 0) (x := .slice none 0 0) rfl
    exact ⟨g, cap, 0, none, 0, 0, h1, h2, rfl, by omega, h4, rfl, by omega, by omega, .inl rfl⟩
  | some i =>
    have hq' : i < r.ab.length := hq
    obtain ⟨b, n, hb⟩ : ∃ b n, r.ab[i]? = some (b, n) := ⟨r.ab[i].1, r.ab[i].2, List.getElem?_eq_getElem hq'⟩
    obtain ⟨l, a1, a2, a3, a4⟩ := h.arr i b n hb
    obtain ⟨g, cap, h1, h2, h3, h4⟩ := own_cell h.arrs (j := i + 1) (x := .slice (some ⟨b, 0, none⟩) n n) (by
      show (r.ab.map _)[i]? = _
      rw [List.getElem?_map, hb]
      rfl)
    refine ⟨g, cap, i + 1, some ⟨b, 0, none⟩, n, n, h1, h2, by simp [arrN], h3, h4, ?_, a3, Nat.le_refl _, .inr ⟨i, b, rfl, hb, rfl⟩⟩
    show (r.s.hp.getD i []).length = n
    rw [List.getD_eq_getElem?_getD, a1]
    exact a2
/-- What looking for an item leaves. -/
def ItQ (X : Qx) (w : World) (r : Rr) (d : Nat) (q : Option Nat) (n : Int) (e : Ending) (w' : World) : Prop :=
  ((n < 0 ∨ ((arrOf r.s q).length : Int) ≤ n) ∧ e = .returned (.pointer none) ∧ Wm X.w0 X.P w' r d 3 ∧ Wz X.P NoE w r w' r) ∨ (¬ (n < 0 ∨ ((arrOf r.s q).length : Int) ≤ n) ∧ (∃ i b k, q = some i ∧ r.ab[i]? = some (b, k) ∧ e = .returned (.pointer (some ⟨b, n.toNat, none⟩))) ∧ w' = w)
set_option maxRecDepth 100000 in
set_option maxHeartbeats 2000000 in
theorem item_r (X : Qx) (w : World) (r : Rr) (d : Nat) (q : Option Nat) (n : Int) (h : Wm X.w0 X.P w r d 0) (hq : QvR r q) (hcn : r.ab.length ≤ 10000000) : Calls Tryd.prog 61 #[ptr X.P, .int .i64 (arrN q), .int .i64 n] w (ItQ X w r d q n) := by
  obtain ⟨g, cap, a, p, l, c, h1, h2, h3, h4, h5, h6, h7, h8, h9⟩ := arr_cell h hq
  have c0 : w.cell? ⟨X.P, 0, none⟩ = some r.av := cell_at (i := 0) h.pb rfl
  rw [h1] at c0
  obtain ⟨na, hna⟩ : ∃ na, na = r.ab.length + 1 := ⟨_, rfl⟩
  rw [← hna] at c0 h2 h4
  have hna6 : na ≤ 10000001 := by omega
  have HEn : Hid (Calls Tryd.prog 59 #[ptr X.P, .int .i64 3] w (EnP X w r d 3)) := ends_any X w r d 0 3 h
  have HL : Hid ((arrOf r.s q).length = l) := h6
  have HQ : Hid (l = 0 ∨ ∃ i b, q = some i ∧ r.ab[i]? = some (b, l) ∧ p = some ⟨b, 0, none⟩) := h9
  have HC : Hid (∀ W b, inB n 0 ((l : Int) - 1) = b → Calls Tryd.prog 25 #[.int .i64 n, .int .i64 0, .int .i64 ((l : Int) - 1)] W (LqP b W)) := fun W b hb => by subst hb; exact in_any _ _ _ _
  have hal : (a : Int) < (na : Int) := by omega
  generalize hG : ItQ X w r d q n = G
  have HG : Hid (ItQ X w r d q n = G) := hG
  rw [h3]
  clear h h1 h3 h6 h9 hna hG hq hcn
  by_cases h0 : n < 0 ∨ (l : Int) ≤ n
  · have HI : Hid (inB n 0 ((l : Int) - 1) = false) := decide_eq_false (by omega)
    go_enter Tryd.func61, Tryd.ntmps61
    go_wp2_with (first | (go_at_call 25; refine (HC.out _ _ HI.out).mono ?_; rintro e w' ⟨rfl, rfl⟩) | (go_at_call 59; fail))
    refine HEn.out.mono ?_
    rintro e w1 ⟨rfl, z1, z3⟩
    have HX : Hid (G (.returned (.pointer none)) w1) := by show G _ _; rw [← HG.out]; exact .inl ⟨by rw [HL.out]; exact h0, rfl, z1, z3⟩
    clear z1 z3
    go_wp2
    exact HX.out
  · have HI : Hid (inB n 0 ((l : Int) - 1) = true) := decide_eq_true (by omega)
    obtain ⟨k, rfl⟩ : ∃ k : Nat, n = k := ⟨n.toNat, by omega⟩
    have hkl : (k : Int) < (l : Int) := by omega
    rcases HQ.out with e0 | ⟨i, b, e1, e2, rfl⟩
    · omega
    have HX : Hid (G (.returned (.pointer (some ⟨b, k, none⟩))) w) := by show G _ _; rw [← HG.out]; exact .inr ⟨by rw [HL.out]; exact h0, ⟨i, b, l, e1, e2, by rw [Int.toNat_natCast]⟩, rfl⟩
    clear e1 e2 h0
    go_enter Tryd.func61, Tryd.ntmps61
    go_wp2_with (go_at_call 25; refine (HC.out _ _ HI.out).mono ?_; rintro e w' ⟨rfl, rfl⟩)
    exact HX.out
theorem fr8 (a : Value) : (#[a] : Array Value) ++ Array.replicate (8 - (#[a] : Array Value).size) undef = #[a, undef, undef, undef, undef, undef, undef, undef] := by kernel_rfl
/-- A call that has ended waits no more. -/
def DcP (X : Qx) (w : World) (r : Rr) (d : Nat) (way : Int) (e : Ending) (u' : FrameMode) (w' : World) : Prop := e = .returned (.tuple #[]) ∧ u' = .returning ∧ Wm X.w0 X.P w' r d way ∧ Wz X.P NoE w r w' r
set_option maxRecDepth 100000 in
set_option maxHeartbeats 2000000 in
theorem code_leaves (X : Qx) (w : World) (r : Rr) (d : Nat) (way : Int) (B : Nat) (h : Wm X.w0 X.P w r (d + 1) way) (hB : w.cell? ⟨B, 0, none⟩ = some (ptr X.P)) : CallsD Tryd.prog 46 #[ptr B] .returning w (DcP X w r d way) := by
  have c3 : w.cell? ⟨X.P, 3, none⟩ = some (.int .i64 ((d : Int) + 1)) := by have := cell_at (i := 3) h.pb rfl; simpa using this
  have f3 := row_free h.pb 3
  have hd := h.deep
  obtain ⟨a1, a2⟩ := h.setP (i := 3) (v := .int .i64 (d : Int)) r d way (by simp [wdC]) rfl rfl rfl rfl rfl h.inp h.few (by omega)
  have HX : Hid (DcP X w r d way (.returned (.tuple #[])) .returning (w.setCell ⟨X.P, 3, none⟩ (.int .i64 (d : Int)))) := ⟨rfl, rfl, a1, a2⟩
  clear a1 a2 h
  generalize hG : DcP X w r d way = G
  rw [hG] at HX
  clear hG
  refine callsD_of_wpS Tryd.func46 rfl fun c₀ cs hu => ?_
  rw [Tryd.ntmps46, fr8]
  refine wpS_of_wp ?_
  go_wp2
  cases c₀
  simp_all [bodyPostS, results, Tryd.results46, Exit.thenS]
  exact HX.out
end Go.Proofs.YtjmbjpimabnohaaDoor.Mid
