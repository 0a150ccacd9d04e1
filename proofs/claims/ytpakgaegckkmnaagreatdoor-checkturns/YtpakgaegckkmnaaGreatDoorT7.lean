/- Package tree's near, more, number, walked. -/
import Derived.Test.YtpakgaegckkmnaaGreatDoorT6
namespace Go.Proofs.YtpakgaegckkmnaaGreatDoor
set_option linter.unusedVariables false
set_option linter.unusedSimpArgs false
open Go Go.RowKit

abbrev pairC : List Value := pairsL.flatMap fun x => [str x.1, .int .i64 (x.2 : Int)]
set_option maxRecDepth 100000 in
theorem ix_pair (j : Nat) (hj : j < 13) (W : World) : (Instr.index 155 (.agg pairC.toArray) (.int .i64 (j : Int))).run Tryz.prog W = .ok (.agg #[str (pairsL.getD j ([], 0)).1, .int .i64 ((pairsL.getD j ([], 0)).2 : Int)]) W := by
  have hc : j = 0 ∨ j = 1 ∨ j = 2 ∨ j = 3 ∨ j = 4 ∨ j = 5 ∨ j = 6 ∨ j = 7 ∨ j = 8 ∨ j = 9 ∨ j = 10 ∨ j = 11 ∨ j = 12 := by omega
  rcases hc with rfl | rfl | rfl | rfl | rfl | rfl | rfl | rfl | rfl | rfl | rfl | rfl | rfl <;> rfl
theorem near_at : ∀ (l : List (By × Nat)) (m : By), (∃ J, J < l.length ∧ (l.getD J ([], 0)).1 = m ∧ (∀ j, j < J → (l.getD j ([], 0)).1 ≠ m) ∧ ((l.find? (·.1 == m)).map (·.2)).getD 0 = (l.getD J ([], 0)).2) ∨ ((∀ j, j < l.length → (l.getD j ([], 0)).1 ≠ m) ∧ ((l.find? (·.1 == m)).map (·.2)).getD 0 = 0)
  | [], m => .inr ⟨fun j hj => by simp at hj, rfl⟩
  | x :: l, m => by
    by_cases hx : x.1 = m
    · refine .inl ⟨0, by simp, hx, fun j hj => by omega, ?_⟩
      rw [List.find?_cons]
      simp [hx]
    · have hb : (x.1 == m) = false := by simpa using hx
      rcases near_at l m with ⟨J, h1, h2, h3, h4⟩ | ⟨h1, h2⟩
      · refine .inl ⟨J + 1, by simp; omega, by simpa using h2, fun j hj => ?_, ?_⟩
        · cases j with
          | zero => simpa using hx
          | succ j => simpa using h3 j (by omega)
        · rw [List.find?_cons, hb]
          simpa using h4
      · refine .inr ⟨fun j hj => ?_, ?_⟩
        · cases j with
          | zero => simpa using hx
          | succ j => simpa using h1 j (by simpa using hj)
        · rw [List.find?_cons, hb]
          exact h2

set_option maxRecDepth 100000 in
set_option maxHeartbeats 4000000 in
theorem near_any (m : ByteArray) (w : World) (he : Env w) :
    Calls Tryz.prog 66 #[.string m] w fun e w' => e = .returned (.int .i64 (nearV m.data.toList : Nat)) ∧ Below w.heap.size w w' := by
  have HP : Hid (w.rangeAt 2 0 pairC) := he.pairs
  have hJ : ∃ J, J ≤ 13 ∧ (∀ j, j < J → (pairsL.getD j ([], 0)).1 ≠ m.data.toList) ∧ (J < 13 → (pairsL.getD J ([], 0)).1 = m.data.toList ∧ nearV m.data.toList = (pairsL.getD J ([], 0)).2) ∧ (J = 13 → nearV m.data.toList = 0) := by
    rcases near_at pairsL m.data.toList with ⟨J, h1, h2, h3, h4⟩ | ⟨h1, h2⟩
    · exact ⟨J, Nat.le_of_lt h1, h3, fun _ => ⟨h2, h4⟩, fun e => by have : J < 13 := h1; omega⟩
    · exact ⟨13, Nat.le_refl _, h1, fun h => by omega, fun _ => h2⟩
  obtain ⟨J, hJ13, hno, hyes, hnone⟩ := hJ
  have HNo : Hid (∀ j, j < J → (pairsL.getD j ([], 0)).1 ≠ m.data.toList) := hno
  have HYes : Hid (J < 13 → (pairsL.getD J ([], 0)).1 = m.data.toList ∧ nearV m.data.toList = (pairsL.getD J ([], 0)).2) := hyes
  have HNone : Hid (J = 13 → nearV m.data.toList = 0) := hnone
  clear he hno hyes hnone
  go_enter Tryz.func66, Tryz.ntmps66
  go_wp2_with (refine wpList_load_mid rfl 155 _ rfl 2 0 rfl _ _ HP.out Tryz.underlying155 rfl (by kernel_rfl) ?_)
  go_loopw [6] (fun i wr => ∃ j : Nat, j ≤ J ∧ i = .int .i64 j ∧ Hid (Below w.heap.size w wr)) (fun i _ => 13 - (intOf i).toNat)
  case atStart => exact ⟨0, Nat.zero_le _, rfl, Below.refl _ _⟩
  case round =>
    obtain ⟨j, hj, rfl, HB⟩ := hrel
    by_cases hlt2 : j < J
    · have hj13 : j < 13 := by omega
      have hix := ix_pair j hj13
      obtain ⟨y, hy, hyt⟩ := str_y (pairsL.getD j ([], 0)).1
      rw [hy] at hix
      have hne := bytes_neq (b := y) (s := m) (fun e => HNo.out j hlt2 (by rw [← hyt, e]))
      clear hy hyt
      generalize ((pairsL.getD j ([], 0)).2 : Int) = nr at *
      go_wp2
      exact ⟨⟨j + 1, by omega, by go_num, HB.out.alloc HB.out.size _⟩, by simp [intOf]; omega⟩
    · obtain rfl : j = J := by omega
      by_cases hj13 : j < 13
      · have hix := ix_pair j hj13
        obtain ⟨h1, h2⟩ := HYes.out hj13
        have hy : str (pairsL.getD j ([], 0)).1 = .string m := by rw [h1]
        have HN : Hid ((nearV m.data.toList : Int) = ((pairsL.getD j ([], 0)).2 : Int)) := by show _ = _; rw [h2]
        rw [hy] at hix
        clear hy h1 h2
        generalize ((pairsL.getD j ([], 0)).2 : Int) = nr at *
        go_wp2
        go_ret
        exact ⟨ret_int HN.out.symm, HB.out.alloc HB.out.size _⟩
      · obtain rfl : j = 13 := by omega
        have HN : Hid (nearV m.data.toList = 0) := HNone.out rfl
        go_wp2
        go_ret
        exact ⟨ret_int (by rw [HN.out]; rfl), HB.out⟩

theorem PS.gr {w w' : World} {P T o c : Nat} {l : List Tok} (h : PS w P T o c l) (hb : Below w.heap.size w w') : PS w' P T o c l ∧ Gr P w w' := ⟨h.below hb, gr_below hb⟩
set_option maxRecDepth 100000 in
set_option maxHeartbeats 2000000 in
theorem more_comma (w : World) (P T o c : Nat) (t : Tok) (l : List Tok) (h : PS w P T o c (t :: l)) (hl : 1 ≤ l.length) (hx : t.t = [44]) :
    Calls Tryz.prog 46 #[.pointer (some ⟨P, 0, none⟩)] w fun e w' => e = .returned (.bool true) ∧ PS w' P T (o + 3) (c - 1) l ∧ Gr P w w' := by
  have HA : Hid (Calls Tryz.prog 45 #[.pointer (some ⟨P, 0, none⟩), .string ⟨#[44]⟩] w fun e w' => e = .returned (.bool true) ∧ PS w' P T (o + 3) (c - 1) l ∧ Gr P w w') := accept_yes w P T o c t l h hl _ hx
  clear h hx
  go_enter Tryz.func46, Tryz.ntmps46
  go_wp2_with (go_at_call 45; refine HA.out.mono ?_; rintro e w2 ⟨rfl, hp, hg⟩; have HP : Hid (PS w2 P T (o + 3) (c - 1) l) := hp; have HG : Hid (Gr P w w2) := hg; clear hp hg)
  go_ret
  exact ⟨rfl, HP.out, HG.out⟩
set_option maxRecDepth 100000 in
set_option maxHeartbeats 2000000 in
theorem more_end (w : World) (P T o c : Nat) (t : Tok) (l : List Tok) (h : PS w P T o c (t :: l)) (hl : 1 ≤ l.length) (hx : t.t = [41]) :
    Calls Tryz.prog 46 #[.pointer (some ⟨P, 0, none⟩)] w fun e w' => e = .returned (.bool false) ∧ PS w' P T (o + 3) (c - 1) l ∧ Gr P w w' := by
  have HA : Hid (Calls Tryz.prog 45 #[.pointer (some ⟨P, 0, none⟩), .string ⟨#[44]⟩] w fun e w' => e = .returned (.bool false) ∧ Below w.heap.size w w') := accept_no w P T o c t l h _ (by rw [hx]; decide)
  have HN : Hid (∀ W, Below w.heap.size w W → Calls Tryz.prog 43 #[.pointer (some ⟨P, 0, none⟩), .string ⟨#[41]⟩] W fun e w' => e = .returned (.tuple #[]) ∧ PS w' P T (o + 3) (c - 1) l ∧ Gr P w w') := fun W hb => (need_yes W P T o c t l (h.below hb) hl _ hx).mono fun e w' ⟨a, b, d⟩ => ⟨a, b, (gr_below hb).trans d⟩
  clear h hx
  go_enter Tryz.func46, Tryz.ntmps46
  go_wp2_with (first
    | (go_at_call 45; refine HA.out.mono ?_; rintro e w1 ⟨rfl, hb⟩; have HB : Hid (Below w.heap.size w w1) := hb; clear hb)
    | (go_at_call 43; refine (HN.out _ HB.out).mono ?_; rintro e w2 ⟨rfl, hp, hg⟩; have HP : Hid (PS w2 P T (o + 3) (c - 1) l) := hp; have HG : Hid (Gr P w w2) := hg; clear hp hg))
  go_ret
  exact ⟨rfl, HP.out, HG.out⟩
set_option maxRecDepth 100000 in
set_option maxHeartbeats 2000000 in
theorem more_no (w : World) (P T o c : Nat) (t : Tok) (l : List Tok) (h : PS w P T o c (t :: l)) (h1 : t.t ≠ [44]) (h2 : t.t ≠ [41]) :
    Calls Tryz.prog 46 #[.pointer (some ⟨P, 0, none⟩)] w fun e w' => Threw 3 t.p e w' ∧ Below w.heap.size w w' := by
  have HA : Hid (Calls Tryz.prog 45 #[.pointer (some ⟨P, 0, none⟩), .string ⟨#[44]⟩] w fun e w' => e = .returned (.bool false) ∧ Below w.heap.size w w') := accept_no w P T o c t l h _ h1
  have HN : Hid (∀ W, Below w.heap.size w W → Calls Tryz.prog 43 #[.pointer (some ⟨P, 0, none⟩), .string ⟨#[41]⟩] W fun e w' => Threw 3 t.p e w' ∧ Below w.heap.size w w') := fun W hb => (need_no W P T o c t l (h.below hb) _ h2).mono fun e w' ⟨a, b⟩ => ⟨a, hb.trans (b.mono hb.size)⟩
  clear h h1 h2
  go_enter Tryz.func46, Tryz.ntmps46
  go_wp2_with (first
    | (go_at_call 45; refine HA.out.mono ?_; rintro e w1 ⟨rfl, hb⟩; have HB : Hid (Below w.heap.size w w1) := hb; clear hb)
    | (go_at_call 43; refine (HN.out _ HB.out).mono ?_; rintro e w2 ⟨⟨a, rfl, ha⟩, hb⟩; have HT : Hid (w2.heap[a]? = some (.cells #[.int .i64 3, .int .i64 (t.p : Int)] 78)) := ha; have HB2 : Hid (Below w.heap.size w w2) := hb; clear ha hb))
  exact ⟨rfl, ⟨a, rfl, HT.out⟩, HB2.out⟩

set_option maxRecDepth 100000 in
set_option maxHeartbeats 2000000 in
theorem number_yes (w : World) (P T o c : Nat) (t : Tok) (l : List Tok) (h : PS w P T o c (t :: l)) (hl : 1 ≤ l.length) (hz : t.t.length < 1000000000) (v : Int) (hv : Lib.parseIntB 64 t.t = .ok v) :
    Calls Tryz.prog 113 #[.pointer (some ⟨P, 0, none⟩)] w fun e w' => e = .returned (.int .i64 v) ∧ PS w' P T (o + 3) (c - 1) l ∧ Gr P w w' := by
  obtain ⟨y, hy, hyt⟩ := str_y t.t
  have hys : y.size = t.t.length := by rw [← hyt]; simp
  have HF1 : Hid (Calls Tryz.prog 28 #[.pointer (some ⟨P, 0, none⟩)] w fun e w' => e = .returned (.agg #[.int .i64 (t.k : Int), .string y, .int .i64 (t.p : Int)]) ∧ Below w.heap.size w w') := first_y w P T o c t l h y hy
  have HPI : Hid (∀ W, Below w.heap.size w W → Calls Tryz.prog 114 #[.string y, .int .i64 10, .int .i64 64] W fun e w' => e = .returned (.tuple #[.int .i64 v, .nilIface]) ∧ Below w.heap.size w w') := fun W hb =>
    (Tryz.strconv_ParseInt_10_at64_ok y (by omega) v (by rw [hyt]; exact hv) W).mono fun e w' ⟨a, b⟩ => ⟨a, by
      rcases b with b | ⟨t, b⟩
      · rw [b]; exact hb
      · rw [b]; exact hb.trans ((Lib.bytesWorld_below _ _ _).mono hb.size)⟩
  have HN : Hid (∀ W, Below w.heap.size w W → Calls Tryz.prog 61 #[.pointer (some ⟨P, 0, none⟩)] W fun e w' => e = .returned (.agg #[.int .i64 (t.k : Int), .string y, .int .i64 (t.p : Int)]) ∧ PS w' P T (o + 3) (c - 1) l ∧ Gr P w w') := fun W hb => by
    rw [← hy]
    exact (next_any W P T o c t l (h.below hb) hl).mono fun e w' ⟨a, b, d⟩ => ⟨a, b, (gr_below hb).trans d⟩
  have h1 := fld1
  clear h hy hyt hys hv
  go_enter Tryz.func113, Tryz.ntmps113
  go_wp2_with (first
    | (go_at_call 28; refine HF1.out.mono ?_; rintro e w1 ⟨rfl, hb⟩; have HB : Hid (Below w.heap.size w w1) := hb; clear hb)
    | (go_at_call 114; refine (HPI.out _ HB.out).mono ?_; rintro e w2 ⟨rfl, hb⟩; have HB2 : Hid (Below w.heap.size w w2) := hb; clear hb)
    | (go_at_call 61; refine (HN.out _ HB2.out).mono ?_; rintro e w3 ⟨rfl, hp, hg⟩; have HP : Hid (PS w3 P T (o + 3) (c - 1) l) := hp; have HG : Hid (Gr P w w3) := hg; clear hp hg))
  go_ret
  exact ⟨rfl, HP.out, HG.out⟩
set_option maxRecDepth 100000 in
set_option maxHeartbeats 2000000 in
theorem number_no (w : World) (he : Env w) (P T o c : Nat) (t : Tok) (l : List Tok) (h : PS w P T o c (t :: l)) (hz : t.t.length < 1000000000) (hv : ∀ v, Lib.parseIntB 64 t.t ≠ .ok v) :
    Calls Tryz.prog 113 #[.pointer (some ⟨P, 0, none⟩)] w fun e w' => Threw 4 t.p e w' ∧ Below w.heap.size w w' := by
  obtain ⟨y, hy, hyt⟩ := str_y t.t
  have hys : y.size = t.t.length := by rw [← hyt]; simp
  have HF1 : Hid (Calls Tryz.prog 28 #[.pointer (some ⟨P, 0, none⟩)] w fun e w' => e = .returned (.agg #[.int .i64 (t.k : Int), .string y, .int .i64 (t.p : Int)]) ∧ Below w.heap.size w w') := first_y w P T o c t l h y hy
  have HPI : Hid (∀ W, Below w.heap.size w W → Calls Tryz.prog 114 #[.string y, .int .i64 10, .int .i64 64] W fun e w' => (∃ (x : Int) (N : Nat), e = .returned (.tuple #[.int .i64 x, .iface 196 (.pointer (some ⟨N, 0, none⟩))])) ∧ Below w.heap.size w w') := fun W hb => by
    have heW := he.below hb
    rcases hp : Lib.parseIntB 64 y.data.toList with v | _ | _
    · exact absurd (by rw [← hyt]; exact hp) (hv v)
    · obtain ⟨tp, q, hq⟩ := heW.syn
      exact (Tryz.strconv_ParseInt_10_at64_syntax_var y (by omega) hp tp q W hq).mono fun e w' ⟨N, a, _, _, b⟩ => ⟨⟨_, N, a⟩, hb.trans (b.mono hb.size)⟩
    · obtain ⟨tp, q, hq⟩ := heW.rng
      exact (Tryz.strconv_ParseInt_10_at64_range_var y (by omega) hp tp q W hq).mono fun e w' ⟨N, a, _, _, b⟩ => ⟨⟨_, N, a⟩, hb.trans (b.mono hb.size)⟩
  have HF : Hid (∀ W, Below w.heap.size w W → Calls Tryz.prog 29 #[.pointer (some ⟨P, 0, none⟩), .int .i64 4] W fun e w' => (∃ a, e = .returned (.pointer (some ⟨a, 0, none⟩)) ∧ w'.heap[a]? = some (.cells #[.int .i64 4, .int .i64 (t.p : Int)] 78)) ∧ Below w.heap.size w w') := fun W hb => (fault_any W P T o c t l (h.below hb) 4).mono fun e w' ⟨a, b⟩ => ⟨a, hb.trans (b.mono hb.size)⟩
  have h1 := fld1
  clear h hy hyt hys hv he
  go_enter Tryz.func113, Tryz.ntmps113
  go_wp2_with (first
    | (go_at_call 28; refine HF1.out.mono ?_; rintro e w1 ⟨rfl, hb⟩; have HB : Hid (Below w.heap.size w w1) := hb; clear hb)
    | (go_at_call 114; refine (HPI.out _ HB.out).mono ?_; rintro e w2 ⟨⟨x, N, rfl⟩, hb⟩; have HB2 : Hid (Below w.heap.size w w2) := hb; clear hb)
    | (go_at_call 29; refine (HF.out _ HB2.out).mono ?_; rintro e w3 ⟨⟨a, rfl, ha⟩, hb⟩; have HT : Hid (w3.heap[a]? = some (.cells #[.int .i64 4, .int .i64 (t.p : Int)] 78)) := ha; have HB3 : Hid (Below w.heap.size w w3) := hb; clear ha hb))
  exact ⟨rfl, ⟨a, rfl, HT.out⟩, HB3.out⟩
end Go.Proofs.YtpakgaegckkmnaaGreatDoor
