/- QD QE QF -/
import Derived.Test.YtjmbjpimabnohaaDoorK04
namespace Go.Proofs.YtjmbjpimabnohaaDoor.Mid
set_option linter.unusedVariables false
set_option linter.unusedSimpArgs false
open Go Go.RowKit
def plT (t : Int) : Bool := t == 1 || t == 2
def placesB (F : Mf) : Bool := decide (0 ≤ F.params) && (decide (F.params ≤ F.types.length) && (decide (F.types.length ≤ 3000) && F.types.all plT))
def LkP (b : Bool) (w : World) (e : Ending) (w' : World) : Prop := e = .returned (.bool b) ∧ Below w.heap.size w w'
theorem pl_1 {F : Mf} (h : F.params < 0) : placesB F = false := by unfold placesB; rw [decide_eq_false (by omega)]; rfl
theorem pl_2 {F : Mf} (h : (F.types.length : Int) < F.params) : placesB F = false := by unfold placesB; rw [decide_eq_false (p := F.params ≤ F.types.length) (by omega)]; simp
theorem pl_3 {F : Mf} (h : 3000 < F.types.length) : placesB F = false := by unfold placesB; rw [decide_eq_false (p := F.types.length ≤ 3000) (by omega)]; simp
theorem pl_4 {F : Mf} (h1 : ¬ F.params < 0) (h2 : ¬ (F.types.length : Int) < F.params) (h3 : ¬ 3000 < F.types.length) : placesB F = F.types.all plT := by
  unfold placesB; rw [decide_eq_true (p := 0 ≤ F.params) (by omega), decide_eq_true (p := F.params ≤ F.types.length) (by omega), decide_eq_true (p := F.types.length ≤ 3000) (by omega)]; simp
theorem all_bad {l : List Int} {i : Nat} {x : Int} (h : l[i]? = some x) (hx : plT x = false) : l.all plT = false := by
  rw [List.all_eq_false]
  exact ⟨x, List.mem_of_getElem? h, by simp [hx]⟩
set_option maxRecDepth 100000 in
set_option maxHeartbeats 4000000 in
theorem places_any (w : World) (fb fo : Nat) (F : Mf) (h : FnAt w fb fo F) : Calls Tryd.prog 23 #[.pointer (some ⟨fb, fo, none⟩)] w (LkP (placesB F) w) := by
  have k1 := h.c1
  obtain ⟨v, k2, q, c, rfl, hl6, hI, hcells⟩ := h.c2
  have d1 : w.drew.cell? ⟨fb, fo + 1, none⟩ = some (.int .i64 F.params) := k1
  have d2 : w.drew.cell? ⟨fb, fo + 2, none⟩ = some (.slice q F.types.length c) := k2
  obtain ⟨pa, hpa⟩ : ∃ pa, F.params = pa := ⟨_, rfl⟩
  obtain ⟨n, hn⟩ : ∃ n, F.types.length = n := ⟨_, rfl⟩
  rw [hpa] at k1 d1
  rw [hn] at k2 d2 hl6
  have HI : Hid (F.params = pa ∧ F.types.length = n) := ⟨hpa, hn⟩
  have HC : Hid (F.types = [] ∨ ∃ g o, q = some ⟨g, o, none⟩ ∧ ∀ j x, F.types[j]? = some x → w.cell? ⟨g, o + j, none⟩ = some (.int .i64 x)) := hcells
  generalize hG : LkP (placesB F) w = G
  have HG : Hid (LkP (placesB F) w = G) := hG
  clear hG hcells hI h hpa hn
  by_cases h1 : pa < 0
  · have HE : Hid (G (.returned (.bool false)) w.drew) := by show G _ _; rw [← HG.out, pl_1 (by rw [HI.out.1]; exact h1)]; exact ⟨rfl, (Below.refl _ _).drew⟩
    have t1 : decide (pa < 0) = true := decide_eq_true h1
    clear h1
    go_enter Tryd.func23, Tryd.ntmps23
    go_wp2_with fail
    go_region
    go_wp2
    exact HE.out
  by_cases h2 : (n : Int) < pa
  · have HE : Hid (G (.returned (.bool false)) w.drew) := by show G _ _; rw [← HG.out, pl_2 (by rw [HI.out.1, HI.out.2]; exact h2)]; exact ⟨rfl, (Below.refl _ _).drew⟩
    have t1 : decide (pa < 0) = false := decide_eq_false h1
    have t2 : decide ((n : Int) < pa) = true := decide_eq_true h2
    clear h1 h2
    go_enter Tryd.func23, Tryd.ntmps23
    go_wp2_with fail
    go_region
    go_wp2
    exact HE.out
  by_cases h3 : 3000 < n
  · have HE : Hid (G (.returned (.bool false)) w.drew) := by show G _ _; rw [← HG.out, pl_3 (by rw [HI.out.2]; exact h3)]; exact ⟨rfl, (Below.refl _ _).drew⟩
    have t1 : decide (pa < 0) = false := decide_eq_false h1
    have t2 : decide ((n : Int) < pa) = false := decide_eq_false h2
    have t3 : decide ((3000 : Int) < n) = true := decide_eq_true (by omega)
    clear h1 h2 h3
    go_enter Tryd.func23, Tryd.ntmps23
    go_wp2_with fail
    go_region
    go_wp2
    exact HE.out
  have HP : Hid (placesB F = F.types.all plT) := pl_4 (by rw [HI.out.1]; exact h1) (by rw [HI.out.1, HI.out.2]; exact h2) (by rw [HI.out.2]; exact h3)
  have t1 : decide (pa < 0) = false := decide_eq_false h1
  have t2 : decide ((n : Int) < pa) = false := decide_eq_false h2
  have t3 : decide ((3000 : Int) < n) = false := decide_eq_false (by omega)
  clear h1 h2 h3
  go_enter Tryd.func23, Tryd.ntmps23
  go_wp2_with fail
  go_region
  go_wp2_with fail
  go_loopw [35] (fun v wr => ∃ i : Nat, i ≤ n ∧ v = .int .i64 i ∧ wr = w.drew ∧ Hid ((F.types.take i).all plT = true)) (fun v _ => n - (intOf v).toNat)
  case atStart => exact ⟨0, Nat.zero_le _, rfl, rfl, (by show _ = _; simp)⟩
  case round =>
    obtain ⟨i, hin, rfl, rfl, HA⟩ := hrel
    by_cases hlt2 : i < n
    · obtain ⟨x, hx⟩ : ∃ x, F.types[i]? = some x := ⟨F.types[i]'(by rw [HI.out.2]; exact hlt2), List.getElem?_eq_getElem _⟩
      obtain ⟨g, p, rfl, hcs⟩ : ∃ g o, q = some ⟨g, o, none⟩ ∧ ∀ j x, F.types[j]? = some x → w.cell? ⟨g, o + j, none⟩ = some (.int .i64 x) := by
        rcases HC.out with h | h
        · rw [h] at hx; simp at hx
        · exact h
      have k3 : w.drew.cell? ⟨g, p + i, none⟩ = some (.int .i64 x) := hcs i x hx
      have hl9 : (i : Int) < (n : Int) := by omega
      have HX : Hid (F.types[i]? = some x) := hx
      clear hcs hx
      cases ht : plT x with
      | true =>
        have HA2 : Hid ((F.types.take (i + 1)).all plT = true) := by show _ = _; rw [take_snoc HX.out, List.all_append, HA.out]; simp [ht]
        have tx : x = 1 ∨ x = 2 := by simpa [plT] using ht
        clear ht
        rcases tx with rfl | rfl
        · go_wp2
          exact ⟨⟨i + 1, by omega, by go_num, by trivial, HA2⟩, by simp [intOf]; omega⟩
        · go_wp2
          exact ⟨⟨i + 1, by omega, by go_num, by trivial, HA2⟩, by simp [intOf]; omega⟩
      | false =>
        have HE : Hid (G (.returned (.bool false)) w.drew) := by show G _ _; rw [← HG.out, HP.out, all_bad HX.out ht]; exact ⟨rfl, (Below.refl _ _).drew⟩
        have tx : (x == 1) = false ∧ (x == 2) = false := by simpa [plT] using ht
        obtain ⟨tx1, tx2⟩ := tx
        have tx3 : (x != 1) = true := by simp [bne, tx1]
        have tx4 : (x != 2) = true := by simp [bne, tx2]
        clear ht
        go_wp2
        exact HE.out
    · have hin2 : i = n := by omega
      subst hin2
      have HE : Hid (G (.returned (.bool true)) w.drew) := by
        show G _ _
        have e : F.types.take i = F.types := by rw [← HI.out.2, List.take_length]
        have := HA.out
        rw [e] at this
        rw [← HG.out, HP.out, this]
        exact ⟨rfl, (Below.refl _ _).drew⟩
      go_wp2
      exact HE.out
def isB (F : Mf) (p k : Int) : Bool := decide (0 ≤ p ∧ p < F.types.length) && (F.types.getD p.toNat 0 == k)
def hasB (F : Mf) (p k : Int) : Bool := k == 0 || isB F p k
def LqP (b : Bool) (w : World) (e : Ending) (w' : World) : Prop := e = .returned (.bool b) ∧ w' = w
def BoxF (w : World) (bf : Nat) (F : Mf) : Prop := ∃ fb fo, w.cell? ⟨bf, 0, none⟩ = some (.pointer (some ⟨fb, fo, none⟩)) ∧ FnAt w fb fo F
theorem is_1 {F : Mf} {p k : Int} (h : p < 0) : isB F p k = false := by unfold isB; rw [decide_eq_false (by omega)]; rfl
theorem is_2 {F : Mf} {p k : Int} (h : ¬ p < F.types.length) : isB F p k = false := by unfold isB; rw [decide_eq_false (by omega)]; rfl
theorem is_3 {F : Mf} {p : Nat} {x k : Int} (h : F.types[p]? = some x) : isB F (p : Int) k = (x == k) := by
  have := (List.getElem?_eq_some_iff.1 h).1
  unfold isB
  rw [decide_eq_true (by omega), Bool.true_and, Int.toNat_natCast, List.getD_eq_getElem?_getD, h]
  rfl
set_option maxRecDepth 100000 in
set_option maxHeartbeats 1000000 in
theorem is_any (w : World) (bf : Nat) (F : Mf) (p k : Int) (h : BoxF w bf F) : Calls Tryd.prog 52 #[.int .i64 p, .int .i64 k, ptr bf] w (LqP (isB F p k) w) := by
  obtain ⟨fb, fo, k0, hf⟩ := h
  obtain ⟨v, k2, q, c, rfl, hl6, hI, hcells⟩ := hf.c2
  obtain ⟨n, hn⟩ : ∃ n, F.types.length = n := ⟨_, rfl⟩
  rw [hn] at k2 hl6
  have HN : Hid (F.types.length = n) := hn
  generalize hG : LqP (isB F p k) w = G
  have HG : Hid (LqP (isB F p k) w = G) := hG
  clear hG hf hI hn
  by_cases h1 : p < 0
  · have HE : Hid (G (.returned (.bool false)) w) := by show G _ _; rw [← HG.out, is_1 h1]; exact ⟨rfl, rfl⟩
    have t1 : decide (0 ≤ p) = false := decide_eq_false (by omega)
    clear h1 hcells
    go_enter Tryd.func52, Tryd.ntmps52
    go_wp2
    exact HE.out
  · obtain ⟨i, rfl⟩ : ∃ i : Nat, p = i := ⟨p.toNat, by omega⟩
    by_cases h2 : i < n
    · obtain ⟨x, hx⟩ : ∃ x, F.types[i]? = some x := ⟨F.types[i]'(by rw [HN.out]; exact h2), List.getElem?_eq_getElem _⟩
      obtain ⟨g, o, rfl, hcs⟩ : ∃ g o, q = some ⟨g, o, none⟩ ∧ ∀ j x, F.types[j]? = some x → w.cell? ⟨g, o + j, none⟩ = some (.int .i64 x) := by
        rcases hcells with h | h
        · rw [h] at hx; simp at hx
        · exact h
      have k3 := hcs i x hx
      have HE : Hid (G (.returned (.bool (x == k))) w) := by show G _ _; rw [← HG.out, is_3 hx]; exact ⟨rfl, rfl⟩
      have hl9 : (i : Int) < (n : Int) := by omega
      clear hcs hx hcells
      go_enter Tryd.func52, Tryd.ntmps52
      go_wp2
      exact HE.out
    · have HE : Hid (G (.returned (.bool false)) w) := by show G _ _; rw [← HG.out, is_2 (by rw [HN.out]; omega)]; exact ⟨rfl, rfl⟩
      have t1 : decide ((i : Int) < (n : Int)) = false := decide_eq_false (by omega)
      have t2 : decide (i < n) = false := decide_eq_false (by omega)
      clear h1 hcells
      go_enter Tryd.func52, Tryd.ntmps52
      go_wp2
      exact HE.out
abbrev isV (bf : Nat) : Value := .func (.func 52) #[] #[ptr bf]
set_option maxRecDepth 100000 in
set_option maxHeartbeats 1000000 in
theorem has_any (w : World) (bf bi : Nat) (F : Mf) (p k : Int) (h : BoxF w bf F) (hi : w.cell? ⟨bi, 0, none⟩ = some (isV bf)) : Calls Tryd.prog 53 #[.int .i64 p, .int .i64 k, ptr bi] w (LqP (hasB F p k) w) := by
  generalize hG : LqP (hasB F p k) w = G
  have HG : Hid (LqP (hasB F p k) w = G) := hG
  have HC : Hid (∀ W, W = w → Calls Tryd.prog 52 #[.int .i64 p, .int .i64 k, ptr bf] W (LqP (isB F p k) W)) := fun W e => by subst e; exact is_any W bf F p k h
  clear h hG
  by_cases h0 : k = 0
  · subst h0
    have HE : Hid (G (.returned (.bool true)) w) := by show G _ _; rw [← HG.out]; exact ⟨rfl, rfl⟩
    go_enter Tryd.func53, Tryd.ntmps53
    go_wp2
    exact HE.out
  · have t0 : (k == 0) = false := by simpa using h0
    have HE : Hid (G (.returned (.bool (isB F p k))) w) := by show G _ _; rw [← HG.out]; unfold hasB; rw [t0]; exact ⟨rfl, rfl⟩
    clear h0
    go_enter Tryd.func53, Tryd.ntmps53
    go_wp2_with (go_at_call 52; refine (HC.out _ rfl).mono ?_; rintro e w' ⟨rfl, rfl⟩)
    exact HE.out
def marksL : List By := [[43], [45], [42], [47], [37], [61, 61], [33, 61], [60], [60, 61], [62], [62, 61]]
def markB (op : By) : Bool := marksL.contains op
abbrev marksV : Array Value := #[.string ⟨#[43]⟩, .string ⟨#[45]⟩, .string ⟨#[42]⟩, .string ⟨#[47]⟩, .string ⟨#[37]⟩, .string ⟨#[61, 61]⟩, .string ⟨#[33, 61]⟩, .string ⟨#[60]⟩, .string ⟨#[60, 61]⟩, .string ⟨#[62]⟩, .string ⟨#[62, 61]⟩]
def MkE (w : World) : Prop := ∀ j, j < 11 → w.cell? ⟨1, j, none⟩ = some (marksV.getD j undef)
theorem mk_ix (i : Nat) (hi : i < 11) (w : World) : (Instr.index 138 (.agg marksV) (.int .i64 (i : Int))).run Tryd.prog w = .ok (.string ⟨(marksL.getD i []).toArray⟩) w := by
  have h : i = 0 ∨ i = 1 ∨ i = 2 ∨ i = 3 ∨ i = 4 ∨ i = 5 ∨ i = 6 ∨ i = 7 ∨ i = 8 ∨ i = 9 ∨ i = 10 := by omega
  rcases h with rfl | rfl | rfl | rfl | rfl | rfl | rfl | rfl | rfl | rfl | rfl <;> (show _ = _; kernel_rfl)
theorem mark_get (i : Nat) (hi : i < 11) : marksL[i]? = some (marksL.getD i []) := by
  rw [List.getD_eq_getElem?_getD]
  have : i < marksL.length := hi
  rw [List.getElem?_eq_getElem this]
  rfl
theorem mark_yes {op : By} {i : Nat} (hi : i < 11) (h : marksL.getD i [] = op) : markB op = true := by
  unfold markB
  rw [List.contains_iff_mem]
  rw [← h]
  exact List.mem_of_getElem? (mark_get i hi)
theorem mark_no {op : By} (h : ∀ i, i < 11 → marksL.getD i [] ≠ op) : markB op = false := by
  rw [Bool.eq_false_iff]
  intro e
  unfold markB at e
  rw [List.contains_iff_mem] at e
  obtain ⟨i, hi⟩ := List.getElem?_of_mem e
  have hl : i < 11 := (List.getElem?_eq_some_iff.1 hi).1
  rw [mark_get i hl] at hi
  injection hi with hi
  exact h i hl hi
set_option maxRecDepth 100000 in
set_option maxHeartbeats 1000000 in
theorem mark_any (w : World) (y : ByteArray) (h : MkE w) : Calls Tryd.prog 54 #[.string y] w (LqP (markB y.data.toList) w) := by
  have m0 := h 0 (by omega)
  have m1 := h 1 (by omega)
  have m2 := h 2 (by omega)
  have m3 := h 3 (by omega)
  have m4 := h 4 (by omega)
  have m5 := h 5 (by omega)
  have m6 := h 6 (by omega)
  have m7 := h 7 (by omega)
  have m8 := h 8 (by omega)
  have m9 := h 9 (by omega)
  have m10 := h 10 (by omega)
  simp only [marksV, Array.getD_eq_getD_getElem?, List.getElem?_toArray, List.getElem?_cons_zero, List.getElem?_cons_succ, Option.getD_some] at m0 m1 m2 m3 m4 m5 m6 m7 m8 m9 m10
  generalize hG : LqP (markB y.data.toList) w = G
  have HG : Hid (LqP (markB y.data.toList) w = G) := hG
  clear h hG
  go_enter Tryd.func54, Tryd.ntmps54
  go_wp2_with fail
  go_loopw [6] (fun v wr => ∃ i : Nat, i ≤ 11 ∧ v = .int .i64 i ∧ wr = w ∧ Hid (∀ j, j < i → marksL.getD j [] ≠ y.data.toList)) (fun v _ => 11 - (intOf v).toNat)
  case atStart => exact ⟨0, Nat.zero_le _, rfl, rfl, fun j hj => by omega⟩
  case round =>
    obtain ⟨i, hin, rfl, rfl, HA⟩ := hrel
    by_cases hlt : i < 11
    · have hx := mk_ix i hlt
      obtain ⟨m, hm⟩ : ∃ m : ByteArray, m = ⟨(marksL.getD i []).toArray⟩ := ⟨_, rfl⟩
      rw [← hm] at hx
      have HM : Hid (marksL.getD i [] = m.data.toList) := by show _ = _; rw [hm]
      have hl9 : (i : Int) < 11 := by omega
      clear hm
      by_cases he : m = y
      · have HE : Hid (G (.returned (.bool true)) wr) := by show G _ _; rw [← HG.out, mark_yes hlt (by rw [HM.out, he])]; exact ⟨rfl, rfl⟩
        subst he
        go_wp2
        exact HE.out
      · have HA2 : Hid (∀ j, j < i + 1 → marksL.getD j [] ≠ y.data.toList) := fun j hj => by
          by_cases e : j = i
          · subst e
            rw [HM.out]
            intro e2
            exact he (by cases m; cases y; congr 1; exact Array.ext' e2)
          · exact HA.out j (by omega)
        have he2 : (m.toList == y.toList) = false := by
          rw [← tl_eq, ← tl_eq, Bool.eq_false_iff]
          intro e
          have e2 : m.data.toList = y.data.toList := by simpa using e
          exact he (by cases m; cases y; congr 1; exact Array.ext' e2)
        go_wp2
        exact ⟨⟨i + 1, by omega, by go_num, by trivial, HA2⟩, by simp [intOf]; omega⟩
    · have hin2 : i = 11 := by omega
      subst hin2
      have HE : Hid (G (.returned (.bool false)) wr) := by show G _ _; rw [← HG.out, mark_no HA.out]; exact ⟨rfl, rfl⟩
      go_wp2
      exact HE.out
def LdP (b : Bool) (w : World) (e : Ending) (w' : World) : Prop := e = .returned (.bool b) ∧ w' = w.drew
def fitsB (F : Mf) (G : Option Mf) (l : List Int) : Bool := match G with
  | none => false
  | some G => decide ((l.length : Int) = G.params) && (l.zip G.types).all (fun p => isB F p.1 p.2)
theorem fits_1 {F G : Mf} {l : List Int} (h : (l.length : Int) ≠ G.params) : fitsB F (some G) l = false := by unfold fitsB; simp [h]
theorem fits_2 {F G : Mf} {l : List Int} (h : (l.length : Int) = G.params) : fitsB F (some G) l = (l.zip G.types).all (fun p => isB F p.1 p.2) := by unfold fitsB; simp [h]
theorem all_bad2 {α : Type} {f : α → Bool} {l : List α} {i : Nat} {x : α} (h : l[i]? = some x) (hx : f x = false) : l.all f = false := by
  rw [List.all_eq_false]
  exact ⟨x, List.mem_of_getElem? h, by simp [hx]⟩
set_option maxRecDepth 100000 in
set_option maxHeartbeats 2000000 in
theorem fits_any (w : World) (sb so bf gb' go : Nat) (s : Ms) (F G : Mf) (hs : StepAt w sb so s) (hb : BoxF w bf F) (hg : FnAt w gb' go G) (hpl : placesB G = true) :
    Calls Tryd.prog 55 #[.pointer (some ⟨sb, so, none⟩), .pointer (some ⟨gb', go, none⟩), isV bf] w (LdP (fitsB F (some G) s.args) w) := by
  obtain ⟨va, k9, qa, ca, rfl, hla, hIa, hca⟩ := hs.c9
  have k1 := hg.c1
  obtain ⟨vt, k2, qt, ct, rfl, hlt, hIt, hct⟩ := hg.c2
  have d9 : w.drew.cell? ⟨sb, so + 9, none⟩ = some (.slice qa s.args.length ca) := k9
  have d1 : w.drew.cell? ⟨gb', go + 1, none⟩ = some (.int .i64 G.params) := k1
  have d2 : w.drew.cell? ⟨gb', go + 2, none⟩ = some (.slice qt G.types.length ct) := k2
  obtain ⟨na, hna⟩ : ∃ na, s.args.length = na := ⟨_, rfl⟩
  obtain ⟨nt, hnt⟩ : ∃ nt, G.types.length = nt := ⟨_, rfl⟩
  obtain ⟨pa, hpa⟩ : ∃ pa, G.params = pa := ⟨_, rfl⟩
  rw [hna] at d9 hla
  rw [hnt] at d2 hlt
  rw [hpa] at d1
  have hple : pa ≤ nt := by
    unfold placesB at hpl
    simp at hpl
    omega
  have HN : Hid (s.args.length = na ∧ G.types.length = nt ∧ G.params = pa) := ⟨hna, hnt, hpa⟩
  have HCa : Hid (s.args = [] ∨ ∃ g o, qa = some ⟨g, o, none⟩ ∧ ∀ j x, s.args[j]? = some x → w.cell? ⟨g, o + j, none⟩ = some (.int .i64 x)) := hca
  have HCt : Hid (G.types = [] ∨ ∃ g o, qt = some ⟨g, o, none⟩ ∧ ∀ j x, G.types[j]? = some x → w.cell? ⟨g, o + j, none⟩ = some (.int .i64 x)) := hct
  have HC : Hid (∀ p k, Calls Tryd.prog 52 #[.int .i64 p, .int .i64 k, ptr bf] w.drew (LqP (isB F p k) w.drew)) := fun p k => is_any w.drew bf F p k (by
    obtain ⟨fb, fo, h1, h2⟩ := hb
    exact ⟨fb, fo, h1, h2.below (Below.refl _ _).drew⟩)
  generalize hGG : LdP (fitsB F (some G) s.args) w = GG
  have HG : Hid (LdP (fitsB F (some G) s.args) w = GG) := hGG
  clear hs hb hg hpl hca hct hIa hIt hna hnt hpa k9 k1 k2 hGG
  by_cases h1 : (na : Int) = pa
  · subst h1
    have HF : Hid (fitsB F (some G) s.args = (s.args.zip G.types).all (fun p => isB F p.1 p.2)) := fits_2 (by rw [HN.out.1, HN.out.2.2])
    have hz : na ≤ nt := by omega
    have HZ : Hid ((s.args.zip G.types).length = na) := by show _ = _; rw [List.length_zip, HN.out.1, HN.out.2.1]; omega
    clear hple
    go_enter Tryd.func55, Tryd.ntmps55
    go_wp2_with fail
    go_region
    go_wp2_with fail
    go_loopw [28] (fun v wr => ∃ i : Nat, i ≤ na ∧ v = .int .i64 i ∧ wr = w.drew ∧ Hid (((s.args.zip G.types).take i).all (fun p => isB F p.1 p.2) = true)) (fun v _ => na - (intOf v).toNat)
    case atStart => exact ⟨0, Nat.zero_le _, rfl, rfl, (by show _ = _; simp)⟩
    case round =>
      obtain ⟨i, hin, rfl, rfl, HA⟩ := hrel
      by_cases hlt2 : i < na
      · obtain ⟨x, hx⟩ : ∃ x, s.args[i]? = some x := ⟨s.args[i]'(by rw [HN.out.1]; exact hlt2), List.getElem?_eq_getElem _⟩
        obtain ⟨t, ht⟩ : ∃ t, G.types[i]? = some t := ⟨G.types[i]'(by rw [HN.out.2.1]; omega), List.getElem?_eq_getElem _⟩
        obtain ⟨g1, o1, rfl, hc1⟩ : ∃ g o, qa = some ⟨g, o, none⟩ ∧ ∀ j x, s.args[j]? = some x → w.cell? ⟨g, o + j, none⟩ = some (.int .i64 x) := by
          rcases HCa.out with h | h
          · rw [h] at hx; simp at hx
          · exact h
        obtain ⟨g2, o2, rfl, hc2⟩ : ∃ g o, qt = some ⟨g, o, none⟩ ∧ ∀ j x, G.types[j]? = some x → w.cell? ⟨g, o + j, none⟩ = some (.int .i64 x) := by
          rcases HCt.out with h | h
          · rw [h] at ht; simp at ht
          · exact h
        have k3 : w.drew.cell? ⟨g1, o1 + i, none⟩ = some (.int .i64 x) := hc1 i x hx
        have k4 : w.drew.cell? ⟨g2, o2 + i, none⟩ = some (.int .i64 t) := hc2 i t ht
        have hl9 : (i : Int) < (na : Int) := by omega
        have hl8 : (i : Int) < (nt : Int) := by omega
        have HX : Hid ((s.args.zip G.types)[i]? = some (x, t)) := by show _ = _; rw [List.getElem?_zip_eq_some]; exact ⟨hx, ht⟩
        clear hc1 hc2 hx ht
        cases hb : isB F x t with
        | true =>
          have HA2 : Hid (((s.args.zip G.types).take (i + 1)).all (fun p => isB F p.1 p.2) = true) := by show _ = _; rw [take_snoc HX.out, List.all_append, HA.out]; simp [hb]
          have HB : Hid (isB F x t = true) := hb
          clear hb
          go_wp2_with (go_at_call 52; refine (HC.out _ _).mono ?_; rintro e w' ⟨rfl, rfl⟩; rw [HB.out])
          exact ⟨⟨i + 1, by omega, by go_num, by trivial, HA2⟩, by simp [intOf]; omega⟩
        | false =>
          have HE : Hid (GG (.returned (.bool false)) w.drew) := by show GG _ _; rw [← HG.out, HF.out, all_bad2 HX.out hb]; exact ⟨rfl, rfl⟩
          have HB : Hid (isB F x t = false) := hb
          clear hb
          go_wp2_with (go_at_call 52; refine (HC.out _ _).mono ?_; rintro e w' ⟨rfl, rfl⟩; rw [HB.out])
          exact HE.out
      · have hin2 : i = na := by omega
        subst hin2
        have HE : Hid (GG (.returned (.bool true)) w.drew) := by
          show GG _ _
          have e : (s.args.zip G.types).take i = s.args.zip G.types := by rw [List.take_of_length_le (by rw [HZ.out]; omega)]
          have := HA.out
          rw [e] at this
          rw [← HG.out, HF.out, this]
          exact ⟨rfl, rfl⟩
        go_wp2
        exact HE.out
  · have HE : Hid (GG (.returned (.bool false)) w.drew) := by show GG _ _; rw [← HG.out, fits_1 (by rw [HN.out.1, HN.out.2.2]; exact h1)]; exact ⟨rfl, rfl⟩
    have t1 : ((na : Int) != pa) = true := by simpa using h1
    clear h1 hple
    go_enter Tryd.func55, Tryd.ntmps55
    go_wp2_with fail
    go_region
    go_wp2
    exact HE.out
set_option maxRecDepth 100000 in
set_option maxHeartbeats 2000000 in
theorem fits_none (w : World) (sb so bf : Nat) (s : Ms) (F : Mf) : Calls Tryd.prog 55 #[.pointer (some ⟨sb, so, none⟩), .pointer none, isV bf] w (LdP (fitsB F none s.args) w) := by
  generalize hGG : LdP (fitsB F none s.args) w = GG
  have HE : Hid (GG (.returned (.bool false)) w.drew) := by show GG _ _; rw [← hGG]; exact ⟨rfl, rfl⟩
  clear hGG
  go_enter Tryd.func55, Tryd.ntmps55
  go_wp2_with fail
  go_region
  go_wp2
  exact HE.out
end Go.Proofs.YtjmbjpimabnohaaDoor.Mid
