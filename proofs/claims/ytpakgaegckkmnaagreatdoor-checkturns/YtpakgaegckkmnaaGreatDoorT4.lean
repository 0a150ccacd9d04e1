/- Package tree's tokenAt, walked: marks, and what is none. -/
import Derived.Test.YtpakgaegckkmnaaGreatDoorT3
import Derived.WalkLawsBesides
namespace Go.Proofs.YtpakgaegckkmnaaGreatDoor
set_option linter.unusedVariables false
set_option linter.unusedSimpArgs false
open Go Go.RowKit

theorem find_at : ∀ (l : List By) (r m : By), l.find? (·.isPrefixOf r) = some m → ∃ J, J < l.length ∧ l.getD J [] = m ∧ m.isPrefixOf r = true ∧ ∀ j, j < J → (l.getD j []).isPrefixOf r = false
  | [], r, m, h => by simp at h
  | x :: l, r, m, h => by
    rw [List.find?_cons] at h
    cases hx : x.isPrefixOf r with
    | true =>
      rw [hx] at h
      injection h with h
      subst h
      exact ⟨0, by simp, rfl, hx, fun j hj => by omega⟩
    | false =>
      rw [hx] at h
      obtain ⟨J, h1, h2, h3, h4⟩ := find_at l r m h
      refine ⟨J + 1, by simp; omega, by simpa using h2, h3, fun j hj => ?_⟩
      cases j with
      | zero => simpa using hx
      | succ j => simpa using h4 j (by omega)
theorem find_no : ∀ (l : List By) (r : By), l.find? (·.isPrefixOf r) = none → ∀ j, j < l.length → (l.getD j []).isPrefixOf r = false
  | [], r, h, j, hj => by simp at hj
  | x :: l, r, h, j, hj => by
    rw [List.find?_cons] at h
    cases hx : x.isPrefixOf r with
    | true => rw [hx] at h; cases h
    | false =>
      rw [hx] at h
      cases j with
      | zero => simpa using hx
      | succ j => simpa using find_no l r h j (by simpa using hj)

def MkPost (J k : Nat) (e : Ending) (w' : World) : Prop := if J < 24 then e = .returned (.agg #[.int .i64 1, str (marksL.getD J []), .int .i64 k]) else Threw 3 k e w'
set_option maxRecDepth 100000 in
set_option maxHeartbeats 4000000 in
theorem tokenAt_mark (s : ByteArray) (k b : Nat) (w : World) (he : Env w) (hk : k ≤ s.size) (J : Nat) (hJ : J ≤ 24)
    (H1 : Hid (∀ W, Calls Tryz.prog 41 #[.string (s.extract k s.size), .string setD] W fun e w' => e = .returned (.string ⟨#[]⟩) ∧ Below W.heap.size W w'))
    (H2 : Hid (∀ W, Calls Tryz.prog 41 #[.string (s.extract k s.size), .string setW] W fun e w' => e = .returned (.string ⟨#[]⟩) ∧ Below W.heap.size W w'))
    (hno : ∀ j, j < J → (marksL.getD j []).isPrefixOf (s.extract k s.size).data.toList = false)
    (hyes : J < 24 → (marksL.getD J []).isPrefixOf (s.extract k s.size).data.toList = true) :
    Calls Tryz.prog 27 #[.string s, .int .i64 k, .map (some b)] w fun e w' => MkPost J k e w' ∧ Below w.heap.size w w' := by
  unfold setD setW at *
  have HNo : Hid (∀ j, j < J → (marksL.getD j []).isPrefixOf (s.extract k s.size).data.toList = false) := hno
  have HYes : Hid (J < 24 → (marksL.getD J []).isPrefixOf (s.extract k s.size).data.toList = true) := hyes
  have HE : Hid (∀ w', Below w.heap.size w w' → Env w') := fun w' hb => he.below hb
  have HPf : Hid (∀ (j : Nat) (W : World), Calls Tryz.prog 42 #[.string (s.extract k s.size), str (marksL.getD j [])] W fun e w' => e = .returned (.bool ((marksL.getD j []).isPrefixOf (s.extract k s.size).data.toList)) ∧ w' = W) := fun j W => Tryz.strings_HasPrefix (s.extract k s.size) ⟨(marksL.getD j []).toArray⟩ W
  clear hno hyes he
  go_enter Tryz.func27, Tryz.ntmps27
  go_wp2_with (go_at_call 41; fail)
  refine (H1.out _).mono ?_
  rintro e w1 ⟨rfl, hb1⟩
  have HB1 : Hid (Below w.heap.size w w1) := ((Below.refl _ _).alloc (Nat.le_refl _) _).trans (hb1.mono (by simp))
  have HX1 : Hid (w1.heap[w.heap.size]? = some (.cells #[.int .i64 0, .string ⟨#[]⟩, .int .i64 0] 75)) := by show _ = _; rw [hb1.block _ (by simp)]; exact heap_alloc_last w _
  clear hb1
  go_wp2_with (go_at_call 41; fail)
  refine (H2.out _).mono ?_
  rintro e w2 ⟨rfl, hb2⟩
  have HB2 : Hid (Below w.heap.size w w2) := HB1.out.trans (hb2.mono HB1.out.size)
  have HX2 : Hid (w2.heap[w.heap.size]? = some (.cells #[.int .i64 0, .string ⟨#[]⟩, .int .i64 0] 75)) := by show _ = _; rw [hb2.block _ (Array.getElem?_eq_some_iff.1 HX1.out).1]; exact HX1.out
  have HMk : Hid (w2.rangeAt 1 0 (marksL.map str)) := (HE.out w2 HB2.out).marks
  obtain ⟨_, c0, c1, c2, f0, f1, f2⟩ := tkAt HX2.out
  have hlt : w.heap.size < w2.heap.size := (Array.getElem?_eq_some_iff.1 HX2.out).1
  clear hb2 HX1 HB1
  go_wp2_with (refine wpList_load_mid rfl 107 _ rfl 1 0 rfl _ _ HMk.out Tryz.underlying107 rfl (by kernel_rfl) ?_)
  clear HMk
  go_loopw [33] (fun i wr => ∃ j : Nat, j ≤ J ∧ i = .int .i64 j ∧ wr = w2) (fun i _ => 24 - (intOf i).toNat)
  case atStart => exact ⟨0, Nat.zero_le _, rfl, rfl⟩
  case round =>
    obtain ⟨j, hj, rfl, rfl⟩ := hrel
    by_cases hlt2 : j < J
    · have hj24 : j < 24 := by omega
      have hix := ix_mark j hj24
      have HP : Hid (∀ W, Calls Tryz.prog 42 #[.string (s.extract k s.size), str (marksL.getD j [])] W fun e w' => e = .returned (.bool false) ∧ w' = W) := fun W => by
        have := HPf.out j W
        rw [HNo.out j hlt2] at this
        exact this
      generalize marksL.getD j [] = mj at *
      go_wp2_with (go_at_call 42; refine (HP.out _).mono ?_; rintro e w3 ⟨rfl, rfl⟩)
      exact ⟨⟨j + 1, by omega, by go_num, trivial⟩, by simp [intOf]; omega⟩
    · obtain rfl : j = J := by omega
      by_cases hj24 : j < 24
      · have HPo : Hid (∀ e w', e = .returned (.agg #[.int .i64 1, str (marksL.getD j []), .int .i64 k]) → MkPost j k e w') := fun e w' h => by unfold MkPost; rw [if_pos hj24]; exact h
        have hix := ix_mark j hj24
        have HP : Hid (∀ W, Calls Tryz.prog 42 #[.string (s.extract k s.size), str (marksL.getD j [])] W fun e w' => e = .returned (.bool true) ∧ w' = W) := fun W => by
          have := HPf.out j W
          rw [HYes.out hj24] at this
          exact this
        generalize marksL.getD j [] = mj at *
        go_wp2_with (go_at_call 42; refine (HP.out _).mono ?_; rintro e w3 ⟨rfl, rfl⟩)
        exact bodyPost_ret (resTok Tryz.results27 _ _ w.heap.size _ _ _ rfl (tk_set HX2.out _ _ _)) rfl ⟨HPo.out _ _ rfl, below_set3 HB2.out (Nat.le_refl _) _ _ _⟩
      · obtain rfl : j = 24 := by omega
        have HPo : Hid (∀ e w', Threw 3 k e w' → MkPost 24 k e w') := fun e w' h => by unfold MkPost; rw [if_neg (by omega)]; exact h
        go_wp2
        exact ⟨rfl, HPo.out _ _ ⟨_, rfl, heap_alloc_last wr _⟩, HB2.out.alloc (Nat.le_of_lt hlt) _⟩

/-- tokenAt, at any place. -/
theorem tokenAt_yes (s : ByteArray) (k b : Nat) (w : World) (he : Env w) (hm : MpAt w b 12 wdP) (hk : k ≤ s.size) (hs : s.size ≤ 1000000) (kd : Nat) (t : By) (h : oneTok (s.data.toList.drop k) = some (kd, t)) :
    Calls Tryz.prog 27 #[.string s, .int .i64 k, .map (some b)] w fun e w' => e = .returned (.agg #[.int .i64 (kd : Int), str t, .int .i64 k]) ∧ Below w.heap.size w w' := by
  have hex : (s.extract k s.size).data.toList = s.data.toList.drop k := Lib.extract_to_end s k
  have hrs : (s.extract k s.size).size ≤ 1000000 := by
    have e : (s.extract k s.size).size = (s.extract k s.size).data.toList.length := by simp
    have e2 : s.data.toList.length = s.size := by simp
    rw [e, hex, List.length_drop]; omega
  have H1 : Hid (∀ W, Calls Tryz.prog 41 #[.string (s.extract k s.size), .string setD] W fun e w' => e = .returned (str (runV (s.data.toList.drop k) digs)) ∧ Below W.heap.size W w') := fun W => by
    rw [← hex]; exact run_any (s.extract k s.size) setD W (by decide) hrs (by decide)
  have H2 : Hid (∀ W, Calls Tryz.prog 41 #[.string (s.extract k s.size), .string setW] W fun e w' => e = .returned (str (runV (s.data.toList.drop k) (lets ++ digs))) ∧ Below W.heap.size W w') := fun W => by
    rw [← hex]; exact run_any (s.extract k s.size) setW W (by decide) hrs (by decide)
  have hlk : ∀ W, Below w.heap.size w W → (Instr.lookup 70 (.map (some b)) (.string ⟨(runV (s.data.toList.drop k) (lets ++ digs)).toArray⟩) false).run Tryz.prog W = .ok (.int .i64 ((if wordsL.contains (runV (s.data.toList.drop k) (lets ++ digs)) then 1 else 0 : Nat) : Int)) W := fun W hb => by
    have := mp_look (hm.below hb) ⟨(runV (s.data.toList.drop k) (lets ++ digs)).toArray⟩ (by
      have h1 : (runV (s.data.toList.drop k) (lets ++ digs)).length ≤ (s.data.toList.drop k).length := (List.takeWhile_prefix _).length_le
      have e2 : s.data.toList.length = s.size := by simp
      rw [List.length_drop] at h1
      simp [ByteArray.size]
      unfold maxLen; omega)
    simpa using this
  unfold oneTok at h
  by_cases hd : runV (s.data.toList.drop k) digs = []
  · rw [if_neg (by simpa using hd)] at h
    have e0 : str (runV (s.data.toList.drop k) digs) = .string ⟨#[]⟩ := by rw [hd]
    by_cases hv : runV (s.data.toList.drop k) (lets ++ digs) = []
    · rw [if_neg (by simpa using hv)] at h
      obtain ⟨m, hfm, he2⟩ := Option.map_eq_some_iff.1 h
      injection he2 with h1 h2
      subst h1; subst h2
      obtain ⟨J, j1, j2, j3, j4⟩ := find_at _ _ _ hfm
      have e1 : str (runV (s.data.toList.drop k) (lets ++ digs)) = .string ⟨#[]⟩ := by rw [hv]
      rw [e0] at H1
      rw [e1] at H2
      have j1' : J < 24 := j1
      refine (tokenAt_mark s k b w he hk J (by omega) H1 H2 (fun j hj => by rw [hex]; exact j4 j hj) (fun _ => by rw [hex, j2]; exact j3)).mono ?_
      rintro e w' ⟨a, b⟩
      unfold MkPost at a
      rw [if_pos j1', j2] at a
      exact ⟨a, b⟩
    · rw [if_pos hv] at h
      injection h with h
      injection h with h1 h2
      subst h1; subst h2
      rw [e0] at H1
      refine (tokenAt_core s k b w ⟨#[]⟩ _ _ he hk H1 H2 hlk (.inr ⟨rfl, str_ne hv⟩)).mono ?_
      rintro e w' ⟨a, b⟩
      rw [if_neg (by simp)] at a
      exact ⟨a, b⟩
  · rw [if_pos hd] at h
    injection h with h
    injection h with h1 h2
    subst h1; subst h2
    refine (tokenAt_core s k b w _ _ _ he hk H1 H2 hlk (.inl (str_ne hd))).mono ?_
    rintro e w' ⟨a, b⟩
    rw [if_pos (str_ne hd)] at a
    exact ⟨a, b⟩
theorem tokenAt_no (s : ByteArray) (k b : Nat) (w : World) (he : Env w) (hk : k ≤ s.size) (hs : s.size ≤ 1000000) (h : oneTok (s.data.toList.drop k) = none) :
    Calls Tryz.prog 27 #[.string s, .int .i64 k, .map (some b)] w fun e w' => Threw 3 k e w' ∧ Below w.heap.size w w' := by
  have hex : (s.extract k s.size).data.toList = s.data.toList.drop k := Lib.extract_to_end s k
  have hrs : (s.extract k s.size).size ≤ 1000000 := by
    have e : (s.extract k s.size).size = (s.extract k s.size).data.toList.length := by simp
    have e2 : s.data.toList.length = s.size := by simp
    rw [e, hex, List.length_drop]; omega
  have H1 : Hid (∀ W, Calls Tryz.prog 41 #[.string (s.extract k s.size), .string setD] W fun e w' => e = .returned (str (runV (s.data.toList.drop k) digs)) ∧ Below W.heap.size W w') := fun W => by
    rw [← hex]; exact run_any (s.extract k s.size) setD W (by decide) hrs (by decide)
  have H2 : Hid (∀ W, Calls Tryz.prog 41 #[.string (s.extract k s.size), .string setW] W fun e w' => e = .returned (str (runV (s.data.toList.drop k) (lets ++ digs))) ∧ Below W.heap.size W w') := fun W => by
    rw [← hex]; exact run_any (s.extract k s.size) setW W (by decide) hrs (by decide)
  unfold oneTok at h
  by_cases hd : runV (s.data.toList.drop k) digs = []
  · rw [if_neg (by simpa using hd)] at h
    by_cases hv : runV (s.data.toList.drop k) (lets ++ digs) = []
    · rw [if_neg (by simpa using hv)] at h
      have hf : marksL.find? (·.isPrefixOf (s.data.toList.drop k)) = none := by simpa using h
      have e0 : str (runV (s.data.toList.drop k) digs) = .string ⟨#[]⟩ := by rw [hd]
      have e1 : str (runV (s.data.toList.drop k) (lets ++ digs)) = .string ⟨#[]⟩ := by rw [hv]
      rw [e0] at H1
      rw [e1] at H2
      refine (tokenAt_mark s k b w he hk 24 (by omega) H1 H2 (fun j hj => by rw [hex]; exact find_no _ _ hf j hj) (fun h => by omega)).mono ?_
      rintro e w' ⟨a, b⟩
      unfold MkPost at a
      rw [if_neg (by omega)] at a
      exact ⟨a, b⟩
    · rw [if_pos hv] at h; cases h
  · rw [if_pos hd] at h; cases h
end Go.Proofs.YtpakgaegckkmnaaGreatDoor
