/- Package mid, walked: mark, fits. -/
import Derived.Test.YtjmbjpimabnohaaDoorQE
namespace Go.Proofs.YtjmbjpimabnohaaDoor.Mid
set_option linter.unusedVariables false
set_option linter.unusedSimpArgs false
open Go Go.RowKit

def marksL : List By := [[43], [45], [42], [47], [37], [61, 61], [33, 61], [60], [60, 61], [62], [62, 61]]
def markB (op : By) : Bool := marksL.contains op
abbrev marksV : Array Value := #[.string ⟨#[43]⟩, .string ⟨#[45]⟩, .string ⟨#[42]⟩, .string ⟨#[47]⟩, .string ⟨#[37]⟩, .string ⟨#[61, 61]⟩, .string ⟨#[33, 61]⟩, .string ⟨#[60]⟩, .string ⟨#[60, 61]⟩, .string ⟨#[62]⟩, .string ⟨#[62, 61]⟩]
/-- The variable marks. -/
def MkE (w : World) : Prop := ∀ j, j < 11 → w.cell? ⟨1, j, none⟩ = some (marksV.getD j undef)
theorem mk_ix (i : Nat) (hi : i < 11) (w : World) : (Instr.index 138 (.agg marksV) (.int .i64 (i : Int))).run Tryd.prog w = .ok (.string ⟨(marksL.getD i []).toArray⟩) w := by
  have h : i = 0 ∨ i = 1 ∨ i = 2 ∨ i = 3 ∨ i = 4 ∨ i = 5 ∨ i = 6 ∨ i = 7 ∨ i = 8 ∨ i = 9 ∨ i = 10 := by omega
  rcases h with rfl | rfl | rfl | rfl | rfl | rfl | rfl | rfl | rfl | rfl | rfl <;> (show _ = _; kernel_rfl)
theorem mark_get (i : Nat) (hi : i < 11) : marksL[i]? = some (marksL.getD i []) := by
  rw [List.getD_eq_getElem?_getD]
  have : i < marksL.length := hi
  rw [List.getElem?_eq_getElem this]
  rfl
theorem mark_yes {op : By} {i : Nat} (hi : i < 11) (h : marksL.getD i [] = op) : markB op = true := by
  unfold markB
  rw [List.contains_iff_mem]
  rw [← h]
  exact List.mem_of_getElem? (mark_get i hi)
theorem mark_no {op : By} (h : ∀ i, i < 11 → marksL.getD i [] ≠ op) : markB op = false := by
  rw [Bool.eq_false_iff]
  intro e
  unfold markB at e
  rw [List.contains_iff_mem] at e
  obtain ⟨i, hi⟩ := List.getElem?_of_mem e
  have hl : i < 11 := (List.getElem?_eq_some_iff.1 hi).1
  rw [mark_get i hl] at hi
  injection hi with hi
  exact h i hl hi
set_option maxRecDepth 100000 in
set_option maxHeartbeats 1000000 in
theorem mark_any (w : World) (y : ByteArray) (h : MkE w) : Calls Tryd.prog 54 #[.string y] w (LqP (markB y.data.toList) w) := by
  have m0 := h 0 (by omega)
  have m1 := h 1 (by omega)
  have m2 := h 2 (by omega)
  have m3 := h 3 (by omega)
  have m4 := h 4 (by omega)
  have m5 := h 5 (by omega)
  have m6 := h 6 (by omega)
  have m7 := h 7 (by omega)
  have m8 := h 8 (by omega)
  have m9 := h 9 (by omega)
  have m10 := h 10 (by omega)
  simp only [marksV, Array.getD_eq_getD_getElem?, List.getElem?_toArray, List.getElem?_cons_zero, List.getElem?_cons_succ, Option.getD_some] at m0 m1 m2 m3 m4 m5 m6 m7 m8 m9 m10
  generalize hG : LqP (markB y.data.toList) w = G
  have HG : Hid (LqP (markB y.data.toList) w = G) := hG
  clear h hG
  go_enter Tryd.func54, Tryd.ntmps54
  go_wp2_with fail
  go_loopw [6] (fun v wr => ∃ i : Nat, i ≤ 11 ∧ v = .int .i64 i ∧ wr = w ∧ Hid (∀ j, j < i → marksL.getD j [] ≠ y.data.toList)) (fun v _ => 11 - (intOf v).toNat)
  case atStart => exact ⟨0, Nat.zero_le _, rfl, rfl, fun j hj => by omega⟩
  case round =>
    obtain ⟨i, hin, rfl, rfl, HA⟩ := hrel
    by_cases hlt : i < 11
    · have hx := mk_ix i hlt
      obtain ⟨m, hm⟩ : ∃ m : ByteArray, m = ⟨(marksL.getD i []).toArray⟩ := ⟨_, rfl⟩
      rw [← hm] at hx
      have HM : Hid (marksL.getD i [] = m.data.toList) := by show _ = _; rw [hm]
      have hl9 : (i : Int) < 11 := by omega
      clear hm
      by_cases he : m = y
      · have HE : Hid (G (.returned (.bool true)) wr) := by show G _ _; rw [← HG.out, mark_yes hlt (by rw [HM.out, he])]; exact ⟨rfl, rfl⟩
        subst he
        go_wp2
        exact HE.out
      · have HA2 : Hid (∀ j, j < i + 1 → marksL.getD j [] ≠ y.data.toList) := fun j hj => by
          by_cases e : j = i
          · subst e
            rw [HM.out]
            intro e2
            exact he (by cases m; cases y; congr 1; exact Array.ext' e2)
          · exact HA.out j (by omega)
        have he2 : (m.toList == y.toList) = false := by
          rw [← tl_eq, ← tl_eq, Bool.eq_false_iff]
          intro e
          have e2 : m.data.toList = y.data.toList := by simpa using e
          exact he (by cases m; cases y; congr 1; exact Array.ext' e2)
        go_wp2
        exact ⟨⟨i + 1, by omega, by go_num, by trivial, HA2⟩, by simp [intOf]; omega⟩
    · have hin2 : i = 11 := by omega
      subst hin2
      have HE : Hid (G (.returned (.bool false)) wr) := by show G _ _; rw [← HG.out, mark_no HA.out]; exact ⟨rfl, rfl⟩
      go_wp2
      exact HE.out
/-- What looks and draws once leaves. -/
def LdP (b : Bool) (w : World) (e : Ending) (w' : World) : Prop := e = .returned (.bool b) ∧ w' = w.drew
/-- Does a call have what a function must be given? -/
def fitsB (F : Mf) (G : Option Mf) (l : List Int) : Bool := match G with
  | none => false
  | some G => decide ((l.length : Int) = G.params) && (l.zip G.types).all (fun p => isB F p.1 p.2)
theorem fits_1 {F G : Mf} {l : List Int} (h : (l.length : Int) ≠ G.params) : fitsB F (some G) l = false := by unfold fitsB; simp [h]
theorem fits_2 {F G : Mf} {l : List Int} (h : (l.length : Int) = G.params) : fitsB F (some G) l = (l.zip G.types).all (fun p => isB F p.1 p.2) := by unfold fitsB; simp [h]
theorem all_bad2 {α : Type} {f : α → Bool} {l : List α} {i : Nat} {x : α} (h : l[i]? = some x) (hx : f x = false) : l.all f = false := by
  rw [List.all_eq_false]
  exact ⟨x, List.mem_of_getElem? h, by simp [hx]⟩
set_option maxRecDepth 100000 in
set_option maxHeartbeats 2000000 in
theorem fits_any (w : World) (sb so bf gb' go : Nat) (s : Ms) (F G : Mf) (hs : StepAt w sb so s) (hb : BoxF w bf F) (hg : FnAt w gb' go G) (hpl : placesB G = true) :
    Calls Tryd.prog 55 #[.pointer (some ⟨sb, so, none⟩), .pointer (some ⟨gb', go, none⟩), isV bf] w (LdP (fitsB F (some G) s.args) w) := by
  obtain ⟨va, k9, qa, ca, rfl, hla, hIa, hca⟩ := hs.c9
  have k1 := hg.c1
  obtain ⟨vt, k2, qt, ct, rfl, hlt, hIt, hct⟩ := hg.c2
  have d9 : w.drew.cell? ⟨sb, so + 9, none⟩ = some (.slice qa s.args.length ca) := k9
  have d1 : w.drew.cell? ⟨gb', go + 1, none⟩ = some (.int .i64 G.params) := k1
  have d2 : w.drew.cell? ⟨gb', go + 2, none⟩ = some (.slice qt G.types.length ct) := k2
  obtain ⟨na, hna⟩ : ∃ na, s.args.length = na := ⟨_, rfl⟩
  obtain ⟨nt, hnt⟩ : ∃ nt, G.types.length = nt := ⟨_, rfl⟩
  obtain ⟨pa, hpa⟩ : ∃ pa, G.params = pa := ⟨_, rfl⟩
  rw [hna] at d9 hla
  rw [hnt] at d2 hlt
  rw [hpa] at d1
  have hple : pa ≤ nt := by
    unfold placesB at hpl
    simp at hpl
    omega
  have HN : Hid (s.args.length = na ∧ G.types.length = nt ∧ G.params = pa) := ⟨hna, hnt, hpa⟩
  have HCa : Hid (s.args = [] ∨ ∃ g o, qa = some ⟨g, o, none⟩ ∧ ∀ j x, s.args[j]? = some x → w.cell? ⟨g, o + j, none⟩ = some (.int .i64 x)) := hca
  have HCt : Hid (G.types = [] ∨ ∃ g o, qt = some ⟨g, o, none⟩ ∧ ∀ j x, G.types[j]? = some x → w.cell? ⟨g, o + j, none⟩ = some (.int .i64 x)) := hct
  have HC : Hid (∀ p k, Calls Tryd.prog 52 #[.int .i64 p, .int .i64 k, ptr bf] w.drew (LqP (isB F p k) w.drew)) := fun p k => is_any w.drew bf F p k (by
    obtain ⟨fb, fo, h1, h2⟩ := hb
    exact ⟨fb, fo, h1, h2.below (Below.refl _ _).drew⟩)
  generalize hGG : LdP (fitsB F (some G) s.args) w = GG
  have HG : Hid (LdP (fitsB F (some G) s.args) w = GG) := hGG
  clear hs hb hg hpl hca hct hIa hIt hna hnt hpa k9 k1 k2 hGG
  by_cases h1 : (na : Int) = pa
  · subst h1
    have HF : Hid (fitsB F (some G) s.args = (s.args.zip G.types).all (fun p => isB F p.1 p.2)) := fits_2 (by rw [HN.out.1, HN.out.2.2])
    have hz : na ≤ nt := by omega
    have HZ : Hid ((s.args.zip G.types).length = na) := by show _ = _; rw [List.length_zip, HN.out.1, HN.out.2.1]; omega
    clear hple
    go_enter Tryd.func55, Tryd.ntmps55
    go_wp2_with fail
    go_region
    go_wp2_with fail
    go_loopw [28] (fun v wr => ∃ i : Nat, i ≤ na ∧ v = .int .i64 i ∧ wr = w.drew ∧ Hid (((s.args.zip G.types).take i).all (fun p => isB F p.1 p.2) = true)) (fun v _ => na - (intOf v).toNat)
    case atStart => exact ⟨0, Nat.zero_le _, rfl, rfl, (by show _ = _; simp)⟩
    case round =>
      obtain ⟨i, hin, rfl, rfl, HA⟩ := hrel
      by_cases hlt2 : i < na
      · obtain ⟨x, hx⟩ : ∃ x, s.args[i]? = some x := ⟨s.args[i]'(by rw [HN.out.1]; exact hlt2), List.getElem?_eq_getElem _⟩
        obtain ⟨t, ht⟩ : ∃ t, G.types[i]? = some t := ⟨G.types[i]'(by rw [HN.out.2.1]; omega), List.getElem?_eq_getElem _⟩
        obtain ⟨g1, o1, rfl, hc1⟩ : ∃ g o, qa = some ⟨g, o, none⟩ ∧ ∀ j x, s.args[j]? = some x → w.cell? ⟨g, o + j, none⟩ = some (.int .i64 x) := by
          rcases HCa.out with h | h
          · rw [h] at hx; simp at hx
          · exact h
        obtain ⟨g2, o2, rfl, hc2⟩ : ∃ g o, qt = some ⟨g, o, none⟩ ∧ ∀ j x, G.types[j]? = some x → w.cell? ⟨g, o + j, none⟩ = some (.int .i64 x) := by
          rcases HCt.out with h | h
          · rw [h] at ht; simp at ht
          · exact h
        have k3 : w.drew.cell? ⟨g1, o1 + i, none⟩ = some (.int .i64 x) := hc1 i x hx
        have k4 : w.drew.cell? ⟨g2, o2 + i, none⟩ = some (.int .i64 t) := hc2 i t ht
        have hl9 : (i : Int) < (na : Int) := by omega
        have hl8 : (i : Int) < (nt : Int) := by omega
        have HX : Hid ((s.args.zip G.types)[i]? = some (x, t)) := by show _ = _; rw [List.getElem?_zip_eq_some]; exact ⟨hx, ht⟩
        clear hc1 hc2 hx ht
        cases hb : isB F x t with
        | true =>
          have HA2 : Hid (((s.args.zip G.types).take (i + 1)).all (fun p => isB F p.1 p.2) = true) := by show _ = _; rw [take_snoc HX.out, List.all_append, HA.out]; simp [hb]
          have HB : Hid (isB F x t = true) := hb
          clear hb
          go_wp2_with (go_at_call 52; refine (HC.out _ _).mono ?_; rintro e w' ⟨rfl, rfl⟩; rw [HB.out])
          exact ⟨⟨i + 1, by omega, by go_num, by trivial, HA2⟩, by simp [intOf]; omega⟩
        | false =>
          have HE : Hid (GG (.returned (.bool false)) w.drew) := by show GG _ _; rw [← HG.out, HF.out, all_bad2 HX.out hb]; exact ⟨rfl, rfl⟩
          have HB : Hid (isB F x t = false) := hb
          clear hb
          go_wp2_with (go_at_call 52; refine (HC.out _ _).mono ?_; rintro e w' ⟨rfl, rfl⟩; rw [HB.out])
          exact HE.out
      · have hin2 : i = na := by omega
        subst hin2
        have HE : Hid (GG (.returned (.bool true)) w.drew) := by
          show GG _ _
          have e : (s.args.zip G.types).take i = s.args.zip G.types := by rw [List.take_of_length_le (by rw [HZ.out]; omega)]
          have := HA.out
          rw [e] at this
          rw [← HG.out, HF.out, this]
          exact ⟨rfl, rfl⟩
        go_wp2
        exact HE.out
  · have HE : Hid (GG (.returned (.bool false)) w.drew) := by show GG _ _; rw [← HG.out, fits_1 (by rw [HN.out.1, HN.out.2.2]; exact h1)]; exact ⟨rfl, rfl⟩
    have t1 : ((na : Int) != pa) = true := by simpa using h1
    clear h1 hple
    go_enter Tryd.func55, Tryd.ntmps55
    go_wp2_with fail
    go_region
    go_wp2
    exact HE.out
set_option maxRecDepth 100000 in
set_option maxHeartbeats 2000000 in
theorem fits_none (w : World) (sb so bf : Nat) (s : Ms) (F : Mf) : Calls Tryd.prog 55 #[.pointer (some ⟨sb, so, none⟩), .pointer none, isV bf] w (LdP (fitsB F none s.args) w) := by
  generalize hGG : LdP (fitsB F none s.args) w = GG
  have HE : Hid (GG (.returned (.bool false)) w.drew) := by show GG _ _; rw [← hGG]; exact ⟨rfl, rfl⟩
  clear hGG
  go_enter Tryd.func55, Tryd.ntmps55
  go_wp2_with fail
  go_region
  go_wp2
  exact HE.out
end Go.Proofs.YtjmbjpimabnohaaDoor.Mid
