/- QK -/
import Derived.Test.YtjmbjpimabnohaaDoorK09
namespace Go.Proofs.YtjmbjpimabnohaaDoor.Mid
set_option linter.unusedVariables false
set_option linter.unusedSimpArgs false
open Go Go.RowKit
def Ng {α : Type} (n : Nat) (x : Go1 α) : Prop := ∀ s, s.fuel.toNat < n → ∀ out, x s ≠ .error (99, out)
theorem ng_gp {α : Type} (n : Nat) (a : α) : Ng n (gp a) := fun s _ out h => by cases h
theorem ng_gt {α : Type} (n : Nat) {k : Int} (hk : k ≠ 99) : Ng n (gt k : Go1 α) := fun s _ out h => by injection h with h; injection h with h _; exact hk h
theorem ng_gb {α β : Type} {n : Nat} {x : Go1 α} {f : α → Go1 β} (hx : Ng n x) (hl : Fl x) (hf : ∀ a, Ng n (f a)) : Ng n (gb x f) := fun s hs out h => by
  unfold gb at h
  cases e : x s with
  | error k =>
    rw [e] at h
    injection h with h
    subst h
    exact hx s hs out e
  | ok p =>
    obtain ⟨a, s1⟩ := p
    rw [e] at h
    have := hl s a s1 e
    exact hf a s1 (by omega) out h
theorem ng_pay {β : Type} {n : Nat} {f : Unit → Go1 β} (hf : ∀ a, Ng n (f a)) : Ng (n + 1) (gb pay f) := fun s hs out h => by
  by_cases h0 : s.fuel ≤ 0
  · rw [gb_e (pay_no h0)] at h
    cases h
  · rw [gb_o (pay_yes h0)] at h
    exact hf () _ (by show (s.fuel - 1).toNat < n; omega) out h
theorem ng_if {α : Type} {n : Nat} {k : Int} (hk : k ≠ 99) {c : Sg → Prop} [∀ s, Decidable (c s)] {y : Sg → α × Sg} : Ng n (fun s => if c s then .error (k, s.out) else .ok (y s) : Go1 α) := fun s _ out h => by
  dsimp only at h
  split at h
  · injection h with h; injection h with h _; exact hk h
  · cases h
theorem ng_both (n : Nat) (op : By) (a b : Int) : Ng n (bothG op a b) := by
  unfold bothG
  split
  · refine ng_gt n ?_
    rename_i h
    intro e
    have : (bothV op a b).2 = 0 ∨ (bothV op a b).2 = 2 := by
      unfold bothV
      repeat' split
      all_goals simp
    omega
  · exact ng_gp n _
theorem ng_go (fs : By → Option Mf) : ∀ g d F k o, Ng g (goN fs g d F k o)
  | 0 => fun d F k o s hs => by omega
  | g + 1 => fun d F k o => by
    have ih := ng_go fs g
    rw [goN_1]
    refine ng_pay (fun _ => ?_)
    split
    · exact ng_gt g (by decide)
    · split
      · exact ng_gp g _
      split
      · exact ih _ _ _ _
      split
      · split <;> exact ih _ _ _ _
      split
      · exact ng_gb (by unfold tellG; exact ng_if (by decide)) (fl_tell _) (fun _ => ih _ _ _ _)
      split
      · exact ng_gb (by unfold putG; exact ng_if (by decide)) (fl_put _ _ _) (fun _ => ih _ _ _ _)
      split
      · exact ih _ _ _ _
      · refine ng_gb ?_ (fl_reck (fl_go fs g) _ _ _) (fun _ => ih _ _ _ _)
        unfold reckG
        split
        · exact ng_gp g _
        split
        · exact ng_gb (ng_both g _ _ _) (fl_both _ _ _) (fun _ => ng_gp g _)
        split
        · split
          · exact ng_gt g (by decide)
          · split
            · exact ng_gt g (by decide)
            · exact ng_gb (ih _ _ _ _) (fl_go fs g _ _ _ _) (fun _ => ng_gp g _)
        split
        · unfold newG; exact ng_if (by decide)
        split
        · exact ng_gb (fun s _ out h => by cases h) (fl_len _) (fun _ => ng_gp g _)
        split
        · exact ng_gb (by unfold itemG; exact ng_if (by decide)) (fl_item _ _) (fun _ => ng_gp g _)
        split
        · exact ng_gb (fun s _ out h => by cases h) fl_take (fun _ => ng_gp g _)
        · exact ng_gp g _
theorem ng_call (fs : By → Option Mf) (g d : Nat) (F : Mf) (o : List Vl) : Ng g (callG fs g d F o) := by
  unfold callG
  split
  · exact ng_gt g (by decide)
  · exact ng_go fs g _ _ _ _
theorem is_in {F : Mf} {p k : Int} (h : isB F p k = true) : In F p := by
  unfold isB at h
  simp at h
  exact h.1
theorem has_in {F : Mf} {p k : Int} (h : hasB F p k = true) (hk : k ≠ 0) : In F p := by
  unfold hasB at h
  simp [hk] at h
  exact is_in h
theorem fits_in {fs : By → Option Mf} {F : Mf} {nm : By} {l : List Int} (h : fitsB F (fs nm) l = true) (hp : ∀ nm G, fs nm = some G → placesB G = true) : ∃ G, fs nm = some G ∧ (l.length : Int) = G.params ∧ l.length ≤ G.types.length ∧ ∀ x ∈ l, In F x := by
  cases hG : fs nm with
  | none => rw [hG] at h; cases h
  | some G =>
    rw [hG] at h
    have h2 := hp nm G hG
    unfold fitsB at h
    simp only [Bool.and_eq_true, decide_eq_true_eq] at h
    have hle : l.length ≤ G.types.length := by
      unfold placesB at h2
      simp at h2
      omega
    refine ⟨G, rfl, h.1, hle, fun x hx => ?_⟩
    obtain ⟨j, hj⟩ := List.getElem?_of_mem hx
    have hj1 := (List.getElem?_eq_some_iff.1 hj).1
    have hz : (l.zip G.types)[j]? = some (x, G.types[j]) := by
      rw [List.getElem?_zip_eq_some]
      exact ⟨hj, List.getElem?_eq_getElem _⟩
    exact is_in (List.all_eq_true.1 h.2 _ (List.mem_of_getElem? hz))
theorem st_ok {fs : By → Option Mf} {F : Mf} {s : Ms} (h : stepB fs F s = true) (hp : ∀ nm G, fs nm = some G → placesB G = true) : StOk fs F s := by
  unfold stepB allB at h
  simp only [Bool.and_eq_true, decide_eq_true_eq] at h
  obtain ⟨h1, ⟨hd, ha, hb, hc⟩, hg, hs⟩ := h
  unfold besB at hs
  refine ⟨h1, fun e => ?_, fun e => ?_, fun e => ?_, fun e => ?_, fun e => ?_, fun e => ?_⟩
  · rcases e with e | e | e | e | e | e | e | e
    · rw [e] at hd; exact has_in hd (by decide)
    · rw [if_pos e] at hs
      simp only [Bool.or_eq_true, Bool.and_eq_true] at hs
      rcases hs with hs | hs <;> exact is_in hs.1
    all_goals
      rw [e] at hd
      exact has_in hd (by decide)
  · rcases e with e | e | e | e | e | e | e | e | e
    · rw [if_pos e] at hs
      simp only [Bool.or_eq_true, Bool.and_eq_true] at hs
      rcases hs with hs | hs <;> exact is_in hs.2
    all_goals
      rw [e] at ha
      exact has_in ha (by decide)
  · rcases e with e | e | e
    all_goals
      rw [e] at hb
      exact has_in hb (by decide)
  · rw [e] at hc
    exact has_in hc (by decide)
  · have hg' : (labOf F.steps s.label).isSome = true := by
      rcases e with e | e
      all_goals
        rw [e] at hg
        simpa [frm] using hg
    exact Option.isSome_iff_exists.1 hg'
  · rw [if_neg (by omega), if_neg (by omega), if_pos e] at hs
    obtain ⟨G, a1, a2, a3, a4⟩ := fits_in hs hp
    exact ⟨G, a1, a3, a4⟩
structure RvE (L : List Mf) : Prop where
  le : L.length ≤ 12
  nd : (L.map (·.name)).Nodup
  mn : ∃ F, fsL L mainB = some F ∧ F.params = 0
  pl : ∀ F ∈ L, placesB F = true
  rt : ∀ F ∈ L, rightB (fsL L) F = true
theorem rv_e {L : List Mf} (h : rightV L = true) : RvE L := by
  unfold rightV namesB at h
  simp only [Bool.and_eq_true, decide_eq_true_eq] at h
  obtain ⟨h1, h2, h3, h4, h5⟩ := h
  refine ⟨h1, h2, ?_, List.all_eq_true.1 h4, List.all_eq_true.1 h5⟩
  unfold mainOk at h3
  split at h3
  · rename_i F hF
    exact ⟨F, hF, by simpa using h3⟩
  · cases h3
theorem fsL_mem {L : List Mf} {nm : By} {F : Mf} (h : fsL L nm = some F) : F ∈ L ∧ F.name = nm := ⟨List.mem_of_find?_eq_some h, by simpa using List.find?_some h⟩
theorem rb_e {fs : By → Option Mf} {F : Mf} (h : rightB fs F = true) : (1 ≤ F.steps.length ∧ F.steps.length ≤ 6000) ∧ lastB F = true ∧ labsOk F.steps ∧ ∀ s ∈ F.steps, stepB fs F s = true := by
  unfold rightB labsB at h
  simp only [Bool.and_eq_true, decide_eq_true_eq] at h
  exact ⟨h.1, h.2.1, h.2.2.1, List.all_eq_true.1 h.2.2.2⟩
theorem lab_m {w : World} {mb k : Nat} {l : List Ms} (h : Mp 3 w mb (labF l) k) : LabM w mb l := fun W hW x hx => by
  have := (h.kept (hW mb h.lt)).look kdI und69 (zero3 W) (key_i x hx)
  rw [this]
  show Result.ok (((labOf l x).map fun (k : Nat) => Value.int .i64 (k : Int)).getD (.int .i64 0)) W = _
  cases labOf l x <;> rfl
theorem last_e {F : Mf} (h : lastB F = true) : ∃ s, F.steps[F.steps.length - 1]? = some s ∧ (s.code = 8 ∨ s.code = 4) := by
  unfold lastB at h
  split at h
  · rename_i s hs
    exact ⟨s, hs, by simpa using h⟩
  · cases h
theorem fns_ok {X : Mx} {cb g p c M m : Nat} {L : List Mf} {f : Lit → Option Value} (hr : RvE L) (hc : CodeAt X.wc cb (some ⟨g, p, none⟩) c L) (hfs : X.fs = fsL L) (hfv : X.fv = .map (some M)) (hm : Mp 9 X.wc M f m) (hf : ∀ nm F, fsL L nm = some F → ∃ j mb k, L[j]? = some F ∧ f (.string nm) = some (rtV g (p + j * 4) mb) ∧ Mp 3 X.wc mb (labF F.steps) k) : FnsOk X := by
  refine ⟨fun nm F hF => ?_⟩
  rw [hfs] at hF
  obtain ⟨j, mb, k, a1, a2, a3⟩ := hf nm F hF
  obtain ⟨b1, b2⟩ := fsL_mem hF
  have hFn : FnAt X.wc g (p + j * 4) F := by
    rcases hc.fn with h2 | ⟨g', p', e, h2⟩
    · rw [h2] at a1; simp at a1
    · injection e with e
      injection e with e1 e2
      subst e1 e2
      exact h2 j F a1
  obtain ⟨c1, c2, c3, c4⟩ := rb_e (hr.rt F b1)
  refine ⟨g, p + j * 4, mb, ⟨hFn, lab_m a3, fun s hs => ?_, last_e c2⟩, fun W hW => ?_⟩
  · rw [hfs]
    exact st_ok (c4 s hs) (fun nm G hG => hr.pl G (fsL_mem hG).1)
  · rw [hfv]
    have hk : keyOf Tryd.prog 9 (.string ⟨nm.toArray⟩) = some (.string nm) := by
      have := key_s ⟨nm.toArray⟩ (by have := hFn.i2.1; rw [b2] at this; simpa [ByteArray.size] using this)
      simpa using this
    have := (hm.kept (hW M hm.lt)).look kdS und73 (zero80 W) hk
    rw [this, a2]
    rfl
def runV (g : Nat) (L : List Mf) (inp : List Int) (fuel : Int) : Int × Int × List Int :=
  if rightV L = true then (match fsL L mainB with
    | none => (9, 0, [])
    | some F => (match callG (fsL L) g 0 F (List.replicate F.types.length (0, none)) ⟨fuel, inp, [], []⟩ with
      | .error (w, out) => (w, 0, out)
      | .ok (z, s) => (1, z, s.out)))
  else (9, 0, [])
end Go.Proofs.YtjmbjpimabnohaaDoor.Mid
