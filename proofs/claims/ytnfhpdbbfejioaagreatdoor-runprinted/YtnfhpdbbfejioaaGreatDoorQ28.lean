/- RB RG GQ GR -/
import Derived.Test.YtnfhpdbbfejioaaGreatDoorQ27
namespace Go.Proofs.YtnfhpdbbfejioaaGreatDoor
set_option linter.unusedVariables false
set_option linter.unusedSimpArgs false
set_option maxRecDepth 100000
set_option maxHeartbeats 4000000
open Go Go.RowKit
def Gm {α : Type} (x y : Go1 α) : Prop := ∀ s, (∃ o, x s = .error (99, o)) ∨ y s = x s
theorem jh {α : Type} (x : Go1 α) : Gm x x := fun _ => .inr rfl
theorem gm_no {α : Type} (y : Go1 α) : Gm (gt 99) y := fun s => .inl ⟨s.out, rfl⟩
theorem gm_gb {α β : Type} {x y : Go1 α} {f h : α → Go1 β} (hx : Gm x y) (hf : ∀ a, Gm (f a) (h a)) : Gm (gb x f) (gb y h) := fun s => by
 unfold gb
 rcases hx s with ⟨o, e⟩ | e
 ·rw [e]; exact .inl ⟨o, rfl⟩
 ·rw [e]
  cases hs : x s with
  | error z => exact .inr rfl
  | ok z => exact hf z.1 z.2
theorem gm_if {α : Type} {c : Prop} [Decidable c] {x y x' y' : Go1 α} (hx : Gm x x') (hy : Gm y y') : Gm (if c then x else y) (if c then x' else y') := by
 split
 ·exact hx
 ·exact hy
theorem gm_all (fs : By → Option Fun) : ∀ (g : Nat), (∀ d o t, Gm (evE fs g d o t) (evE fs (g + 1) d o t)) ∧ (∀ d o t, Gm (evA fs g d o t) (evA fs (g + 1) d o t)) ∧ (∀ d o t, Gm (evB fs g d o t) (evB fs (g + 1) d o t)) ∧ (∀ d o t, Gm (evS fs g d o t) (evS fs (g + 1) d o t)) ∧ (∀ d o v t, Gm (evW fs g d o v t) (evW fs (g + 1) d o v t))
 | 0 => ⟨fun _ _ _ => by rw [evE_0]; exact gm_no _, fun _ _ _ => by rw [evA_0]; exact gm_no _, fun _ _ _ => by rw [evB_0]; exact gm_no _, fun _ _ _ => by rw [evS_0]; exact gm_no _, fun _ _ _ _ => by rw [evW_0]; exact gm_no _⟩
 | g + 1 => by
  obtain ⟨iE, iA, iB, iS, iW⟩ := gm_all fs g
  refine ⟨fun d o t => ?_, fun d o t => ?_, fun d o t => ?_, fun d o t => ?_, fun d o v t => ?_⟩
  ·rw [qN, qN]
   split
   ·rename_i nm _ _ _ _
    cases hf : fs nm <;> simp only [hf]
    all_goals repeat' first | exact iE _ _ _ | exact iA _ _ _ | exact iB _ _ _ | exact jh _ | refine gm_if ?_ ?_ | (refine gm_gb ?_ fun _ => ?_)
   ·exact jh _
  ·rw [evA_1, evA_1]
   split
   ·exact gm_gb (iE _ _ _) fun _ => gm_gb (iA _ _ _) fun _ => jh _
   ·exact jh _
  ·rw [evB_1, evB_1]
   split
   ·exact gm_gb (jh _) fun _ => gm_gb (iS _ _ _) fun _ => gm_if (jh _) (iB _ _ _)
   ·exact jh _
  ·rw [evS_1, evS_1]
   split
   ·repeat' first | exact iE _ _ _ | exact iW _ _ _ _ | exact iB _ _ _ | exact jh _ | refine gm_if ?_ ?_ | (refine gm_gb ?_ fun _ => ?_)
   ·exact jh _
  ·rw [evW_1, evW_1]
   exact gm_gb (iE _ _ _) fun _ => gm_if (jh _) (gm_gb (iB _ _ _) fun _ => gm_if (jh _) (gm_gb (jh _) fun _ => iW _ _ _ _))
def Ob {α : Type} (x : Go1 α) : Prop := ∀ s, s.out.length ≤ 200 → (∀ a s1, x s = .ok (a, s1) → s1.out.length ≤ 200) ∧ (∀ w o, x s = .error (w, o) → o.length ≤ 200)
theorem ob_ok {α : Type} {x : Go1 α} {f : Sg → α} {u : Sg → Sg} (h : ∀ s, x s = .ok (f s, u s)) (hu : ∀ s, (u s).out = s.out) : Ob x := fun s hs => by
 rw [h]
 refine ⟨fun a s1 e => ?_, fun w o e => (by cases e)⟩
 injection e with e
 injection e with _ e
 rw [← e, hu]
 exact hs
theorem ob_or {α : Type} {x : Go1 α} {f : Sg → α} {u : Sg → Sg} {w : Int} (h : ∀ s, x s = .ok (f s, u s) ∨ x s = .error (w, s.out)) (hu : ∀ s, (u s).out = s.out) : Ob x := fun s hs => by
 rcases h s with e | e <;> rw [e]
 ·refine ⟨fun a s1 e => ?_, fun w o e => (by cases e)⟩
  injection e with e
  injection e with _ e
  rw [← e, hu]
  exact hs
 ·refine ⟨fun a s1 e => (by cases e), fun w o e => ?_⟩
  injection e with e
  injection e with _ e
  rw [← e]
  exact hs
theorem ob_gp {α : Type} (a : α) : Ob (gp a) := ob_ok (f := fun _ => a) (u := fun s => s) (fun _ => rfl) (fun _ => rfl)
theorem ob_gt {α : Type} (w : Int) : Ob (gt (α := α) w) := fun s hs => ⟨fun a s1 e => (by cases e), fun w' o e => by
 injection e with e
 injection e with _ e
 rw [← e]
 exact hs⟩
theorem ob_gb {α β : Type} {x : Go1 α} {f : α → Go1 β} (hx : Ob x) (hf : ∀ a, Ob (f a)) : Ob (gb x f) := fun s hs => by
 unfold gb
 obtain ⟨h1, h2⟩ := hx s hs
 cases e : x s with
 | error z => exact ⟨fun a s1 h => (by cases h), fun w o h => h2 w o (by injection h with h; rw [e, h])⟩
 | ok z => exact hf z.1 z.2 (h1 z.1 z.2 e)
theorem ob_if {α : Type} {c : Prop} [Decidable c] {x y : Go1 α} (hx : Ob x) (hy : Ob y) : Ob (if c then x else y) := by
 split
 ·exact hx
 ·exact hy
theorem ob_pay : Ob pay := ob_or (f := fun _ => ()) (u := fun s => { s with fuel := s.fuel - 1 }) (w := 6) (fun s => by
 unfold pay
 split
 ·exact .inr rfl
 ·exact .inl rfl) (fun _ => rfl)
theorem ob_tell (n : Int) : Ob (tellG n) := fun s hs => by
 unfold tellG
 split
 ·refine ⟨fun a s1 e => (by cases e), fun w o e => ?_⟩
  injection e with e
  injection e with _ e
  rw [← e]
  exact hs
 ·refine ⟨fun a s1 e => ?_, fun w o e => (by cases e)⟩
  injection e with e
  injection e with _ e
  rw [← e]
  simp
  omega
theorem ob_take : Ob takeG := ob_ok (f := fun s => s.inp.headD 0) (u := fun s => { s with inp := s.inp.tail }) (fun _ => rfl) (fun _ => rfl)
theorem ob_new (n : Int) : Ob (newG n) := ob_or (f := fun s => (0, some s.hp.length)) (u := fun s => { s with hp := s.hp ++ [List.replicate n.toNat 0] }) (w := 4) (fun s => by
 unfold newG
 split
 ·exact .inr rfl
 ·exact .inl rfl) (fun _ => rfl)
theorem ob_len (q : Option Nat) : Ob (lenG q) := ob_ok (f := fun s => ((arrOf s q).length : Int)) (u := fun s => s) (fun _ => rfl) (fun _ => rfl)
theorem ob_item (q : Option Nat) (i : Int) : Ob (itemG q i) := ob_or (f := fun s => (arrOf s q).getD i.toNat 0) (u := fun s => s) (w := 3) (fun s => by
 unfold itemG
 split
 ·exact .inr rfl
 ·exact .inl rfl) (fun _ => rfl)
theorem ob_put (q : Option Nat) (i n : Int) : Ob (putG q i n) := ob_or (f := fun s => ()) (u := fun s => { s with hp := s.hp.modify (q.getD 0) (fun l => l.set i.toNat n) }) (w := 3) (fun s => by
 unfold putG
 split
 ·exact .inr rfl
 ·exact .inl rfl) (fun _ => rfl)
theorem ob_both (op : By) (a b : Int) : Ob (bothG op a b) := by
 unfold bothG
 repeat' first | exact ob_gp _ | exact ob_gt _ | refine ob_if ?_ ?_
theorem ob_all (fs : By → Option Fun) : ∀ (g : Nat), (∀ d o t, Ob (evE fs g d o t)) ∧ (∀ d o t, Ob (evA fs g d o t)) ∧ (∀ d o t, Ob (evB fs g d o t)) ∧ (∀ d o t, Ob (evS fs g d o t)) ∧ (∀ d o v t, Ob (evW fs g d o v t))
 | 0 => ⟨fun _ _ _ => by rw [evE_0]; exact ob_gt _, fun _ _ _ => by rw [evA_0]; exact ob_gt _, fun _ _ _ => by rw [evB_0]; exact ob_gt _, fun _ _ _ => by rw [evS_0]; exact ob_gt _, fun _ _ _ _ => by rw [evW_0]; exact ob_gt _⟩
 | g + 1 => by
  obtain ⟨iE, iA, iB, iS, iW⟩ := ob_all fs g
  refine ⟨fun d o t => ?_, fun d o t => ?_, fun d o t => ?_, fun d o t => ?_, fun d o v t => ?_⟩
  ·rw [qN]
   split
   ·rename_i nm _ _ _ _
    cases hf : fs nm <;> simp only [hf]
    all_goals repeat' first | exact ob_gp _ | exact ob_gt _ | exact iE _ _ _ | exact iA _ _ _ | exact iB _ _ _ | exact ob_new _ | exact ob_len _ | exact ob_item _ _ | exact ob_take | exact ob_both _ _ _ | refine ob_if ?_ ?_ | (refine ob_gb ?_ fun _ => ?_)
   ·exact ob_gt _
  ·rw [evA_1]
   split
   ·exact ob_gb (iE _ _ _) fun _ => ob_gb (iA _ _ _) fun _ => ob_gp _
   ·exact ob_gp _
  ·rw [evB_1]
   split
   ·exact ob_gb ob_pay fun _ => ob_gb (iS _ _ _) fun _ => ob_if (ob_gp _) (iB _ _ _)
   ·exact ob_gp _
  ·rw [evS_1]
   split
   ·repeat' first | exact ob_gp _ | exact ob_gt _ | exact iE _ _ _ | exact iW _ _ _ _ | exact iB _ _ _ | exact ob_put _ _ _ | exact ob_tell _ | refine ob_if ?_ ?_ | (refine ob_gb ?_ fun _ => ?_)
   ·exact ob_gt _
  ·rw [evW_1]
   exact ob_gb (iE _ _ _) fun _ => ob_if (ob_gp _) (ob_gb (iB _ _ _) fun _ => ob_if (ob_gp _) (ob_gb ob_pay fun _ => iW _ _ _ _))
theorem run_max (g : Nat) (L : List Fun) (inp : List Int) (a : Nat) : (rnV g L inp a).2.2.length ≤ 200 := by
 obtain ⟨h1, h2⟩ := (ob_all (fun nm => L.find? (fun F => F.nm == nm)) g).1 0 [] (nd 5 0 0 [109, 97, 105, 110] [] .nil .nil ce) ⟨a, inp, [], []⟩ (by simp)
 unfold rnV
 split
 ·rename_i w out e
  exact h2 w out e
 ·rename_i v s e
  exact h1 v s e
def Fl {α : Type} (x : Go1 α) : Prop := ∀ s a s1, x s = .ok (a, s1) → s1.fuel ≤ s.fuel
theorem fl_gp {α : Type} (a : α) : Fl (gp a) := fun s b s1 h => by
 injection h with h
 injection h with _ h
 rw [h]
 exact Nat.le_refl _
theorem fl_gt {α : Type} (w : Int) : Fl (gt (α := α) w) := fun s b s1 h => (by cases h)
theorem fl_gb {α β : Type} {x : Go1 α} {f : α → Go1 β} (hx : Fl x) (hf : ∀ a, Fl (f a)) : Fl (gb x f) := fun s b s2 h => by
 unfold gb at h
 cases e : x s with
 | error z => rw [e] at h; cases h
 | ok z =>
  rw [e] at h
  exact Nat.le_trans (hf z.1 z.2 b s2 h) (hx s z.1 z.2 e)
theorem fl_if {α : Type} {c : Prop} [Decidable c] {x y : Go1 α} (hx : Fl x) (hy : Fl y) : Fl (if c then x else y) := by
 split
 ·exact hx
 ·exact hy
theorem fl_one {α : Type} {c : Sg → Prop} [DecidablePred c] {w : Int} {f : Sg → α} {u : Sg → Sg} (hu : ∀ s, (u s).fuel ≤ s.fuel) : Fl (fun s => if c s then .error (w, s.out) else .ok (f s, u s) : Go1 α) := fun s b s1 h => by
 dsimp only at h
 split at h
 ·cases h
 ·injection h with h
  injection h with _ h
  rw [← h]
  exact hu s
theorem fl_pay : Fl pay := fl_one (u := fun s => { s with fuel := s.fuel - 1 }) (fun s => Nat.sub_le _ _)
theorem fl_tell (n : Int) : Fl (tellG n) := fl_one (u := fun s => { s with out := s.out ++ [n] }) (fun s => Nat.le_refl _)
theorem fl_take : Fl takeG := fun s b s1 h => by
 injection h with h
 injection h with _ h
 rw [← h]
 exact Nat.le_refl _
theorem fl_new (n : Int) : Fl (newG n) := fl_one (c := fun _ => n < 0 ∨ 40 < n) (f := fun s => ((0 : Int), some s.hp.length)) (u := fun s => { s with hp := s.hp ++ [List.replicate n.toNat 0] }) (fun s => Nat.le_refl _)
theorem fl_len (q : Option Nat) : Fl (lenG q) := fun s b s1 h => by
 injection h with h
 injection h with _ h
 rw [← h]
 exact Nat.le_refl _
theorem fl_item (q : Option Nat) (i : Int) : Fl (itemG q i) := fl_one (c := fun s => i < 0 ∨ ((arrOf s q).length : Int) ≤ i) (u := fun s => s) (fun s => Nat.le_refl _)
theorem fl_put (q : Option Nat) (i n : Int) : Fl (putG q i n) := fl_one (c := fun s => i < 0 ∨ ((arrOf s q).length : Int) ≤ i) (f := fun _ => ()) (u := fun s => { s with hp := s.hp.modify (q.getD 0) (fun l => l.set i.toNat n) }) (fun s => Nat.le_refl _)
theorem fl_both (op : By) (a b : Int) : Fl (bothG op a b) := by
 unfold bothG
 repeat' first | exact fl_gp _ | exact fl_gt _ | refine fl_if ?_ ?_
theorem ji (fs : By → Option Fun) : ∀ (g : Nat), (∀ d o t, Fl (evE fs g d o t)) ∧ (∀ d o t, Fl (evA fs g d o t)) ∧ (∀ d o t, Fl (evB fs g d o t)) ∧ (∀ d o t, Fl (evS fs g d o t)) ∧ (∀ d o v t, Fl (evW fs g d o v t))
 | 0 => ⟨fun _ _ _ => by rw [evE_0]; exact fl_gt _, fun _ _ _ => by rw [evA_0]; exact fl_gt _, fun _ _ _ => by rw [evB_0]; exact fl_gt _, fun _ _ _ => by rw [evS_0]; exact fl_gt _, fun _ _ _ _ => by rw [evW_0]; exact fl_gt _⟩
 | g + 1 => by
  obtain ⟨iE, iA, iB, iS, iW⟩ := ji fs g
  refine ⟨fun d o t => ?_, fun d o t => ?_, fun d o t => ?_, fun d o t => ?_, fun d o v t => ?_⟩
  ·rw [qN]
   split
   ·rename_i nm _ _ _ _
    cases hf : fs nm <;> simp only [hf]
    all_goals repeat' first | exact fl_gp _ | exact fl_gt _ | exact iE _ _ _ | exact iA _ _ _ | exact iB _ _ _ | exact fl_new _ | exact fl_len _ | exact fl_item _ _ | exact fl_take | exact fl_both _ _ _ | refine fl_if ?_ ?_ | (refine fl_gb ?_ fun _ => ?_)
   ·exact fl_gt _
  ·rw [evA_1]
   split
   ·exact fl_gb (iE _ _ _) fun _ => fl_gb (iA _ _ _) fun _ => fl_gp _
   ·exact fl_gp _
  ·rw [evB_1]
   split
   ·exact fl_gb fl_pay fun _ => fl_gb (iS _ _ _) fun _ => fl_if (fl_gp _) (iB _ _ _)
   ·exact fl_gp _
  ·rw [evS_1]
   split
   ·repeat' first | exact fl_gp _ | exact fl_gt _ | exact iE _ _ _ | exact iW _ _ _ _ | exact iB _ _ _ | exact fl_put _ _ _ | exact fl_tell _ | refine fl_if ?_ ?_ | (refine fl_gb ?_ fun _ => ?_)
   ·exact fl_gt _
  ·rw [evW_1]
   exact fl_gb (iE _ _ _) fun _ => fl_if (fl_gp _) (fl_gb (iB _ _ _) fun _ => fl_if (fl_gp _) (fl_gb fl_pay fun _ => iW _ _ _ _))
theorem gm_trans {α : Type} {x y z : Go1 α} (h1 : Gm x y) (h2 : Gm y z) : Gm x z := fun s => by
 rcases h1 s with h | h
 ·exact .inl h
 ·rcases h2 s with ⟨o, e⟩ | e
  ·exact .inl ⟨o, by rw [← h, e]⟩
  ·exact .inr (by rw [e, h])
theorem gb_ok {α β : Type} {x : Go1 α} {f : α → Go1 β} {s s1 : Sg} {a : α} (h : x s = .ok (a, s1)) : gb x f s = f a s1 := by unfold gb; rw [h]
theorem gb_er {α β : Type} {x : Go1 α} {f : α → Go1 β} {s : Sg} {e : Int × List Int} (h : x s = .error e) : gb x f s = .error e := by unfold gb; rw [h]
def Up {α : Type} (x : Nat → Go1 α) : Prop := ∀ g, Gm (x g) (x (g + 1))
theorem Up.le {α : Type} {x : Nat → Go1 α} (h : Up x) (g : Nat) : ∀ k, Gm (x g) (x (g + k))
 | 0 => jh _
 | k + 1 => gm_trans (h.le g k) (h (g + k))
def Tm {α : Type} (x : Nat → Go1 α) (s : Sg) : Prop := ∃ g, ∀ o, x g s ≠ .error (99, o)
def Qm {α : Type} (n : Nat) (x : Nat → Go1 α) : Prop := Up x ∧ (∀ g, Fl (x g)) ∧ ∀ s, s.fuel ≤ n → Tm x s
theorem q_gb {α β : Type} {n : Nat} {x : Nat → Go1 α} {f : Nat → α → Go1 β} (hx : Qm n x) (hf : ∀ a, Qm n (fun g => f g a)) : Qm n (fun g => gb (x g) (f g)) := by
 refine ⟨fun g => gm_gb (hx.1 g) fun a => (hf a).1 g, fun g => fl_gb (hx.2.1 g) fun a => (hf a).2.1 g, fun s hs => ?_⟩
 obtain ⟨g1, h1⟩ := hx.2.2 s hs
 cases e : x g1 s with
 | error z =>
  refine ⟨g1, fun o ho => h1 o ?_⟩
  have ho' : gb (x g1) (f g1) s = .error (99, o) := ho
  rw [gb_er e] at ho'
  injection ho' with ho'
  rw [e, ho']
 | ok z =>
  obtain ⟨a, s1⟩ := z
  obtain ⟨g2, h2⟩ := (hf a).2.2 s1 (Nat.le_trans (hx.2.1 g1 s a s1 e) hs)
  refine ⟨g1 + g2, fun o ho => ?_⟩
  have e1 : x (g1 + g2) s = .ok (a, s1) := by
   rcases hx.1.le g1 g2 s with ⟨o', h⟩ | h
   ·exact absurd h (h1 o')
   ·rw [h, e]
  have e2 : f (g1 + g2) a s1 = f g2 a s1 := by
   rcases (hf a).1.le g2 g1 s1 with ⟨o', h⟩ | h
   ·exact absurd h (h2 o')
   ·rw [Nat.add_comm]; exact h
  have ho' : gb (x (g1 + g2)) (f (g1 + g2)) s = .error (99, o) := ho
  rw [gb_ok e1, e2] at ho'
  exact h2 o ho'
theorem q_if {α : Type} {n : Nat} {c : Prop} [Decidable c] {x y : Nat → Go1 α} (hx : c → Qm n x) (hy : ¬ c → Qm n y) : Qm n (fun g => if c then x g else y g) := by
 by_cases h : c
 ·simp only [if_pos h]; exact hx h
 ·simp only [if_neg h]; exact hy h
def N9 {α : Type} (y : Go1 α) : Prop := ∀ s o, y s ≠ .error (99, o)
theorem q_c {α : Type} {n : Nat} {y : Go1 α} (h : N9 y) (hf : Fl y) : Qm n (fun _ => y) := ⟨fun _ => jh _, fun _ => hf, fun s _ => ⟨0, h s⟩⟩
theorem n9_gp {α : Type} (a : α) : N9 (gp a) := fun s o h => (by cases h)
theorem n9_gt {α : Type} (w : Int) (hw : w ≠ 99) : N9 (gt (α := α) w) := fun s o h => by
 injection h with h
 injection h with h _
 exact hw h
theorem n9_one {α : Type} {c : Sg → Prop} [DecidablePred c] {w : Int} (hw : w ≠ 99) {f : Sg → α} {u : Sg → Sg} : N9 (fun s => if c s then .error (w, s.out) else .ok (f s, u s) : Go1 α) := fun s o h => by
 dsimp only at h
 split at h
 ·injection h with h
  injection h with h _
  exact hw h
 ·cases h
theorem n9_if {α : Type} {c : Prop} [Decidable c] {x y : Go1 α} (hx : N9 x) (hy : N9 y) : N9 (if c then x else y) := by
 split
 ·exact hx
 ·exact hy
theorem n9_pay : N9 pay := n9_one (by decide)
theorem n9_tell (n : Int) : N9 (tellG n) := n9_one (by decide)
theorem n9_take : N9 takeG := fun s o h => (by cases h)
theorem n9_new (n : Int) : N9 (newG n) := n9_one (c := fun _ => n < 0 ∨ 40 < n) (f := fun s => ((0 : Int), some s.hp.length)) (by decide)
theorem n9_len (q : Option Nat) : N9 (lenG q) := fun s o h => (by cases h)
theorem n9_item (q : Option Nat) (i : Int) : N9 (itemG q i) := n9_one (c := fun s => i < 0 ∨ ((arrOf s q).length : Int) ≤ i) (by decide)
theorem n9_put (q : Option Nat) (i n : Int) : N9 (putG q i n) := n9_one (c := fun s => i < 0 ∨ ((arrOf s q).length : Int) ≤ i) (f := fun _ => ()) (by decide)
theorem n9_both (op : By) (a b : Int) : N9 (bothG op a b) := by
 unfold bothG
 repeat' first | exact n9_gp _ | exact n9_gt _ (by decide) | refine n9_if ?_ ?_
theorem q_pay {α : Type} {n : Nat} {f : Nat → Go1 α} (uf : Up f) (ff : ∀ g, Fl (f g)) (h : ∀ n', n' < n → Qm n' f) : Qm n (fun g => gb pay fun _ => f g) := by
 refine ⟨fun g => gm_gb (jh _) fun _ => uf g, fun g => fl_gb fl_pay fun _ => ff g, fun s hs => ?_⟩
 by_cases h0 : s.fuel = 0
 ·refine ⟨0, fun o ho => ?_⟩
  have e : pay s = .error (6, s.out) := if_pos h0
  have ho' : gb pay (fun _ => f 0) s = .error (99, o) := ho
  rw [gb_er e] at ho'
  injection ho' with ho'
  injection ho' with ho' _
  exact absurd ho' (by decide)
 ·obtain ⟨g, hg⟩ := (h (s.fuel - 1) (by omega)).2.2 { s with fuel := s.fuel - 1 } (Nat.le_refl _)
  refine ⟨g, fun o ho => hg o ?_⟩
  have e : pay s = .ok ((), { s with fuel := s.fuel - 1 }) := if_neg h0
  have ho' : gb pay (fun _ => f g) s = .error (99, o) := ho
  rw [gb_ok e] at ho'
  exact ho'
theorem shE (t : Tr) : (∃ k1 c k2 a k3 n nm op l r xs, t = .agg [.lit (.int k1 c), .lit (.int k2 a), .lit (.int k3 n), .lit (.string nm), .lit (.string op), l, r, xs]) ∨ (∀ fs g d o, evE fs (g + 1) d o t = gt 97) := by
 by_cases h : ∃ k1 c k2 a k3 n nm op l r xs, t = .agg [.lit (.int k1 c), .lit (.int k2 a), .lit (.int k3 n), .lit (.string nm), .lit (.string op), l, r, xs]
 ·exact .inl h
 ·refine .inr fun fs g d o => ?_
  rw [qN]
  split
  ·exact absurd ⟨_, _, _, _, _, _, _, _, _, _, _, rfl⟩ h
  ·rfl
theorem shL (t : Tr) : (∃ x xs, t = .slice [x] [xs]) ∨ ((∀ fs g d o, evA fs (g + 1) d o t = gp []) ∧ (∀ fs g d o, evB fs (g + 1) d o t = gp (none, o))) := by
 by_cases h : ∃ x xs, t = .slice [x] [xs]
 ·exact .inl h
 ·refine .inr ⟨fun fs g d o => ?_, fun fs g d o => ?_⟩
  ·rw [evA_1]
   split
   ·exact absurd ⟨_, _, rfl⟩ h
   ·rfl
  ·rw [evB_1]
   split
   ·exact absurd ⟨_, _, rfl⟩ h
   ·rfl
theorem shS (t : Tr) : (∃ k1 c k2 a nm ix v th el, t = .agg [.lit (.int k1 c), .lit (.int k2 a), .lit (.string nm), ix, v, th, el]) ∨ (∀ fs g d o, evS fs (g + 1) d o t = gt 97) := by
 by_cases h : ∃ k1 c k2 a nm ix v th el, t = .agg [.lit (.int k1 c), .lit (.int k2 a), .lit (.string nm), ix, v, th, el]
 ·exact .inl h
 ·refine .inr fun fs g d o => ?_
  rw [evS_1]
  split
  ·exact absurd ⟨_, _, _, _, _, _, _, _, _, rfl⟩ h
  ·rfl
theorem q_shift {α : Type} {n : Nat} {x : Nat → Go1 α} (u : Up x) (f : ∀ g, Fl (x g)) (h : Qm n (fun g => x (g + 1))) : Qm n x := ⟨u, f, fun s hs => by
 obtain ⟨g, hg⟩ := h.2.2 s hs
 exact ⟨g + 1, hg⟩⟩
def AllQ (fs : By → Option Fun) (D n m : Nat) : Prop :=
 (∀ (d : Nat) (o : Own) (t : Tr), 40 - d ≤ D → SizeOf.sizeOf t ≤ m → Qm n (fun g => evE fs g d o t)) ∧ (∀ (d : Nat) (o : Own) (t : Tr), 40 - d ≤ D → SizeOf.sizeOf t ≤ m → Qm n (fun g => evA fs g d o t)) ∧ (∀ (d : Nat) (o : Own) (t : Tr), 40 - d ≤ D → SizeOf.sizeOf t ≤ m → Qm n (fun g => evB fs g d o t)) ∧ (∀ (d : Nat) (o : Own) (t : Tr), 40 - d ≤ D → SizeOf.sizeOf t ≤ m → Qm n (fun g => evS fs g d o t)) ∧ (∀ (d : Nat) (o : Own) (v t : Tr), 40 - d ≤ D → SizeOf.sizeOf v + SizeOf.sizeOf t ≤ m → Qm n (fun g => evW fs g d o v t))
theorem below_all {p : Nat → Prop} (h : ∀ n, (∀ m, m < n → p m) → p n) (n : Nat) : p n := by
 have : ∀ k m, m < k → p m := fun k => by
  induction k with
  | zero => intro m hm; omega
  | succ k ih => intro m hm; exact h m (fun q hq => ih q (by omega))
 exact this (n + 1) n (by omega)
theorem q_all (fs : By → Option Fun) (D n m : Nat) : AllQ fs D n m := by
 revert n m
 refine below_all (p := fun D => ∀ n m, AllQ fs D n m) (fun D iD => ?_) D
 intro n
 refine below_all (p := fun n => ∀ m, AllQ fs D n m) (fun n iN => ?_) n
 intro m
 refine below_all (p := fun m => AllQ fs D n m) (fun m iM => ?_) m
 have uE : ∀ d o t, Up (fun g => evE fs g d o t) := fun d o t g => (gm_all fs g).1 d o t
 have uA : ∀ d o t, Up (fun g => evA fs g d o t) := fun d o t g => (gm_all fs g).2.1 d o t
 have uB : ∀ d o t, Up (fun g => evB fs g d o t) := fun d o t g => (gm_all fs g).2.2.1 d o t
 have uS : ∀ d o t, Up (fun g => evS fs g d o t) := fun d o t g => (gm_all fs g).2.2.2.1 d o t
 have uW : ∀ d o v t, Up (fun g => evW fs g d o v t) := fun d o v t g => (gm_all fs g).2.2.2.2 d o v t
 have fE : ∀ d o t g, Fl (evE fs g d o t) := fun d o t g => (ji fs g).1 d o t
 have fA : ∀ d o t g, Fl (evA fs g d o t) := fun d o t g => (ji fs g).2.1 d o t
 have fB : ∀ d o t g, Fl (evB fs g d o t) := fun d o t g => (ji fs g).2.2.1 d o t
 have fS : ∀ d o t g, Fl (evS fs g d o t) := fun d o t g => (ji fs g).2.2.2.1 d o t
 have fW : ∀ d o v t g, Fl (evW fs g d o v t) := fun d o v t g => (ji fs g).2.2.2.2 d o v t
 refine ⟨fun d o t hD hm => ?_, fun d o t hD hm => ?_, fun d o t hD hm => ?_, fun d o t hD hm => ?_, fun d o v t hD hm => ?_⟩
 ·refine q_shift (uE d o t) (fE d o t) ?_
  rcases shE t with ⟨k1, c, k2, a, k3, z, nm, op, l, r, xs, rfl⟩ | h
  ·have sl : SizeOf.sizeOf l < m := Nat.lt_of_lt_of_le (by simp; omega) hm
   have sr : SizeOf.sizeOf r < m := Nat.lt_of_lt_of_le (by simp; omega) hm
   have sx : SizeOf.sizeOf xs < m := Nat.lt_of_lt_of_le (by simp; omega) hm
   have hl : Qm n (fun g => evE fs g d o l) := (iM _ sl).1 d o l hD (Nat.le_refl _)
   have hr : Qm n (fun g => evE fs g d o r) := (iM _ sr).1 d o r hD (Nat.le_refl _)
   have hx : Qm n (fun g => evA fs g d o xs) := (iM _ sx).2.1 d o xs hD (Nat.le_refl _)
   have hb : ∀ o b, ¬ 40 ≤ d → Qm n (fun g => evB fs g (d + 1) o b) := fun o b h => (iD (40 - (d + 1)) (by omega) n (SizeOf.sizeOf b)).2.2.1 (d + 1) o b (Nat.le_refl _) (Nat.le_refl _)
   simp only [qN]
   cases hf : fs nm <;> simp only
   all_goals repeat' first | exact hl | exact hr | exact hx | exact q_c (n9_gp _) (fl_gp _) | exact q_c (n9_gt _ (by decide)) (fl_gt _) | exact q_c (n9_new _) (fl_new _) | exact q_c (n9_len _) (fl_len _) | exact q_c (n9_item _ _) (fl_item _ _) | exact q_c n9_take fl_take | exact q_c (n9_both _ _ _) (fl_both _ _ _) | (refine q_if (fun _ => ?_) (fun h => ?_)) | exact hb _ _ h | (refine q_gb ?_ fun _ => ?_)
  ·simp only [h]
   exact q_c (n9_gt _ (by decide)) (fl_gt _)
 ·refine q_shift (uA d o t) (fA d o t) ?_
  rcases shL t with ⟨x, xs, rfl⟩ | ⟨h, _⟩
  ·have sx : SizeOf.sizeOf x < m := Nat.lt_of_lt_of_le (by simp; omega) hm
   have sg : SizeOf.sizeOf xs < m := Nat.lt_of_lt_of_le (by simp; omega) hm
   simp only [evA_1]
   exact q_gb ((iM _ sx).1 d o x hD (Nat.le_refl _)) fun _ => q_gb ((iM _ sg).2.1 d o xs hD (Nat.le_refl _)) fun _ => q_c (n9_gp _) (fl_gp _)
  ·simp only [h]
   exact q_c (n9_gp _) (fl_gp _)
 ·refine q_shift (uB d o t) (fB d o t) ?_
  rcases shL t with ⟨x, xs, rfl⟩ | ⟨_, h⟩
  ·have sx : SizeOf.sizeOf x < m := Nat.lt_of_lt_of_le (by simp; omega) hm
   have sg : SizeOf.sizeOf xs < m := Nat.lt_of_lt_of_le (by simp; omega) hm
   simp only [evB_1]
   refine q_gb (q_c n9_pay fl_pay) fun _ => q_gb ((iM _ sx).2.2.2.1 d o x hD (Nat.le_refl _)) fun r => ?_
   exact q_if (fun _ => q_c (n9_gp _) (fl_gp _)) (fun _ => (iM _ sg).2.2.1 d r.2 xs hD (Nat.le_refl _))
  ·simp only [h]
   exact q_c (n9_gp _) (fl_gp _)
 ·refine q_shift (uS d o t) (fS d o t) ?_
  rcases shS t with ⟨k1, c, k2, a, nm, ix, v, th, el, rfl⟩ | h
  ·have si : SizeOf.sizeOf ix < m := Nat.lt_of_lt_of_le (by simp; omega) hm
   have sv : SizeOf.sizeOf v < m := Nat.lt_of_lt_of_le (by simp; omega) hm
   have st' : SizeOf.sizeOf th < m := Nat.lt_of_lt_of_le (by simp; omega) hm
   have se : SizeOf.sizeOf el < m := Nat.lt_of_lt_of_le (by simp; omega) hm
   have sw : SizeOf.sizeOf v + SizeOf.sizeOf th < m := Nat.lt_of_lt_of_le (by simp; omega) hm
   have hi : Qm n (fun g => evE fs g d o ix) := (iM _ si).1 d o ix hD (Nat.le_refl _)
   have hv : Qm n (fun g => evE fs g d o v) := (iM _ sv).1 d o v hD (Nat.le_refl _)
   have ht : Qm n (fun g => evB fs g d o th) := (iM _ st').2.2.1 d o th hD (Nat.le_refl _)
   have he : Qm n (fun g => evB fs g d o el) := (iM _ se).2.2.1 d o el hD (Nat.le_refl _)
   have hw : Qm n (fun g => evW fs g d o v th) := (iM _ sw).2.2.2.2 d o v th hD (Nat.le_refl _)
   simp only [evS_1]
   repeat' first | exact hi | exact hv | exact ht | exact he | exact hw | exact q_c (n9_gp _) (fl_gp _) | exact q_c (n9_put _ _ _) (fl_put _ _ _) | exact q_c (n9_tell _) (fl_tell _) | (refine q_if (fun _ => ?_) (fun h => ?_)) | (refine q_gb ?_ fun _ => ?_)
  ·simp only [h]
   exact q_c (n9_gt _ (by decide)) (fl_gt _)
 ·refine q_shift (uW d o v t) (fW d o v t) ?_
  have pt : 0 < SizeOf.sizeOf t := by cases t <;> simp <;> omega
  have pv : 0 < SizeOf.sizeOf v := by cases v <;> simp <;> omega
  simp only [evW_1]
  refine q_gb ((iM (SizeOf.sizeOf v) (by omega)).1 d o v hD (Nat.le_refl _)) fun x => q_if (fun _ => q_c (n9_gp _) (fl_gp _)) (fun _ => ?_)
  refine q_gb ((iM (SizeOf.sizeOf t) (by omega)).2.2.1 d o t hD (Nat.le_refl _)) fun r => q_if (fun _ => q_c (n9_gp _) (fl_gp _)) (fun _ => ?_)
  exact q_pay (uW d r.2 v t) (fW d r.2 v t) fun n' hn' => (iN n' hn' m).2.2.2.2 d r.2 v t hD hm
theorem run_ends (L : List Fun) (inp : List Int) (a : Nat) : ∃ g, ∀ k, (rnV (g + k) L inp a).1 ≠ 99 ∧ rnV (g + k) L inp a = rnV g L inp a := by
 have q := (q_all (fun nm => L.find? (fun F => F.nm == nm)) 40 a _).1 0 [] (nd 5 0 0 [109, 97, 105, 110] [] .nil .nil ce) (Nat.le_refl _) (Nat.le_refl _)
 obtain ⟨g, hg⟩ := q.2.2 ⟨a, inp, [], []⟩ (Nat.le_refl _)
 refine ⟨g, fun k => ?_⟩
 have e : evE (fun nm => L.find? (fun F => F.nm == nm)) (g + k) 0 [] (nd 5 0 0 [109, 97, 105, 110] [] .nil .nil ce) ⟨a, inp, [], []⟩ = evE (fun nm => L.find? (fun F => F.nm == nm)) g 0 [] (nd 5 0 0 [109, 97, 105, 110] [] .nil .nil ce) ⟨a, inp, [], []⟩ := by
  rcases q.1.le g k ⟨a, inp, [], []⟩ with ⟨o, h⟩ | h
  ·exact absurd h (hg o)
  ·exact h
 refine ⟨?_, by unfold rnV; rw [e]⟩
 unfold rnV
 rw [e]
 split
 ·rename_i w o h
  intro e9
  have e9' : w = 99 := e9
  subst e9'
  exact hg o h
 ·show (1 : Int) ≠ 99
  decide
def GoS (X : Cx) (g : Nat) (t : Tr) (v : Value) : Prop := ∀ (w : World) (r : Rs) (d M n K : Nat) (o : Own), St X.w0 X.P X.fv w r d → OwS w M n r.ab o → X.w0.heap.size ≤ M → n + 1 + r.s.fuel ≤ K → K ≤ 10000000 → (∀ out, evS X.fs g d o t r.s ≠ .error (99, out)) → Cal v M w (SP X w r d M K (evS X.fs g d o t r.s))
def GoB (X : Cx) (g : Nat) (t : Tr) (v : Value) : Prop := ∀ (w : World) (r : Rs) (d M n K : Nat) (o : Own), St X.w0 X.P X.fv w r d → OwS w M n r.ab o → X.w0.heap.size ≤ M → n + r.s.fuel ≤ K → K ≤ 10000000 → (∀ out, evB X.fs g d o t r.s ≠ .error (99, out)) → Cal v M w (SP X w r d M K (evB X.fs g d o t r.s))
theorem sp_err {X : Cx} {w : World} {r : Rs} {d M K : Nat} {w1 : World} {r1 : Rs} {k : Int} {out : List Int} {e : Ending} (h1 : St X.w0 X.P X.fv w1 r1 d) (hf : Fz X.P (fun b => b = M) w r w1 r1) (he : Ends9 r1 out k e) : SP X w r d M K (.error (k, out)) e w1 := ⟨r1, h1, hf, .inr (.inr ⟨k, out, rfl, he⟩)⟩
theorem sp_end {X : Cx} {w : World} {r : Rs} {d M K : Nat} {w1 : World} {r1 : Rs} {k : Int} (h1 : St X.w0 X.P X.fv w1 r1 d) (hf : Fz X.P (fun b => b = M) w r w1 r1) : SP X w r d M K (.error (k, r1.s.out)) (endE k) w1 := sp_err h1 hf ⟨rfl, [], rfl, fun z hz => by cases hz⟩
theorem es_6 (fs : By → Option Fun) (g d : Nat) (o : Own) (a : Int) (nm : By) (ix v th el : Tr) : evS fs (g + 1) d o (st 6 a nm ix v th el) = gb (evE fs g d o v) fun x => gp (some x.1, o) := by rw [evS_1]; simp
theorem es_7 (fs : By → Option Fun) (g d : Nat) (o : Own) (a : Int) (nm : By) (ix v th el : Tr) : evS fs (g + 1) d o (st 7 a nm ix v th el) = gb (evE fs g d o v) fun x => gb (tellG x.1) fun _ => gp (none, o) := by rw [evS_1]; simp
theorem es_8 (fs : By → Option Fun) (g d : Nat) (o : Own) (a : Int) (nm : By) (ix v th el : Tr) : evS fs (g + 1) d o (st 8 a nm ix v th el) = gb (evE fs g d o v) fun _ => gp (none, o) := by rw [evS_1]; simp
theorem ow_on {X : Cx} {w : World} {r : Rs} {d M n K : Nat} {o : Own} {w1 : World} {r1 : Rs} (hs : St X.w0 X.P X.fv w r d) (ho : OwS w M n r.ab o) (hf : Fz X.P NoE w r w1 r1) (hfl : r1.s.fuel ≤ r.s.fuel) (hK : n + 1 + r.s.fuel ≤ K) : OwS w1 M n r1.ab o ∧ n + 1 + r1.s.fuel ≤ K := ⟨ho.keeps hs hf, by omega⟩
theorem go_ret6 {X : Cx} (hP : PbO X) {g bv : Nat} {a : Int} {nm : By} {ix v th el : Tr} {vv : Value} (hb : X.w0.heap[bv]? = some (.cells #[vv] 245)) (hv : GoE X g v vv) : GoS X (g + 1) (st 6 a nm ix v th el) (.func (.func 139) #[] #[ptr bv]) := by
 intro w r0 d M m K o hs ho hM hK hK7 hne
 rw [es_6] at hne ⊢
 have h1 := hs.old hb hP (by decide)
 have c1 := z_ (i := 0) h1 rfl
 have HS : Hid (St X.w0 X.P X.fv w r0 d) := hs
 have HO : Hid (OwS w M m r0.ab o) := ho
 have HK : Hid (m + 1 + r0.s.fuel ≤ K ∧ K ≤ 10000000) := ⟨hK, hK7⟩
 have HP : Hid (PbO X) := hP
 obtain ⟨k, cap, rfl, hen, hc⟩ := hv w r0 d M m o hs ho (zW hne).1
 have HC : Hid (Calls Tryz.prog k (#[.map (some M)] ++ cap) w (EP X w r0 d (evE X.fs g d o v r0.s))) := hc
 have HFl : Hid (∀ y s1, evE X.fs g d o v r0.s = .ok (y, s1) → s1.fuel ≤ r0.s.fuel) := fun y s1 h => (ji X.fs g).1 d o v r0.s y s1 h
 have hen' : ∀ (args : Array Value) (w : World), (callFunc k args).run Tryz.prog w = .ok (.enter k args) w := hen
 refine ⟨139, _, rfl, ent139, ?_⟩
 show Calls Tryz.prog 139 #[.map (some M), ptr bv] w _
 generalize hG : SP X w r0 d M K (gb (evE X.fs g d o v) (fun x => gp (some x.1, o)) r0.s) = G
 have HG : Hid (SP X w r0 d M K (gb (evE X.fs g d o v) (fun x => gp (some x.1, o)) r0.s) = G) := hG
 clear hs ho hne hb h1 hG hc hv hen hK hK7 hP
 have hf0 := fv0
 go_enter Tryz.func139, Tryz.ntmps139
 go_wp2
 refine HC.out.mono ?_
 rintro e w1 ⟨r1, h1, hf, ⟨y, p, ll, c, hx, rfl, hq⟩ | ⟨k9, out, hx, he9⟩⟩
 rotate_left
 ·obtain ⟨_, older, rfl, _⟩ := id he9
  refine ⟨rfl, ?_⟩
  rw [← HG.out, qR hx]
  exact sp_err h1 hf.no he9
 have HF : Hid (St X.w0 X.P X.fv w1 r1 d ∧ Fz X.P NoE w r0 w1 r1) := ⟨h1, hf⟩
 have HX : Hid (evE X.fs g d o v r0.s = .ok (y, r1.s)) := hx
 have HW : Hid (OwS w1 M m r1.ab o ∧ m + 1 + r1.s.fuel ≤ K) := ow_on HS.out HO.out hf (HFl.out _ _ hx) HK.out.1
 clear h1 hf hx hq
 go_wp2
 refine ⟨rfl, ?_⟩
 rw [← HG.out, zR HX.out]
 exact ⟨r1, HF.out.1, HF.out.2.no, .inr (.inl ⟨y.1, o, rfl, rfl⟩)⟩
theorem go_do8 {X : Cx} (hP : PbO X) {g bv : Nat} {a : Int} {nm : By} {ix v th el : Tr} {vv : Value} (hb : X.w0.heap[bv]? = some (.cells #[vv] 245)) (hv : GoE X g v vv) : GoS X (g + 1) (st 8 a nm ix v th el) (.func (.func 142) #[] #[ptr bv]) := by
 intro w r0 d M m K o hs ho hM hK hK7 hne
 rw [es_8] at hne ⊢
 have h1 := hs.old hb hP (by decide)
 have c1 := z_ (i := 0) h1 rfl
 have HS : Hid (St X.w0 X.P X.fv w r0 d) := hs
 have HO : Hid (OwS w M m r0.ab o) := ho
 have HK : Hid (m + 1 + r0.s.fuel ≤ K ∧ K ≤ 10000000) := ⟨hK, hK7⟩
 have HP : Hid (PbO X) := hP
 obtain ⟨k, cap, rfl, hen, hc⟩ := hv w r0 d M m o hs ho (zW hne).1
 have HC : Hid (Calls Tryz.prog k (#[.map (some M)] ++ cap) w (EP X w r0 d (evE X.fs g d o v r0.s))) := hc
 have HFl : Hid (∀ y s1, evE X.fs g d o v r0.s = .ok (y, s1) → s1.fuel ≤ r0.s.fuel) := fun y s1 h => (ji X.fs g).1 d o v r0.s y s1 h
 have hen' : ∀ (args : Array Value) (w : World), (callFunc k args).run Tryz.prog w = .ok (.enter k args) w := hen
 refine ⟨142, _, rfl, ent142, ?_⟩
 show Calls Tryz.prog 142 #[.map (some M), ptr bv] w _
 generalize hG : SP X w r0 d M K (gb (evE X.fs g d o v) (fun _ => gp (none, o)) r0.s) = G
 have HG : Hid (SP X w r0 d M K (gb (evE X.fs g d o v) (fun _ => gp (none, o)) r0.s) = G) := hG
 clear hs ho hne hb h1 hG hc hv hen hK hK7 hP
 have hf0 := fv0
 go_enter Tryz.func142, Tryz.ntmps142
 go_wp2
 refine HC.out.mono ?_
 rintro e w1 ⟨r1, h1, hf, ⟨y, p, ll, c, hx, rfl, hq⟩ | ⟨k9, out, hx, he9⟩⟩
 rotate_left
 ·obtain ⟨_, older, rfl, _⟩ := id he9
  refine ⟨rfl, ?_⟩
  rw [← HG.out, qR hx]
  exact sp_err h1 hf.no he9
 have HF : Hid (St X.w0 X.P X.fv w1 r1 d ∧ Fz X.P NoE w r0 w1 r1) := ⟨h1, hf⟩
 have HX : Hid (evE X.fs g d o v r0.s = .ok (y, r1.s)) := hx
 have HW : Hid (OwS w1 M m r1.ab o ∧ m + 1 + r1.s.fuel ≤ K) := ow_on HS.out HO.out hf (HFl.out _ _ hx) HK.out.1
 clear h1 hf hx hq
 go_wp2
 go_end0
 rw [← HG.out, zR HX.out]
 exact ⟨r1, HF.out.1, HF.out.2.no, .inl ⟨o, m, rfl, rfl, HW.out.1, by have := HW.out.2; omega⟩⟩
theorem go_print7 {X : Cx} (hP : PbO X) {g bv bp : Nat} {a : Int} {nm : By} {ix v th el : Tr} {vv : Value} (hbp : X.w0.heap[bp]? = some (.cells #[ptr X.P] 57)) (hb : X.w0.heap[bv]? = some (.cells #[vv] 245)) (hv : GoE X g v vv) : GoS X (g + 1) (st 7 a nm ix v th el) (.func (.func 140) #[] #[ptr bp, ptr bv]) := by
 intro w r0 d M m K o hs ho hM hK hK7 hne
 rw [es_7] at hne ⊢
 have c1 : w.cell? ⟨bv, 0, none⟩ = some vv := z_ (i := 0) (hs.old hb hP (by decide)) rfl
 have c0 : w.cell? ⟨bp, 0, none⟩ = some (ptr X.P) := z_ (i := 0) (hs.old hbp hP (by decide)) rfl
 have HBp : Hid (X.w0.heap[bp]? = some (.cells #[ptr X.P] 57)) := hbp
 have HS : Hid (St X.w0 X.P X.fv w r0 d) := hs
 have HO : Hid (OwS w M m r0.ab o) := ho
 have HK : Hid (m + 1 + r0.s.fuel ≤ K ∧ K ≤ 10000000) := ⟨hK, hK7⟩
 have HP : Hid (PbO X) := hP
 obtain ⟨k, cap, rfl, hen, -⟩ := hv w r0 d M m o hs ho (zW hne).1
 have HC : Hid (∀ W, Below w.heap.size w W → Calls Tryz.prog k (#[.map (some M)] ++ cap) W (EP X W r0 d (evE X.fs g d o v r0.s))) := fun W hbW => by
  obtain ⟨k3, cap3, e3, _, hc3⟩ := hv W r0 d M m o (hs.below hbW) (ho.below hbW) (zW hne).1
  injection e3 with e3 _ e4
  injection e3 with e3
  subst e3
  subst e4
  exact hc3
 have HFl : Hid (∀ y s1, evE X.fs g d o v r0.s = .ok (y, s1) → s1.fuel ≤ r0.s.fuel) := fun y s1 h => (ji X.fs g).1 d o v r0.s y s1 h
 have hen' : ∀ (args : Array Value) (w : World), (callFunc k args).run Tryz.prog w = .ok (.enter k args) w := hen
 refine ⟨140, _, rfl, ent140, ?_⟩
 show Calls Tryz.prog 140 #[.map (some M), ptr bp, ptr bv] w _
 generalize hG : SP X w r0 d M K (gb (evE X.fs g d o v) (fun x => gb (tellG x.1) fun _ => gp (none, o)) r0.s) = G
 have HG : Hid (SP X w r0 d M K (gb (evE X.fs g d o v) (fun x => gb (tellG x.1) fun _ => gp (none, o)) r0.s) = G) := hG
 clear hs ho hne hb hG hv hen hK hK7 hP hbp
 have hf0 := fv0
 go_enter Tryz.func140, Tryz.ntmps140
 go_wp2_with fail
 go_region_with
  (first
   |(go_at_call 141; refine (tell_any X _ r1 d _ HF.out.1).mono ?_; rintro e w2 (⟨h2, rfl, rfl⟩ | ⟨h2, rfl, ov, h3, hf3⟩); exact (by refine ⟨rfl, ?_⟩; rw [← HG.out, zR HX.out, show gb (tellG y.1) (fun _ => gp ((none, o) : Option Int × Own)) r1.s = .error (7, r1.s.out) from qR (if_pos h2)]; exact sp_end HF.out.1 HF.out.2.no); have HF3 : Hid (St X.w0 X.P X.fv w2 (r1.tell1 ov y.1) d ∧ Fz X.P NoE w1 r1 w2 (r1.tell1 ov y.1)) := ⟨h3, hf3⟩; have H2 : Hid (r1.s.out.length < 200) := h2; clear h2 h3 hf3)
   |(refine (HC.out _ (by repeat first | exact Below.refl _ _ | refine Below.drew ?_)).mono ?_; rintro e w1 ⟨r1, h1, hf, ⟨y, p, ll, c, hx, rfl, hq⟩ | ⟨k9, out, hx, he9⟩⟩; rotate_left; exact (by obtain ⟨_, older, rfl, _⟩ := id he9; refine ⟨rfl, ?_⟩; rw [← HG.out, qR hx]; exact sp_err h1 ((Fz.below (by repeat first | exact Below.refl _ _ | refine Below.drew ?_)).trans hf).no he9); have HF : Hid (St X.w0 X.P X.fv w1 r1 d ∧ Fz X.P NoE w r0 w1 r1) := ⟨h1, (Fz.below (by repeat first | exact Below.refl _ _ | refine Below.drew ?_)).trans hf⟩; have HX : Hid (evE X.fs g d o v r0.s = .ok (y, r1.s)) := hx; have HW : Hid (OwS w1 M m r1.ab o ∧ m + 1 + r1.s.fuel ≤ K) := ow_on HS.out HO.out HF.out.2 (HFl.out _ _ hx) HK.out.1; have c2 : w1.cell? ⟨bp, 0, none⟩ = some (ptr X.P) := z_ (i := 0) (h1.old HBp.out HP.out (by decide)) rfl; clear h1 hf hx hq))
 all_goals
  go_wp2
  go_end0
  rw [← HG.out, zR HX.out, show gb (tellG y.1) (fun _ => gp ((none, o) : Option Int × Own)) r1.s = .ok ((none, o), (r1.tell1 ov y.1).s) from zR (if_neg (by have := H2.out; omega))]
  exact ⟨_, HF3.out.1, (HF.out.2.trans HF3.out.2).no, .inl ⟨o, m, rfl, rfl, HW.out.1.keeps HF.out.1 HF3.out.2, by have := HW.out.2; show m + r1.s.fuel ≤ K; omega⟩⟩
theorem es_1 (fs : By → Option Fun) (g d : Nat) (o : Own) (c a : Int) (nm : By) (ix v th el : Tr) (hc : c = 1 ∨ c = 2) : evS fs (g + 1) d o (st c a nm ix v th el) = gb (evE fs g d o v) fun x => gp (none, (nm, x) :: o) := by
 rw [evS_1]
 rcases hc with rfl | rfl <;> simp
theorem own1_set (o : Own) (nm : By) (y : Vl) (z : By) : own1 ((nm, y) :: o) z = if z = nm then y else own1 o z := by
 unfold own1
 by_cases h : z = nm
 ·subst h; simp
 ·have : (z == nm) = false := by simpa using h
  rw [if_neg h]
  simp [List.lookup, this]
theorem OwS.notX {X : Cx} {w : World} {r : Rs} {d M n : Nat} {o : Own} (h : OwS w M n r.ab o) (hs : St X.w0 X.P X.fv w r d) : ¬ Xs X.P r M := by
 obtain ⟨f, h1, h2⟩ := h
 obtain ⟨es, clock, ho⟩ := h1.obj
 intro hx
 rcases hx with rfl | hx | hx
 ·rw [hs.pb] at ho; cases ho
 ·obtain ⟨p, hp, rfl⟩ := List.mem_map.1 hx
  obtain ⟨i, hi⟩ := List.getElem?_of_mem hp
  obtain ⟨l, _, _, _, a4⟩ := hs.arr i p.1 p.2 hi
  rw [a4] at ho; cases ho
 ·rcases hs.out.2 with ⟨hv, _⟩ | ⟨g, cap, cur, hv, hb, hg, _⟩
  ·rw [hv] at hx; cases hx
  ·rw [hv] at hx
   have : g = M := by injection hx
   subst this
   rw [hg] at ho; cases ho
theorem St.grown {w0 : World} {P : Nat} {fv : Value} {w w' : World} {r : Rs} {d M : Nat} (h : St w0 P fv w r d) (hg : w.grownBy w' (some M)) (hM : ¬ Xs P r M) (hM0 : w0.heap.size ≤ M) : St w0 P fv w' r d ∧ Fz P (fun b => b = M) w r w' r := by
 have hk : ∀ b, b < w.heap.size → b ≠ M → w'.heap[b]? = w.heap[b]? := fun b hb hn => hg.block b hb (fun e => hn (by injection e))
 have hP := h.ltP
 refine ⟨⟨h.lt, Nat.le_trans h.le hg.size, fun b h1 h2 => ?_, ?_, h.inp, own_at h.out (fun k hk' => hk k (h.out.lt k hk').2 (fun e => hM (.inr (.inr (e ▸ hk'))))), h.apart, h.alen, fun i b n hi => ?_, h.lo, h.nd, h.few, h.told, h.deep⟩, ⟨hg.os, hg.tape, hg.output, hg.size, fun b hb _ he => hk b hb he, List.prefix_rfl, fun b h1 h2 => absurd h1 h2⟩⟩
 ·rw [hk b (Nat.lt_of_lt_of_le h1 h.le) (by omega)]; exact h.kp b h1 h2
 ·rw [hk P hP (fun e => hM (.inl e.symm))]; exact h.pb
 ·obtain ⟨l, a1, a2, a3, a4⟩ := h.arr i b n hi
  refine ⟨l, a1, a2, a3, ?_⟩
  rw [hk b (Array.getElem?_eq_some_iff.1 a4).1 (fun e => hM (.inr (.inl (e ▸ List.mem_map.2 ⟨(b, n), List.mem_of_getElem? hi, rfl⟩))))]
  exact a4
theorem own_put {X : Cx} {w : World} {r : Rs} {d M n : Nat} {o : Own} (h : OwS w M n r.ab o) (hs : St X.w0 X.P X.fv w r d) (hM0 : X.w0.heap.size ≤ M) (hn : n < 100000000) (nm : By) (hnm : nm.length ≤ 1000000) (y : Vl) (p : Option Addr) (l c : Nat) (hq : QvS r.ab y.2 (.slice p l c)) :
  ∃ w', (Instr.mapUpdate 71 (.map (some M)) (.string ⟨nm.toArray⟩) (vlA y.1 (.slice p l c))).run Tryz.prog w = .ok () w' ∧ OwS w' M (n + 1) r.ab ((nm, y) :: o) ∧ St X.w0 X.P X.fv w' r d ∧ Fz X.P (fun b => b = M) w r w' r := by
 have hnX := h.notX hs
 obtain ⟨f, h1, h2⟩ := h
 obtain ⟨w', hrun, hm, hg⟩ := h1.put und71 hn ⟨nm.toArray⟩ (by simpa [ByteArray.size] using hnm) (vlA y.1 (.slice p l c))
 obtain ⟨a1, a2⟩ := hs.grown hg hnX hM0
 have e2 : (⟨nm.toArray⟩ : ByteArray).data.toList = nm := by simp
 rw [e2] at hm
 refine ⟨w', hrun, ⟨_, hm, fun z => ?_⟩, a1, a2⟩
 rw [own1_set]
 by_cases e : z = nm
 ·rw [if_pos e, if_pos e]; exact ⟨_, rfl, hq⟩
 ·rw [if_neg e, if_neg e]; exact h2 z
theorem go_set1 {X : Cx} (hP : PbO X) {g bv bs : Nat} {c0 a : Int} {nm : By} {ix v th el : Tr} {vv : Value} (hc0 : c0 = 1 ∨ c0 = 2) (hnm : nm.length ≤ 1000000) (hbs : StmtC X.w0 bs nm) (hb : X.w0.heap[bv]? = some (.cells #[vv] 245)) (hv : GoE X g v vv) : GoS X (g + 1) (st c0 a nm ix v th el) (.func (.func 143) #[] #[ptr bv, ptr bs]) := by
 intro w r0 d M m K o hs ho hM hK hK7 hne
 rw [es_1 (hc := hc0)] at hne ⊢
 obtain ⟨b, of, hb1, cs, hb2, hcs⟩ := hbs
 have c1 : w.cell? ⟨bv, 0, none⟩ = some vv := z_ (i := 0) (hs.old hb hP (by decide)) rfl
 obtain ⟨ys, hys⟩ : ∃ ys : ByteArray, ys = ⟨nm.toArray⟩ := ⟨_, rfl⟩
 have HCells : Hid (∀ W r, St X.w0 X.P X.fv W r d → W.cell? ⟨bs, 0, none⟩ = some (.pointer (some ⟨b, of, none⟩)) ∧ W.cell? ⟨b, of + 2, none⟩ = some (.string ys) ∧ W.cell? ⟨bv, 0, none⟩ = some vv) := fun W r h => ⟨z_ (i := 0) (h.old hb1 hP (by decide)) rfl, by rw [hys]; exact z_ (h.old hb2 hP (by decide)) hcs, z_ (i := 0) (h.old hb hP (by decide)) rfl⟩
 obtain ⟨d1, d2, d3⟩ := HCells.out w r0 hs
 have HS : Hid (St X.w0 X.P X.fv w r0 d) := hs
 have HO : Hid (OwS w M m r0.ab o) := ho
 have HK : Hid (m + 1 + r0.s.fuel ≤ K ∧ K ≤ 10000000) := ⟨hK, hK7⟩
 have HM : Hid (X.w0.heap.size ≤ M ∧ nm.length ≤ 1000000) := ⟨hM, hnm⟩
 have HYs : Hid (ys = ⟨nm.toArray⟩) := hys
 obtain ⟨k, cap, rfl, hen, -⟩ := hv w r0 d M m o hs ho (zW hne).1
 have HC : Hid (∀ W, Below w.heap.size w W → Calls Tryz.prog k (#[.map (some M)] ++ cap) W (EP X W r0 d (evE X.fs g d o v r0.s))) := fun W hbW => by
  obtain ⟨k3, cap3, e3, _, hc3⟩ := hv W r0 d M m o (hs.below hbW) (ho.below hbW) (zW hne).1
  injection e3 with e3 _ e4
  injection e3 with e3
  subst e3
  subst e4
  exact hc3
 have HFl : Hid (∀ y s1, evE X.fs g d o v r0.s = .ok (y, s1) → s1.fuel ≤ r0.s.fuel) := fun y s1 h => (ji X.fs g).1 d o v r0.s y s1 h
 have hen' : ∀ (args : Array Value) (w : World), (callFunc k args).run Tryz.prog w = .ok (.enter k args) w := hen
 refine ⟨143, _, rfl, ent143, ?_⟩
 show Calls Tryz.prog 143 #[.map (some M), ptr bv, ptr bs] w _
 generalize hG : SP X w r0 d M K (gb (evE X.fs g d o v) (fun x => gp (none, (nm, x) :: o)) r0.s) = G
 have HG : Hid (SP X w r0 d M K (gb (evE X.fs g d o v) (fun x => gp (none, (nm, x) :: o)) r0.s) = G) := hG
 clear hs ho hne hb hG hv hen hK hK7 hP hb1 hb2 hcs hM hnm hys
 go_enter Tryz.func143, Tryz.ntmps143
 go_wp2_with fail
 go_region_with
  (first
   |(refine (HC.out _ (by repeat first | exact Below.refl _ _ | refine Below.drew ?_)).mono ?_; rintro e w1 ⟨r1, h1, hf, ⟨y, p, ll, c, hx, rfl, hq⟩ | ⟨k9, out, hx, he9⟩⟩; rotate_left; exact (by obtain ⟨_, older, rfl, _⟩ := id he9; refine ⟨rfl, ?_⟩; rw [← HG.out, qR hx]; exact sp_err h1 ((Fz.below (by repeat first | exact Below.refl _ _ | refine Below.drew ?_)).trans hf).no he9); have HF : Hid (St X.w0 X.P X.fv w1 r1 d ∧ Fz X.P NoE w r0 w1 r1) := ⟨h1, (Fz.below (by repeat first | exact Below.refl _ _ | refine Below.drew ?_)).trans hf⟩; have HX : Hid (evE X.fs g d o v r0.s = .ok (y, r1.s)) := hx; have hW := ow_on HS.out HO.out HF.out.2 (HFl.out _ _ hx) HK.out.1; have hpt := own_put hW.1 h1 HM.out.1 (by have := HK.out.2; omega) nm HM.out.2 y p ll c hq; rw [← HYs.out] at hpt; obtain ⟨w9, hup, hO9, hS9, hF9⟩ := hpt; have H9 : Hid (OwS w9 M (m + 1) r1.ab ((nm, y) :: o) ∧ St X.w0 X.P X.fv w9 r1 d ∧ Fz X.P (fun b => b = M) w1 r1 w9 r1 ∧ m + 1 + r1.s.fuel ≤ K) := ⟨hO9, hS9, hF9, hW.2⟩; obtain ⟨q1, q2, q3⟩ := HCells.out w1 r1 h1; clear h1 hf hx hq hW hO9 hS9 hF9))
 all_goals
  go_wp2
  go_end0
  rw [← HG.out, zR HX.out]
  exact ⟨r1, H9.out.2.1, HF.out.2.no.trans H9.out.2.2.1, .inl ⟨_, m + 1, rfl, rfl, H9.out.1, H9.out.2.2.2⟩⟩
end Go.Proofs.YtnfhpdbbfejioaaGreatDoor
