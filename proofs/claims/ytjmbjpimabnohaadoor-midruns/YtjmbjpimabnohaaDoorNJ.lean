/- Package mid: reckon at any step; what a round of call needs. -/
import Derived.Test.YtjmbjpimabnohaaDoorNI
namespace Go.Proofs.YtjmbjpimabnohaaDoor.Mid
set_option linter.unusedVariables false
set_option linter.unusedSimpArgs false
open Go Go.RowKit

abbrev Rk8 (c : Int) : Prop := c = 1 ∨ c = 2 ∨ c = 3 ∨ c = 7 ∨ c = 9 ∨ c = 10 ∨ c = 11 ∨ c = 14
theorem rk_any {X : Mx} (hX : MxOk X) (hF : FnsOk X) {F : Mf} {s : Ms} {b o : Nat} (hst : StepAt X.wc b o s) (hok : StOk X.fs F s) (hc : Rk8 s.code) {g d ob : Nat} (hC : CallC X g) {w : World} {r : Rs} {own : List Vl} (hs : Sm X.w0 X.P X.fv w r d) (ho : OwM w ob r.ab own) (hl : own.length = F.types.length) (hk : own.length ≤ 1000000) (hne : ∀ out, reckG X.fs g d s own r.s ≠ .error (99, out)) :
    Calls Tryd.prog 44 (rkA X b o ob own.length) w (RkP X w r d (reckG X.fs g d s own r.s)) := by
  rcases hc with hc | hc | hc | hc | hc | hc | hc | hc
  · exact rk_const hX hst hc hs
  · exact rk_copy hX hst hc hs ho (by rw [hl]; exact hok.a (by omega)) hk
  · exact rk_two hX hst hc hs ho (by rw [hl]; exact hok.a (by omega)) (by rw [hl]; exact hok.b (by omega)) hk
  · exact rk_call hX hF hst hok hc hC hs ho hl hk hne
  · exact rk_new hX hst hc hs ho (by rw [hl]; exact hok.a (by omega)) hk
  · exact rk_len hX hst hc hs ho (by rw [hl]; exact hok.a (by omega)) hk
  · exact rk_load hX hst hc hs ho (by rw [hl]; exact hok.a (by omega)) (by rw [hl]; exact hok.b (by omega)) hk
  · exact rk_input hX hst hc hs
/-- Fuel that is left, of a world. -/
def fuelW (P : Nat) (w : World) : Nat := match w.cell? ⟨P, 3, none⟩ with | some (.int _ n) => n.toNat | _ => 0
theorem fuelW_is {w0 : World} {P : Nat} {fv : Value} {w : World} {r : Rs} {d : Nat} (h : Sm w0 P fv w r d) : fuelW P w = r.s.fuel.toNat := by
  have c3 : w.cell? ⟨P, 3, none⟩ = some (.int .i64 r.s.fuel) := cell_at (i := 3) h.pb rfl
  unfold fuelW
  rw [c3]
/-- Where a call is, round by round. -/
structure LpI (X : Mx) (fb fo mb : Nat) (F : Mf) (w : World) (r0 : Rs) (d ob g : Nat) (o : List Vl) (wr : World) (k : Nat) : Prop where
  at' : ∃ (g' : Nat) (r' : Rs) (o' : List Vl), Sm X.w0 X.P X.fv wr r' (d + 1) ∧ Fz X.P (fun b => b = ob) w r0 wr r' ∧ OwM wr ob r'.ab o' ∧ o'.length = F.types.length ∧ g' ≤ g ∧ k < F.steps.length ∧ goN X.fs g (d + 1) F 0 o r0.s = goN X.fs g' (d + 1) F k o' r'.s
  box : wr.heap[w.heap.size]? = some (.cells #[.pointer (some ⟨fb, fo, none⟩), .map (some mb)] 80)
theorem next_lt {X : Mx} {F : Mf} {fb fo mb : Nat} (h : Rout X F fb fo mb) {k : Nat} {s : Ms} (hs : F.steps[k]? = some s) (h8 : s.code ≠ 8) (h4 : s.code ≠ 4) : k + 1 < F.steps.length := by
  obtain ⟨t, h1, h2⟩ := h.last
  have hk := (List.getElem?_eq_some_iff.1 hs).1
  rcases Nat.lt_or_ge (k + 1) F.steps.length with h' | h'
  · exact h'
  · have : k = F.steps.length - 1 := by omega
    rw [this, h1] at hs
    injection hs with hs
    subst hs
    omega
theorem lab_lt {X : Mx} {F : Mf} {fb fo mb : Nat} (h : Rout X F fb fo mb) {x : Int} {k : Nat} (hk : labOf F.steps x = some k) : k + 1 < F.steps.length := by
  unfold labOf at hk
  rw [List.findIdx?_eq_some_iff_getElem] at hk
  obtain ⟨h1, h2, _⟩ := hk
  refine next_lt h (List.getElem?_eq_getElem h1) ?_ ?_
  all_goals
    intro e
    simp [e] at h2
theorem gas_pos {X : Mx} {F : Mf} {d k : Nat} {o : List Vl} {s : Sg} {g' : Nat} (h : ∀ out, goN X.fs g' d F k o s ≠ .error (99, out)) : ∃ g2, g' = g2 + 1 := by
  cases g' with
  | zero => exact absurd (goN_0 X.fs d F k o s) (h _)
  | succ g2 => exact ⟨g2, rfl⟩
/-- A round, once it is paid for. -/
def stepG (fs : By → Option Mf) (g d : Nat) (F : Mf) (k : Nat) (o : List Vl) (s : Ms) : Go1 Int :=
  if s.code = 8 then gp (pl o s.a).1
  else if s.code = 4 then goN fs g d F ((labOf F.steps s.label).getD 0 + 1) o
  else if s.code = 5 then (if (pl o s.a).1 = 0 then goN fs g d F ((labOf F.steps s.label).getD 0 + 1) o else goN fs g d F (k + 1) o)
  else if s.code = 13 then gb (tellG (pl o s.a).1) fun _ => goN fs g d F (k + 1) o
  else if s.code = 12 then gb (putG (pl o s.a).2 (pl o s.b).1 (pl o s.c).1) fun _ => goN fs g d F (k + 1) o
  else if s.code = 6 then goN fs g d F (k + 1) o
  else gb (reckG fs g d s o) fun v => goN fs g d F (k + 1) (o.set s.dst.toNat v)
theorem goN_s {fs : By → Option Mf} {g d : Nat} {F : Mf} {k : Nat} {o : List Vl} {s : Ms} (h : F.steps[k]? = some s) : goN fs (g + 1) d F k o = gb pay fun _ => stepG fs g d F k o s := by
  rw [goN_1, h]
  rfl
theorem sg_8 {fs : By → Option Mf} {g d : Nat} {F : Mf} {k : Nat} {o : List Vl} {s : Ms} (h : s.code = 8) : stepG fs g d F k o s = gp (pl o s.a).1 := by unfold stepG; simp [h]
theorem sg_4 {fs : By → Option Mf} {g d : Nat} {F : Mf} {k : Nat} {o : List Vl} {s : Ms} (h : s.code = 4) : stepG fs g d F k o s = goN fs g d F ((labOf F.steps s.label).getD 0 + 1) o := by unfold stepG; simp [h]
theorem sg_5 {fs : By → Option Mf} {g d : Nat} {F : Mf} {k : Nat} {o : List Vl} {s : Ms} (h : s.code = 5) : stepG fs g d F k o s = (if (pl o s.a).1 = 0 then goN fs g d F ((labOf F.steps s.label).getD 0 + 1) o else goN fs g d F (k + 1) o) := by unfold stepG; simp [h]
theorem sg_13 {fs : By → Option Mf} {g d : Nat} {F : Mf} {k : Nat} {o : List Vl} {s : Ms} (h : s.code = 13) : stepG fs g d F k o s = gb (tellG (pl o s.a).1) fun _ => goN fs g d F (k + 1) o := by unfold stepG; simp [h]
theorem sg_12 {fs : By → Option Mf} {g d : Nat} {F : Mf} {k : Nat} {o : List Vl} {s : Ms} (h : s.code = 12) : stepG fs g d F k o s = gb (putG (pl o s.a).2 (pl o s.b).1 (pl o s.c).1) fun _ => goN fs g d F (k + 1) o := by unfold stepG; simp [h]
theorem sg_6 {fs : By → Option Mf} {g d : Nat} {F : Mf} {k : Nat} {o : List Vl} {s : Ms} (h : s.code = 6) : stepG fs g d F k o s = goN fs g d F (k + 1) o := by unfold stepG; simp [h]
theorem sg_r {fs : By → Option Mf} {g d : Nat} {F : Mf} {k : Nat} {o : List Vl} {s : Ms} (h : Rk8 s.code) : stepG fs g d F k o s = gb (reckG fs g d s o) fun v => goN fs g d F (k + 1) (o.set s.dst.toNat v) := by
  unfold stepG
  rw [if_neg (by omega), if_neg (by omega), if_neg (by omega), if_neg (by omega), if_neg (by omega), if_neg (by omega)]
theorem tell_er {n : Int} {s : Sg} (h : 200 ≤ s.out.length) : tellG n s = .error (7, s.out) := if_pos h
theorem tell_ok {n : Int} {s : Sg} (h : s.out.length < 200) : tellG n s = .ok ((), { s with out := s.out ++ [n] }) := if_neg (by omega)
/-- A block of another kind is none that the program writes. -/
theorem notX120 {w0 : World} {P : Nat} {fv : Value} {w : World} {r : Rs} {d b : Nat} {cs : Array Value} (h : w.heap[b]? = some (.cells cs 80)) (hs : Sm w0 P fv w r d) : ¬ Xs P r b := by
  rintro (rfl | hx | hx)
  · have := hs.pb; rw [h] at this; injection this with this; injection this with _ e; cases e
  · obtain ⟨p, hp, rfl⟩ := List.mem_map.1 hx
    obtain ⟨i, hi⟩ := List.getElem?_of_mem hp
    obtain ⟨l, _, _, _, a4⟩ := hs.arr i p.1 p.2 hi
    rw [h] at a4; injection a4 with a4; injection a4 with _ e; cases e
  · rcases hs.out.2 with ⟨hv, _⟩ | ⟨g, cap, cur, hv, hb, hg, _⟩
    · rw [hv] at hx; cases hx
    · rw [hv] at hx
      have : g = b := by injection hx
      subst this
      rw [hg] at h; injection h with h; injection h with _ e; cases e
theorem box_on {X : Mx} {w w2 : World} {r r2 : Rs} {d ob B : Nat} {cs : Array Value} (h : w.heap[B]? = some (.cells cs 80)) (hs : Sm X.w0 X.P X.fv w r d) (hB : B ≠ ob) (hf : Fz X.P (fun b => b = ob) w r w2 r2) : w2.heap[B]? = some (.cells cs 80) := by
  rw [hf.blk B (Array.getElem?_eq_some_iff.1 h).1 (notX120 h hs) hB]
  exact h
/-- Fuel grows nowhere. -/
def Fl {α : Type} (x : Go1 α) : Prop := ∀ s a s1, x s = .ok (a, s1) → s1.fuel ≤ s.fuel
theorem fl_gp {α : Type} (a : α) : Fl (gp a) := fun s b s1 h => by injection h with h; injection h with _ h; subst h; exact Int.le_refl _
theorem fl_gt {α : Type} (k : Int) : Fl (gt k : Go1 α) := fun s b s1 h => by cases h
theorem fl_gb {α β : Type} {x : Go1 α} {f : α → Go1 β} (hx : Fl x) (hf : ∀ a, Fl (f a)) : Fl (gb x f) := fun s b s1 h => by
  unfold gb at h
  cases e : x s with
  | error k => rw [e] at h; cases h
  | ok p =>
    obtain ⟨a, s2⟩ := p
    rw [e] at h
    have h1 := hx s a s2 e
    have h2 := hf a s2 b s1 h
    omega
theorem fl_pay : Fl pay := fun s a s1 h => by
  unfold pay at h
  split at h
  · cases h
  · injection h with h; injection h with _ h; subst h; show s.fuel - 1 ≤ s.fuel; omega
theorem fl_tell (n : Int) : Fl (tellG n) := fun s a s1 h => by
  unfold tellG at h
  split at h
  · cases h
  · injection h with h; injection h with _ h; subst h; exact Int.le_refl _
theorem fl_take : Fl takeG := fun s a s1 h => by injection h with h; injection h with _ h; subst h; exact Int.le_refl _
theorem fl_new (n : Int) : Fl (newG n) := fun s a s1 h => by
  unfold newG at h
  split at h
  · cases h
  · injection h with h; injection h with _ h; subst h; exact Int.le_refl _
theorem fl_len (q : Option Nat) : Fl (lenG q) := fun s a s1 h => by injection h with h; injection h with _ h; subst h; exact Int.le_refl _
theorem fl_item (q : Option Nat) (i : Int) : Fl (itemG q i) := fun s a s1 h => by
  unfold itemG at h
  split at h
  · cases h
  · injection h with h; injection h with _ h; subst h; exact Int.le_refl _
theorem fl_put (q : Option Nat) (i n : Int) : Fl (putG q i n) := fun s a s1 h => by
  unfold putG at h
  split at h
  · cases h
  · injection h with h; injection h with _ h; subst h; exact Int.le_refl _
theorem fl_both (op : By) (a b : Int) : Fl (bothG op a b) := by
  unfold bothG
  split
  · exact fl_gt _
  · exact fl_gp _
theorem fl_reck {fs : By → Option Mf} {g : Nat} (ih : ∀ d F k o, Fl (goN fs g d F k o)) (d : Nat) (s : Ms) (o : List Vl) : Fl (reckG fs g d s o) := by
  unfold reckG
  split
  · exact fl_gp _
  split
  · exact fl_gb (fl_both _ _ _) (fun _ => fl_gp _)
  split
  · split
    · exact fl_gt _
    · split
      · exact fl_gt _
      · exact fl_gb (ih _ _ _ _) (fun _ => fl_gp _)
  split
  · exact fl_new _
  split
  · exact fl_gb (fl_len _) (fun _ => fl_gp _)
  split
  · exact fl_gb (fl_item _ _) (fun _ => fl_gp _)
  split
  · exact fl_gb fl_take (fun _ => fl_gp _)
  · exact fl_gp _
theorem fl_go (fs : By → Option Mf) : ∀ g d F k o, Fl (goN fs g d F k o)
  | 0 => fun d F k o => fl_gt _
  | g + 1 => fun d F k o => by
    have ih := fl_go fs g
    rw [goN_1]
    refine fl_gb fl_pay (fun _ => ?_)
    split
    · exact fl_gt _
    · split
      · exact fl_gp _
      split
      · exact ih _ _ _ _
      split
      · split <;> exact ih _ _ _ _
      split
      · exact fl_gb (fl_tell _) (fun _ => ih _ _ _ _)
      split
      · exact fl_gb (fl_put _ _ _) (fun _ => ih _ _ _ _)
      split
      · exact ih _ _ _ _
      · exact fl_gb (fl_reck ih _ _ _) (fun _ => ih _ _ _ _)
end Go.Proofs.YtjmbjpimabnohaaDoor.Mid
