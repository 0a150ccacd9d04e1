/- The document's run of steps: step at any code; what a round of code needs. -/
import Derived.Test.YtjmbjpimabnohaaDoorUX
import Derived.Test.YtjmbjpimabnohaaDoorUR
import Derived.Test.YtjmbjpimabnohaaDoorUI
import Derived.Test.YtjmbjpimabnohaaDoorUK
namespace Go.Proofs.YtjmbjpimabnohaaDoor.Mid
set_option linter.unusedVariables false
set_option linter.unusedSimpArgs false
open Go Go.RowKit

theorem fsL_at {L : List Mf} {nm : By} {G : Mf} (h : fsL L nm = some G) : ∃ j, L[j]? = some G ∧ G.name = nm ∧ ∀ (i : Nat) (F : Mf), i < j → L[i]? = some F → F.name ≠ nm := by
  unfold fsL at h
  rw [List.find?_eq_some_iff_getElem] at h
  obtain ⟨h1, j, hj, h2, h3⟩ := h
  refine ⟨j, by rw [List.getElem?_eq_getElem hj, h2], by simpa using h1, fun i F hi hF e => ?_⟩
  have hi2 := (List.getElem?_eq_some_iff.1 hF)
  have := h3 i hi
  rw [hi2.2] at this
  simp [e] at this
theorem CdE.fn {X : Qx} {L : List Mf} {ql : Option Addr} {cl : Nat} (h : CdE X L ql cl) {j : Nat} {F : Mf} (hj : L[j]? = some F) : ∃ g p, ql = some ⟨g, p, none⟩ ∧ (∀ i G, L[i]? = some G → FnAt X.w0 g (p + i * 4) G) := by
  rcases h.row.fn with h1 | ⟨g, p, e, h1⟩
  · rw [h1] at hj; simp at hj
  · exact ⟨g, p, e, fun i G hi => (h1 i G hi).1⟩
theorem CdE.fi {X : Qx} {L : List Mf} {ql : Option Addr} {cl : Nat} (h : CdE X L ql cl) : ∀ nm F, fsL L nm = some F → FI F := fun nm F hF s hs => by
  obtain ⟨j, hj, _⟩ := fsL_at hF
  obtain ⟨g, p, _, h1⟩ := h.fn hj
  obtain ⟨q, c, _, _, h3⟩ := (h1 j F hj).c3
  rcases h3 with h3 | ⟨g2, p2, _, h3⟩
  · rw [h3] at hs; cases hs
  · obtain ⟨i, hi⟩ := List.getElem?_of_mem hs
    exact (h3 i s hi).i1.2.2.2.2.2.1
section
variable {X : Qx} {F : Mf} {w : World} {r : Rr} {g d ob : Nat} {o : List Vl} {s : Ms} {ql : Option Addr} {cl : Nat} {y6 y8 : ByteArray} {qa : Option Addr} {na ca : Nat} {L : List Mf}
theorem sg_any (hE : CdE X L ql cl) (hC : CallR X L ql cl g) (h : SgE X F w r d ob o) (ht : StT (fsL L) F s) (h4 : s.code ≠ 4) (h8 : s.code ≠ 8) (hy6 : y6.data.toList = s.op) (hy8 : y8 = ⟨s.name.toArray⟩) (hargs : IntsAt X.w0 (.slice qa na ca) s.args) (hoi : OI o) (hgi : Gi r.s) (hfs : hfS r.s ≤ 10000000) (hne : ∀ out, doG (fsL L) g d s o r.s ≠ .error (99, out)) :
    Calls Tryd.prog 48 (sgA X ql L.length cl ob o.length s y6 y8 qa na ca) w (SgP X F w r d ob (doG (fsL L) g d s o r.s)) := by
  have hcode := ht.code
  by_cases e1 : s.code = 1
  · exact sg_const h e1 (ht.d1 (by omega))
  by_cases e2 : s.code = 2
  · obtain ⟨t, a1, a2⟩ := ht.cp e2
    exact sg_copy h e2 t a1 a2
  by_cases e3 : s.code = 3
  · exact sg_two h e3 hy6 (ht.d1 (by omega)) (ht.a1 (by omega)) (ht.b1 (by omega)) (oi_pl hoi _) (oi_pl hoi _)
  by_cases e5 : s.code = 5
  · exact sg_idle h (.inl e5)
  by_cases e6 : s.code = 6
  · exact sg_idle h (.inr e6)
  by_cases e7 : s.code = 7
  · exact sg_call hE hC h e7 (ht.d1 (by omega)) (ht.call e7) hy8 hargs hoi hgi hfs hne
  by_cases e9 : s.code = 9
  · exact sg_new h e9 (ht.d2 e9) (ht.a1 (by omega))
  by_cases e10 : s.code = 10
  · exact sg_len h e10 (ht.d1 (by omega)) (ht.a2 (by omega))
  by_cases e11 : s.code = 11
  · exact sg_load h e11 (ht.d1 (by omega)) (ht.a2 (by omega)) (ht.b1 (by omega))
  by_cases e12 : s.code = 12
  · exact sg_store h e12 (ht.a2 (by omega)) (ht.b1 (by omega)) (ht.c1 e12)
  by_cases e13 : s.code = 13
  · exact sg_tell h e13 (ht.a1 (by omega))
  by_cases e14 : s.code = 14
  · exact sg_input h e14 (ht.d1 (by omega))
  omega
end
/-- Fuel that is left, of a world; none where it has ended. -/
def fuelR (P : Nat) (w : World) : Nat := match w.cell? ⟨P, 4, none⟩ with
  | some (.int _ k) => if k = 0 then (match w.cell? ⟨P, 2, none⟩ with | some (.int _ n) => n.toNat + 1 | _ => 0) else 0
  | _ => 0
theorem fuelR_0 {w0 : World} {P : Nat} {w : World} {r : Rr} {d : Nat} (h : Wm w0 P w r d 0) : fuelR P w = r.s.fuel.toNat + 1 := by
  have c4 : w.cell? ⟨P, 4, none⟩ = some (.int .i64 0) := cell_at (i := 4) h.pb rfl
  have c2 : w.cell? ⟨P, 2, none⟩ = some (.int .i64 r.s.fuel) := cell_at (i := 2) h.pb rfl
  unfold fuelR
  rw [c4, c2]
  rfl
theorem fuelR_1 {w0 : World} {P : Nat} {w : World} {r : Rr} {d : Nat} {way : Int} (h : Wm w0 P w r d way) (hw : way ≠ 0) : fuelR P w = 0 := by
  have c4 : w.cell? ⟨P, 4, none⟩ = some (.int .i64 way) := cell_at (i := 4) h.pb rfl
  unfold fuelR
  rw [c4]
  exact if_neg hw
theorem mk_ints2 (n : Nat) (hn : n ≤ 1000000) (w : World) : (Instr.makeSlice 23 (.int .i64 (n : Int)) (.int .i64 (n : Int))).run Tryd.prog w = .ok (.slice (some ⟨w.heap.size, 0, none⟩) n n) (w.alloc (.cells (ints (List.replicate n 0)).toArray 2)) := by
  obtain ⟨i, hi, hz0, hz1, hz2⟩ := info_parts info2
  have := run_makeSlice w 23 2 i _ Tryd.underlying23 hi hz0 .i64 .i64 (n : Int) (n : Int) (by omega) (by omega) (by rw [hz1]; simp; omega) (by rw [hz2]; omega) (by omega)
  rw [hz1] at this
  simp only [Int.toNat_natCast, made_int] at this
  exact this
/-- Fuel grows nowhere. -/
theorem fl_do {fs : By → Option Mf} {g d : Nat} {s : Ms} {o : List Vl} : Fl (doG fs g d s o) := by
  unfold doG
  split
  · exact fl_gb (fl_tell _) (fun _ => fl_gp _)
  split
  · exact fl_gb (fl_put _ _ _) (fun _ => fl_gp _)
  split
  · exact fl_gp _
  · exact fl_gb (fl_reck (fl_go fs g) _ _ _) (fun _ => fl_gp _)
/-- What a call of code is about. -/
structure Lc where
  X : Qx
  L : List Mf
  G : Mf
  g : Nat
  d : Nat
  o : List Vl
  s : Sg
abbrev Lc.res (l : Lc) : Except (Int × List Int) (Int × Sg) := goN (fsL l.L) l.g (l.d + 1) l.G 0 l.o l.s
/-- Where a call of code is, round by round: it goes on, or it has ended. -/
inductive LqI (l : Lc) (W : World) (r : Rr) (ob : Nat) (wr : World) (k : Nat) : Prop where
  | on (g' : Nat) (r' : Rr) (o' : List Vl) (wm : Wm l.X.w0 l.X.P wr r' (l.d + 1) 0) (wz : Wz l.X.P (fun b => b = ob) W r wr r') (ow : OwR l.X.P wr r' ob l.G o') (oi : OI o') (gi : Gi r'.s) (few : hfS r'.s ≤ 10000000) (hg : g' ≤ l.g) (hk : k < l.G.steps.length) (he : l.res = goN (fsL l.L) g' (l.d + 1) l.G k o' r'.s)
  | off (way : Int) (r' : Rr) (hw : way ≠ 0) (wm : Wm l.X.w0 l.X.P wr r' (l.d + 1) way) (wz : Wz l.X.P (fun b => b = ob) W r wr r') (he : l.res = .error (way, r'.s.out))
end Go.Proofs.YtjmbjpimabnohaaDoor.Mid
