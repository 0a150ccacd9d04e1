/- The document's run of steps: places; step at a number, a label, what is told. -/
import Derived.Test.YtjmbjpimabnohaaDoorUD
namespace Go.Proofs.YtjmbjpimabnohaaDoor.Mid
set_option linter.unusedVariables false
set_option linter.unusedSimpArgs false
open Go Go.RowKit

/-- What lies in a place of a type. -/
def rpV (t : Int) (x : Vl) : Int := if t = 1 then x.1 else arrN x.2
/-- Places of a call. -/
structure OwR (P : Nat) (w : World) (r : Rr) (ob : Nat) (F : Mf) (o : List Vl) : Prop where
  row : ∃ cs : List Value, w.heap[ob]? = some (.cells cs.toArray 2) ∧ cs.length = o.length ∧ ∀ (i : Nat) (x : Vl) (t : Int), o[i]? = some x → F.types[i]? = some t → cs[i]? = some (.int .i64 (rpV t x)) ∧ (t = 2 → QvR r x.2)
  len : o.length = F.types.length
  nx : ¬ Xw P r ob
theorem OwR.lt {P : Nat} {w : World} {r : Rr} {ob : Nat} {F : Mf} {o : List Vl} (h : OwR P w r ob F o) : ob < w.heap.size := by
  obtain ⟨cs, hc, _⟩ := h.row
  exact (Array.getElem?_eq_some_iff.1 hc).1
theorem QvR.mono {r r' : Rr} (h : r.ab <+: r'.ab) {q : Option Nat} (hq : QvR r q) : QvR r' q := by
  cases q with
  | none => trivial
  | some i => exact Nat.lt_of_lt_of_le hq h.length_le
theorem OwR.on {P : Nat} {E : Nat → Prop} {w w' : World} {r r' : Rr} {ob : Nat} {F : Mf} {o : List Vl} (h : OwR P w r ob F o) (hz : Wz P E w r w' r') (hE : ¬ E ob) : OwR P w' r' ob F o := by
  obtain ⟨cs, h1, h2, h3⟩ := h.row
  have hlt := h.lt
  refine ⟨⟨cs, by rw [hz.blk ob hlt h.nx hE]; exact h1, h2, fun i x t hx ht => ?_⟩, h.len, fun hx => ?_⟩
  · obtain ⟨a1, a2⟩ := h3 i x t hx ht
    exact ⟨a1, fun e => (a2 e).mono hz.pre⟩
  · have := hz.new ob hx h.nx
    omega
theorem is_get {F : Mf} {p k : Int} (h : isB F p k = true) : ∃ i : Nat, p = i ∧ i < F.types.length ∧ F.types[i]? = some k := by
  have h1 := is_in h
  unfold isB at h
  simp only [Bool.and_eq_true, decide_eq_true_eq] at h
  obtain ⟨i, rfl⟩ : ∃ i : Nat, p = i := ⟨p.toNat, by omega⟩
  refine ⟨i, rfl, by omega, ?_⟩
  have h2 := h.2
  rw [Int.toNat_natCast, List.getD_eq_getElem?_getD] at h2
  have hlt : i < F.types.length := by omega
  rw [List.getElem?_eq_getElem hlt] at h2 ⊢
  have h3 : F.types[i] = k := by simpa using h2
  rw [h3]
theorem OwR.get {P : Nat} {w : World} {r : Rr} {ob : Nat} {F : Mf} {o : List Vl} (h : OwR P w r ob F o) {p k : Int} (hp : isB F p k = true) : ∃ i : Nat, p = i ∧ i < o.length ∧ w.cell? ⟨ob, i, none⟩ = some (.int .i64 (rpV k (pl o p))) ∧ w.frozen? ⟨ob, i, none⟩ = false ∧ (k = 2 → QvR r (pl o p).2) := by
  obtain ⟨i, rfl, h1, h2⟩ := is_get hp
  obtain ⟨cs, c1, c2, c3⟩ := h.row
  have hlt : i < o.length := by rw [h.len]; exact h1
  have hx : o[i]? = some (pl o (i : Int)) := by
    unfold pl
    rw [Int.toNat_natCast, List.getElem?_eq_getElem hlt, List.getD_eq_getElem?_getD, List.getElem?_eq_getElem hlt]
    rfl
  obtain ⟨a1, a2⟩ := c3 i _ k hx h2
  exact ⟨i, rfl, hlt, cell_at c1 (by simpa using a1), row_free c1 i, a2⟩
/-- A place is written. -/
theorem OwR.put {P : Nat} {w : World} {r : Rr} {ob : Nat} {F : Mf} {o : List Vl} (h : OwR P w r ob F o) {i : Nat} {t : Int} (ht : F.types[i]? = some t) {x : Vl} (hx : t = 2 → QvR r x.2) : OwR P (w.setCell ⟨ob, i, none⟩ (.int .i64 (rpV t x))) r ob F (o.set i x) := by
  obtain ⟨cs, c1, c2, c3⟩ := h.row
  refine ⟨⟨cs.set i (.int .i64 (rpV t x)), ?_, by simp [c2], fun j y u hy hu => ?_⟩, by simp [h.len], h.nx⟩
  · rw [heap_setCell_same _ _ _ _ _ _ c1]
    simp
  · rw [List.getElem?_set] at hy
    by_cases e : i = j
    · subst e
      rw [ht] at hu
      injection hu with hu
      subst hu
      have hi : i < o.length := by rw [h.len]; exact (List.getElem?_eq_some_iff.1 ht).1
      rw [if_pos rfl, if_pos hi] at hy
      injection hy with hy
      subst hy
      refine ⟨?_, hx⟩
      rw [List.getElem?_set, if_pos rfl, if_pos (by omega)]
    · rw [if_neg e] at hy
      obtain ⟨a1, a2⟩ := c3 j y u hy hu
      refine ⟨?_, a2⟩
      rw [List.getElem?_set, if_neg e]
      exact a1
theorem Wm.setL {w0 : World} {P : Nat} {w : World} {r : Rr} {d : Nat} {way : Int} (h : Wm w0 P w r d way) {B i : Nat} {v : Value} (hB : ¬ Xw P r B) (hB0 : w0.heap.size ≤ B) : Wm w0 P (w.setCell ⟨B, i, none⟩ v) r d way := by
  have ho : ∀ b, b ≠ B → (w.setCell ⟨B, i, none⟩ v).heap[b]? = w.heap[b]? := fun b hb => heap_setCell_other _ _ _ _ hb
  have hsz : (w.setCell ⟨B, i, none⟩ v).heap.size = w.heap.size := by simp
  refine ⟨h.lo0, by rw [hsz]; exact h.le, fun b h1 => ?_, ?_, h.inp, own_at h.out (fun k hk => ho k (fun e => hB (.inr (.inr (.inl (e ▸ hk)))))), own_at h.arrs (fun k hk => ho k (fun e => hB (.inr (.inr (.inr (e ▸ hk)))))), h.apart, h.alen, fun k b n hk => ?_, h.lo, h.nd, h.few, h.told, h.deep⟩
  · rw [ho b (by omega)]; exact h.kp b h1
  · rw [ho P (fun e => hB (.inl e.symm))]; exact h.pb
  · obtain ⟨l, a1, a2, a3, a4⟩ := h.arr k b n hk
    refine ⟨l, a1, a2, a3, ?_⟩
    rw [ho b (fun e => hB (.inr (.inl (e ▸ List.mem_map.2 ⟨(b, n), List.mem_of_getElem? hk, rfl⟩))))]
    exact a4
theorem Wz.setE {P ob : Nat} {w w1 : World} {r r1 : Rr} (h : Wz P (fun b => b = ob) w r w1 r1) {i : Nat} {v : Value} : Wz P (fun b => b = ob) w r (w1.setCell ⟨ob, i, none⟩ v) r1 :=
  ⟨h.os, h.tape, h.output, by simp; exact h.size, fun b hb hx he => by rw [heap_setCell_other _ _ _ _ he]; exact h.blk b hb hx he, h.pre, h.new⟩
/-- A step that goes on with the next one. -/
def doG (fs : By → Option Mf) (g d : Nat) (s : Ms) (o : List Vl) : Go1 (List Vl) :=
  if s.code = 13 then gb (tellG (pl o s.a).1) fun _ => gp o
  else if s.code = 12 then gb (putG (pl o s.a).2 (pl o s.b).1 (pl o s.c).1) fun _ => gp o
  else if s.code = 5 ∨ s.code = 6 then gp o
  else gb (reckG fs g d s o) fun v => gp (o.set s.dst.toNat v)
/-- What a step leaves. -/
def SgP (X : Qx) (F : Mf) (w : World) (r : Rr) (d ob : Nat) (x : Except (Int × List Int) (List Vl × Sg)) (e : Ending) (w' : World) : Prop :=
  e = .returned (.tuple #[]) ∧ ∃ r' way, Wm X.w0 X.P w' r' d way ∧ Wz X.P (fun b => b = ob) w r w' r' ∧ ((∃ o', way = 0 ∧ x = .ok (o', r'.s) ∧ OwR X.P w' r' ob F o') ∨ (way ≠ 0 ∧ x = .error (way, r'.s.out)))
/-- How a step is called for. -/
abbrev sgA (X : Qx) (ql : Option Addr) (nl cl ob kl : Nat) (s : Ms) (y6 y8 : ByteArray) (qa : Option Addr) (na ca : Nat) : Array Value := #[ptr X.P, .slice ql nl cl, .slice (some ⟨ob, 0, none⟩) kl kl, .agg #[.int .i64 s.code, .int .i64 s.dst, .int .i64 s.a, .int .i64 s.b, .int .i64 s.c, .int .i64 s.n, .string y6, .int .i64 s.label, .string y8, .slice qa na ca]]
abbrev sgO (s : Ms) (y6 y8 : ByteArray) (qa : Option Addr) (na ca : Nat) : Obj := .cells #[.int .i64 s.code, .int .i64 s.dst, .int .i64 s.a, .int .i64 s.b, .int .i64 s.c, .int .i64 s.n, .string y6, .int .i64 s.label, .string y8, .slice qa na ca] 58
/-- What a step is done in. -/
structure SgE (X : Qx) (F : Mf) (w : World) (r : Rr) (d ob : Nat) (o : List Vl) : Prop where
  wm : Wm X.w0 X.P w r d 0
  ow : OwR X.P w r ob F o
  lo : X.w0.heap.size ≤ ob
  kl : o.length ≤ 1000000
  few : r.ab.length ≤ 10000000
section
variable {X : Qx} {F : Mf} {fs : By → Option Mf} {w : World} {r : Rr} {g d ob : Nat} {o : List Vl} {s : Ms} {ql : Option Addr} {nl cl : Nat} {y6 y8 : ByteArray} {qa : Option Addr} {na ca : Nat}
theorem SgE.al (h : SgE X F w r d ob o) (A : Obj) : SgE X F (w.alloc A) r d ob o := ⟨h.wm.below (al_bel _ _), h.ow.on (E := NoE) (Wz.below (al_bel _ _)) (fun e => e), h.lo, h.kl, h.few⟩
theorem do_1 (h : s.code = 1) : doG fs g d s o r.s = .ok (o.set s.dst.toNat (s.n, none), r.s) := by unfold doG reckG; rw [h]; rfl
set_option maxRecDepth 100000 in
set_option maxHeartbeats 2000000 in
theorem sg_const (h : SgE X F w r d ob o) (hc : s.code = 1) (hd : isB F s.dst 1 = true) : Calls Tryd.prog 48 (sgA X ql nl cl ob o.length s y6 y8 qa na ca) w (SgP X F w r d ob (doG fs g d s o r.s)) := by
  have hdo := do_1 (fs := fs) (g := g) (d := d) (o := o) (r := r) hc
  obtain ⟨code, dst, a, b, c, n, op, label, name, args⟩ := s
  dsimp only at hc hd hdo
  subst hc
  obtain ⟨i, rfl, h1, hty⟩ := is_get hd
  rw [Int.toNat_natCast] at hdo
  obtain ⟨A, hA⟩ : ∃ A : Obj, A = .cells #[.int .i64 1, .int .i64 (i : Int), .int .i64 a, .int .i64 b, .int .i64 c, .int .i64 n, .string y6, .int .i64 label, .string y8, .slice qa na ca] 58 := ⟨_, rfl⟩
  have h' := h.al A
  obtain ⟨j, ej, h2, h3, h4, _⟩ := h'.ow.get hd
  have ej' : j = i := by omega
  subst ej'
  have HX : Hid (SgP X F w r d ob (doG fs g d ⟨1, (j : Int), a, b, c, n, op, label, name, args⟩ o r.s) (.returned (.tuple #[])) ((w.alloc A).setCell ⟨ob, j, none⟩ (.int .i64 n))) := ⟨rfl, r, 0, h'.wm.setL h'.ow.nx h.lo, (Wz.below (al_bel _ _)).setE, .inl ⟨_, rfl, hdo, h'.ow.put (t := 1) (x := (n, none)) hty (fun e => by cases e)⟩⟩
  obtain ⟨kl, hkl⟩ : ∃ kl, o.length = kl := ⟨_, rfl⟩
  have hk6 := h.kl
  generalize SgP X F w r d ob (doG fs g d ⟨1, (j : Int), a, b, c, n, op, label, name, args⟩ o r.s) = G at HX ⊢
  show Calls Tryd.prog 48 #[ptr X.P, .slice ql nl cl, .slice (some ⟨ob, 0, none⟩) o.length o.length, .agg #[.int .i64 1, .int .i64 (j : Int), .int .i64 a, .int .i64 b, .int .i64 c, .int .i64 n, .string y6, .int .i64 label, .string y8, .slice qa na ca]] w G
  rw [hkl] at h2 hk6 ⊢
  have hl9 : (j : Int) < (kl : Int) := by omega
  rw [hA] at h3 h4 HX
  clear h h' hA hty hkl hd hdo h1
  go_enter Tryd.func48, Tryd.ntmps48
  go_wp2
  go_end0
  exact HX.out
end
end Go.Proofs.YtjmbjpimabnohaaDoor.Mid
