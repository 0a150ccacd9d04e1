/- The document's run of steps: what a call of code promises; the args of a call. Plain: what is right of a step, by its code; the last label is the first. -/
import Derived.Test.YtjmbjpimabnohaaDoorUW
namespace Go.Proofs.YtjmbjpimabnohaaDoor.Mid
set_option linter.unusedVariables false
set_option linter.unusedSimpArgs false
open Go Go.RowKit

/-- Args are the first places. -/
structure ArR (r : Rr) (G : Mf) (o : List Vl) (vs : List Int) : Prop where
  le : vs.length ≤ o.length
  len : o.length = G.types.length
  at' : ∀ (i : Nat) (x : Vl) (t : Int), o[i]? = some x → G.types[i]? = some t → vs.getD i 0 = rpV t x ∧ (t = 2 → QvR r x.2)
/-- Where the code lies, and that it is right. -/
structure CdE (X : Qx) (L : List Mf) (ql : Option Addr) (cl : Nat) : Prop where
  row : RowAt X.w0 ql cl L
  rv : RvE L
/-- What the document's call of code leaves. -/
def CdP (X : Qx) (w : World) (r : Rr) (d : Nat) (x : Except (Int × List Int) (Int × Sg)) (e : Ending) (w' : World) : Prop :=
  ∃ n, e = .returned (.int .i64 n) ∧ ∃ r' way, Wm X.w0 X.P w' r' d way ∧ Wz X.P NoE w r w' r' ∧ ((way = 0 ∧ x = .ok (n, r'.s)) ∨ (way ≠ 0 ∧ x = .error (way, r'.s.out)))
/-- What a call of code wants. -/
structure CdW (X : Qx) (w : World) (r : Rr) (d : Nat) (G : Mf) (o : List Vl) (vs : List Int) (q : Option Addr) (n c : Nat) : Prop where
  wm : Wm X.w0 X.P w r d 0
  own : w.ownsRow X.w0.heap.size 2 1 (.slice q n c) n (ints vs)
  nx : ∀ b, (Value.slice q n c).ownBlock = some b → ¬ Xw X.P r b
  ar : ArR r G o vs
  oi : OI o
  gi : Gi r.s
  few : hfS r.s ≤ 10000000
def CallR (X : Qx) (L : List Mf) (ql : Option Addr) (cl g : Nat) : Prop := ∀ (nm : By) (G : Mf), fsL L nm = some G → ∀ (w : World) (r : Rr) (d : Nat) (o : List Vl) (vs : List Int) (q : Option Addr) (n c : Nat), CdW X w r d G o vs q n c → (∀ out, callG (fsL L) g d G o r.s ≠ .error (99, out)) →
  Calls Tryd.prog 33 #[ptr X.P, .slice ql L.length cl, .string ⟨nm.toArray⟩, .slice q n c] w (CdP X w r d (callG (fsL L) g d G o r.s))
theorem fits_at {fs : By → Option Mf} {F : Mf} {nm : By} {l : List Int} (h : fitsB F (fs nm) l = true) (hp : ∀ nm G, fs nm = some G → placesB G = true) : ∃ G, fs nm = some G ∧ l.length ≤ G.types.length ∧ ∀ (j : Nat) (x t : Int), l[j]? = some x → G.types[j]? = some t → isB F x t = true := by
  cases hG : fs nm with
  | none => rw [hG] at h; cases h
  | some G =>
    rw [hG] at h
    have h2 := hp nm G hG
    unfold fitsB at h
    simp only [Bool.and_eq_true, decide_eq_true_eq] at h
    have hle : l.length ≤ G.types.length := by
      unfold placesB at h2
      simp at h2
      omega
    refine ⟨G, rfl, hle, fun j x t hx ht => ?_⟩
    have hz : (l.zip G.types)[j]? = some (x, t) := by
      rw [List.getElem?_zip_eq_some]
      exact ⟨hx, ht⟩
    exact List.all_eq_true.1 h.2 _ (List.mem_of_getElem? hz)
/-- An arg's number. -/
def nArg (F : Mf) (o : List Vl) (a : Int) : Int := rpV (F.types.getD a.toNat 0) (pl o a)
theorem nArg_is {F : Mf} {o : List Vl} {a t : Int} (h : isB F a t = true) : nArg F o a = rpV t (pl o a) := by
  obtain ⟨i, rfl, h1, h2⟩ := is_get h
  unfold nArg
  rw [Int.toNat_natCast, List.getD_eq_getElem?_getD, h2]
  rfl
theorem rp_0 (t : Int) : rpV t (0, none) = 0 := by unfold rpV arrN; split <;> rfl
theorem ar_args {P : Nat} {w : World} {r : Rr} {ob : Nat} {F G : Mf} {o : List Vl} {l : List Int} (ho : OwR P w r ob F o) (hle : l.length ≤ G.types.length) (hf : ∀ (j : Nat) (x t : Int), l[j]? = some x → G.types[j]? = some t → isB F x t = true) : ArR r G (theirs G o l) (l.map (nArg F o)) := by
  have hlen : (theirs G o l).length = G.types.length := by unfold theirs; simp; omega
  refine ⟨by rw [hlen]; simpa using hle, hlen, fun i x t hx ht => ?_⟩
  unfold theirs at hx
  rw [List.getElem?_append] at hx
  by_cases hi : i < l.length
  · rw [if_pos (by simpa using hi), List.getElem?_map, List.getElem?_eq_getElem hi] at hx
    injection hx with hx
    have hb := hf i l[i] t (List.getElem?_eq_getElem hi) ht
    obtain ⟨j, e1, e2, e3, e4, e5⟩ := ho.get hb
    rw [← hx]
    refine ⟨?_, e5⟩
    rw [List.getD_eq_getElem?_getD, List.getElem?_map, List.getElem?_eq_getElem hi]
    exact nArg_is hb
  · rw [if_neg (by simpa using hi)] at hx
    have hx2 : x = (0, none) := by
      have := List.mem_of_getElem? hx
      exact List.eq_of_mem_replicate this
    subst hx2
    refine ⟨?_, fun _ => trivial⟩
    rw [rp_0, List.getD_eq_getElem?_getD, List.getElem?_eq_none (by simpa using hi)]
    rfl
theorem do_7 {fs : By → Option Mf} {g d : Nat} {s : Ms} {o : List Vl} {G : Mf} (h : s.code = 7) (hG : fs s.name = some G) : doG fs g d s o = gb (callG fs g d G (theirs G o s.args)) fun n => gp (o.set s.dst.toNat (n, none)) := by
  unfold doG
  rw [if_neg (by omega), if_neg (by omega), if_neg (by omega), rk_7 h hG, gbb]
  rfl
end Go.Proofs.YtjmbjpimabnohaaDoor.Mid

namespace Go.Proofs.YtjmbjpimabnohaaDoor.Mid
set_option linter.unusedVariables false
set_option linter.unusedSimpArgs false
open Go Go.RowKit

/-- What a step's places are. -/
structure StT (fs : By → Option Mf) (F : Mf) (s : Ms) : Prop where
  code : 1 ≤ s.code ∧ s.code ≤ 14
  d1 : s.code = 1 ∨ s.code = 3 ∨ s.code = 7 ∨ s.code = 10 ∨ s.code = 11 ∨ s.code = 14 → isB F s.dst 1 = true
  d2 : s.code = 9 → isB F s.dst 2 = true
  a1 : s.code = 3 ∨ s.code = 5 ∨ s.code = 8 ∨ s.code = 9 ∨ s.code = 13 → isB F s.a 1 = true
  a2 : s.code = 10 ∨ s.code = 11 ∨ s.code = 12 → isB F s.a 2 = true
  b1 : s.code = 3 ∨ s.code = 11 ∨ s.code = 12 → isB F s.b 1 = true
  c1 : s.code = 12 → isB F s.c 1 = true
  cp : s.code = 2 → ∃ t, isB F s.dst t = true ∧ isB F s.a t = true
  goes : s.code = 4 ∨ s.code = 5 → ∃ k, labOf F.steps s.label = some k
  call : s.code = 7 → fitsB F (fs s.name) s.args = true
theorem has_is {F : Mf} {p k : Int} (h : hasB F p k = true) (hk : k ≠ 0) : isB F p k = true := by
  unfold hasB at h
  simpa [hk] using h
theorem st_t {fs : By → Option Mf} {F : Mf} {s : Ms} (h : stepB fs F s = true) : StT fs F s := by
  unfold stepB allB at h
  simp only [Bool.and_eq_true, decide_eq_true_eq] at h
  obtain ⟨h1, ⟨hd, ha, hb, hc⟩, hg, hs⟩ := h
  unfold besB at hs
  refine ⟨h1, fun e => ?_, fun e => ?_, fun e => ?_, fun e => ?_, fun e => ?_, fun e => ?_, fun e => ?_, fun e => ?_, fun e => ?_⟩
  · rcases e with e | e | e | e | e | e
    all_goals
      rw [e] at hd
      exact has_is hd (by decide)
  · rw [e] at hd
    exact has_is hd (by decide)
  · rcases e with e | e | e | e | e
    all_goals
      rw [e] at ha
      exact has_is ha (by decide)
  · rcases e with e | e | e
    all_goals
      rw [e] at ha
      exact has_is ha (by decide)
  · rcases e with e | e | e
    all_goals
      rw [e] at hb
      exact has_is hb (by decide)
  · rw [e] at hc
    exact has_is hc (by decide)
  · rw [if_pos e] at hs
    simp only [Bool.or_eq_true, Bool.and_eq_true] at hs
    rcases hs with hs | hs
    · exact ⟨1, hs⟩
    · exact ⟨2, hs⟩
  · have hg' : (labOf F.steps s.label).isSome = true := by
      rcases e with e | e
      all_goals
        rw [e] at hg
        simpa [frm] using hg
    exact Option.isSome_iff_exists.1 hg'
  · rw [if_neg (by omega), if_neg (by omega), if_pos e] at hs
    exact hs
theorem labs_take {l : List Ms} (h : labsOk l) (n : Nat) : labsOk (l.take n) := by
  unfold labsOk at h ⊢
  exact h.sublist (((List.take_sublist n l).filter _).map _)
/-- The label that was found among the first steps. -/
def labI (l : List Ms) (x : Int) (i0 j : Nat) : Nat := (labOf (l.take j) x).getD i0
theorem labI_0 (l : List Ms) (x : Int) (i0 : Nat) : labI l x i0 0 = i0 := by unfold labI; rw [List.take_zero]; rfl
theorem labI_yes {l : List Ms} (h : labsOk l) {x : Int} {i0 j : Nat} {t : Ms} (ht : l[j]? = some t) (h6 : t.code = 6 ∧ t.label = x) : labI l x i0 (j + 1) = j := by
  have hj := (List.getElem?_eq_some_iff.1 ht).1
  have h2 := labs_take h (j + 1)
  rw [take_snoc ht, labsOk_snoc] at h2
  have h3 := h2.2 h6.1
  unfold labI
  rw [take_snoc ht, labOf_snoc, ← h6.2, h3, if_pos ⟨h6.1, rfl⟩]
  simp
  omega
theorem labI_no {l : List Ms} {x : Int} {i0 j : Nat} {t : Ms} (ht : l[j]? = some t) (h6 : ¬ (t.code = 6 ∧ t.label = x)) : labI l x i0 (j + 1) = labI l x i0 j := by
  unfold labI
  rw [take_snoc ht, labOf_snoc, if_neg h6, Option.or_none]
theorem labI_all {l : List Ms} {x : Int} {i0 k : Nat} (h : labOf l x = some k) : labI l x i0 l.length = k := by
  unfold labI
  rw [List.take_length, h]
  rfl
theorem lab_next {F : Mf} (hl : ∃ s, F.steps[F.steps.length - 1]? = some s ∧ (s.code = 8 ∨ s.code = 4)) {k : Nat} {s : Ms} (hs : F.steps[k]? = some s) (h8 : s.code ≠ 8) (h4 : s.code ≠ 4) : k + 1 < F.steps.length := by
  obtain ⟨t, h1, h2⟩ := hl
  have hk := (List.getElem?_eq_some_iff.1 hs).1
  rcases Nat.lt_or_ge (k + 1) F.steps.length with h' | h'
  · exact h'
  · have : k = F.steps.length - 1 := by omega
    rw [this, h1] at hs
    injection hs with hs
    subst hs
    omega
theorem lab_next2 {F : Mf} (hl : ∃ s, F.steps[F.steps.length - 1]? = some s ∧ (s.code = 8 ∨ s.code = 4)) {x : Int} {k : Nat} (hk : labOf F.steps x = some k) : k + 1 < F.steps.length := by
  unfold labOf at hk
  rw [List.findIdx?_eq_some_iff_getElem] at hk
  obtain ⟨h1, h2, _⟩ := hk
  refine lab_next hl (List.getElem?_eq_getElem h1) ?_ ?_
  all_goals
    intro e
    simp [e] at h2
end Go.Proofs.YtjmbjpimabnohaaDoor.Mid
