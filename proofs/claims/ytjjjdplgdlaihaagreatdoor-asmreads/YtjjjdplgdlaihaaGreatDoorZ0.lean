/- What AsmReads holds beside one another: both Assembles, and what is at fault first in a list. -/
import Derived.Test.YtjjjdplgdlaihaaGreatDoorG1
import Derived.Test.YtjjjdplgdlaihaaGreatDoorMQ
import Derived.Test.YtjjjdplgdlaihaaGreatDoorMR
import Derived.Test.YtjjjdplgdlaihaaGreatDoorMS
import Derived.Test.YtjjjdplgdlaihaaGreatDoorS2
import Derived.Test.YtjjjdplgdlaihaaGreatDoorE20
namespace Go.Proofs.YtjjjdplgdlaihaaGreatDoor
set_option linter.unusedVariables false
set_option linter.unusedSimpArgs false
open Go Go.RowKit

/-- The first one at fault among the first k. -/
def badAt (l : List Dr) (k : Nat) : Option Nat := (List.range k).find? fun i => match l[i]? with | some d => !rtD d | none => false
theorem bad_zero (l : List Dr) : badAt l 0 = none := rfl
theorem bad_yes {l : List Dr} {k : Nat} {d : Dr} (h : l[k]? = some d) (hr : rtD d = true) : badAt l (k + 1) = badAt l k := by
  unfold badAt
  rw [List.range_succ, List.find?_append]
  simp [h, hr]
theorem bad_no {l : List Dr} {k : Nat} {d : Dr} (h : l[k]? = some d) (hr : rtD d = false) (h0 : badAt l k = none) : badAt l (k + 1) = some k := by
  unfold badAt at *
  rw [List.range_succ, List.find?_append, h0]
  simp [h, hr]
theorem bad_old {l : List Dr} {k i : Nat} (h0 : badAt l k = some i) : badAt l (k + 1) = some i := by
  unfold badAt at *
  rw [List.range_succ, List.find?_append, h0]
  rfl
theorem bad_none {l : List Dr} (h : badAt l l.length = none) : ∀ d ∈ l, rtD d = true := fun d hd => by
  obtain ⟨i, hi, rfl⟩ := List.mem_iff_getElem.1 hd
  unfold badAt at h
  rw [List.find?_eq_none] at h
  have := h i (by simpa using hi)
  rw [List.getElem?_eq_getElem hi] at this
  simpa using this
theorem bad_some {l : List Dr} {k I : Nat} (h : badAt l k = some I) : I < l.length ∧ (∀ (i : Nat) (d : Dr), i < I → l[i]? = some d → rtD d = true) ∧ (∀ d, l[I]? = some d → rtD d = false) := by
  unfold badAt at h
  have h1 := List.find?_some h
  refine ⟨?_, fun i d hi hd => ?_, fun d hd => ?_⟩
  · rcases Nat.lt_or_ge I l.length with hh | hh
    · exact hh
    · rw [List.getElem?_eq_none hh] at h1
      simp at h1
  · obtain ⟨_, us, vs, hab, hno⟩ := List.find?_eq_some_iff_append.1 h
    have hlen : us.length = I := by
      have : (List.range k)[us.length]? = some I := by rw [hab]; simp
      obtain ⟨hh, he⟩ := List.getElem?_eq_some_iff.1 this
      simpa using he
    have hm : i ∈ us := by
      have e : (List.range k)[i]? = us[i]? := by rw [hab, List.getElem?_append_left (by omega)]
      have hk : i < k := by
        have := congrArg List.length hab
        simp at this
        omega
      rw [List.getElem?_range hk] at e
      exact List.mem_of_getElem? e.symm
    have := hno i hm
    rw [hd] at this
    simpa using this
  · rw [hd] at h1
    simpa using h1
def fltV : Option Nat → Int × Int
  | none => (0, -1)
  | some i => (1, i)
def wdD (d : Dr) : Value := .int .u32 (if rtD d then Wd d.o d.d d.a d.b d.n else 0)
theorem wd_all {l : List Dr} (h : ∀ d ∈ l, rtD d = true) : l.map wdD = l.map wdV := by
  refine List.map_congr_left fun d hd => ?_
  unfold wdD wdV
  rw [if_pos (h d hd)]

theorem asm_len (s : By) (hs : s.length < 4294967280) (out : List Dr) (h : asmV rtD s = .ok out) : out.length ≤ s.length + 1 := by
  unfold asmV at h
  cases hL : asmL (linesV s) 0 [] [] with
  | error e => rw [hL] at h; cases h
  | ok r =>
    obtain ⟨ds, ps⟩ := r
    rw [hL] at h
    have h1 := (st_bounds _ _ (upto_length _ _) ds ps ((st_all s hs).trans hL)).1
    have h2 := fin_len ps ds 0 out h
    have h3 := split_len 10 s
    omega
/-- Both Assembles, one behind the other: what the law asks of them is true. -/
def Both (s : ByteArray) (w : World) : Prop :=
  Calls Tryz.prog 5 #[.string s] w fun e w1 => (∃ (q5 : Option Addr) (n5 c5 : Nat) (kf jf : Int), e = .returned (.tuple #[.slice q5 n5 c5, .agg #[.int .i64 kf, .int .i64 jf]]) ∧
    ∀ W, Below w1.heap.size w1 W → Calls Tryz.prog 6 #[.string s] W fun e w2 => (∃ (q7 : Option Addr) (n7 c7 : Nat) (ev : Value), e = .returned (.tuple #[.slice q7 n7 c7, ev]) ∧
      ∀ W2, Below w2.heap.size w2 W2 → (Calls Tryz.prog 7 #[ev, .agg #[.int .i64 kf, .int .i64 jf]] W2 fun e w' => e = .returned (.bool true) ∧ Below W2.heap.size W2 w') ∧ (Calls Tryz.prog 8 #[.slice q7 n7 c7, .slice q5 n5 c5] W2 fun e w' => e = .returned (.bool true) ∧ Below W2.heap.size W2 w')) ∧ Below W.heap.size W w2) ∧ Below w.heap.size w w1
theorem ErrT.belowB {B : Nat} {w w' : World} (h : ErrT w) (hB : w.heap.size ≤ B) (hb : Below B w w') : ErrT w' := h.below (hb.mono hB)
theorem both_any (s : ByteArray) (w : World) (he : Env w) (hF : FineT w) (hT : ErrT w) (h11 : 11 ≤ w.heap.size) (hs : s.size ≤ 1200) : Both s w := by
  refine (asmdoc s w he hF hs).mono ?_
  rintro e w1 ⟨hA, hb1⟩
  refine ⟨?_, hb1⟩
  cases hV : asmV rtD s.data.toList with
  | ok out =>
    rw [hV] at hA
    obtain ⟨v, rfl, hown⟩ := hA
    obtain ⟨q5, c5, rfl, hsl5⟩ := sl_row hown
    refine ⟨q5, out.length, c5, 0, -1, rfl, fun W hW => ?_⟩
    have hbW : Below w.heap.size w W := hb1.trans (hW.mono hb1.size)
    refine (assemble_ok s W (he.below hbW) (by have := hbW.size; omega) (by omega) out hV).mono ?_
    rintro e w2 ⟨v, rfl, hown2, hb2⟩
    obtain ⟨q7, c7, rfl, hsl7⟩ := sl_row hown2
    refine ⟨⟨q7, out.length, c7, .nilIface, rfl, fun W2 hW2 => ⟨is_nil 0 (-1) W2, ?_⟩⟩, hb2⟩
    have hb12 : Below w1.heap.size w1 w2 := hW.trans (hb2.mono hW.size)
    have hb1W : Below w1.heap.size w1 W2 := hb12.trans (hW2.mono hb12.size)
    have hlen : out.length < 4294967281 := by
      have h1 := hown.1
      rcases hown.2 with ⟨_, h0⟩ | ⟨_, cap, _, _, _, _, hc, hm, _⟩
      · omega
      · have := asm_len s.data.toList (by have e : s.data.toList.length = s.size := (by simp); omega) out hV
        have e : s.data.toList.length = s.size := by simp
        omega
    exact same_yes W2 q7 q5 c7 c5 out.length out rfl hlen (hsl7.below hW2) (hsl5.below hb1W)
  | error er =>
    obtain ⟨cd, ln⟩ := er
    rw [hV] at hA
    have hA : e = .returned (.tuple #[.slice none 0 0, .agg #[.int .i64 cd, .int .i64 (ln : Int)]]) := hA
    subst hA
    refine ⟨none, 0, 0, cd, ln, rfl, fun W hW => ?_⟩
    have hbW : Below w.heap.size w W := hb1.trans (hW.mono hb1.size)
    refine (assemble_err s W (he.below hbW) (by have := hbW.size; omega) (by omega) cd ln hV).mono ?_
    rintro e w2 ⟨a, rfl, ha, hb2⟩
    refine ⟨⟨none, 0, 0, .iface 68 (.pointer (some ⟨a, 0, none⟩)), rfl, fun W2 hW2 => ⟨?_, ?_⟩⟩, hb2⟩
    · have hbW2 : Below w.heap.size w W2 := hbW.trans ((hb2.trans (hW2.mono hb2.size)).mono hbW.size)
      have := is_at cd ln cd ln a W2 (hT.below hbW2) (by rw [hW2.block a (Array.getElem?_eq_some_iff.1 ha).1]; exact ha)
      simpa using this
    · exact same_yes W2 none none 0 0 0 [] rfl (by omega) ⟨0, 0, fun h => absurd h (by simp), fun i d hd => by simp at hd⟩ ⟨0, 0, fun h => absurd h (by simp), fun i d hd => by simp at hd⟩
end Go.Proofs.YtjjjdplgdlaihaaGreatDoor
