/- From what the two tables read as to the cells that they hold. -/
import Derived.Test.YtjjjdplgdlaihaaGreatDoorL0
namespace Go.Proofs.YtjjjdplgdlaihaaGreatDoor
open Go Go.RowKit

section
variable {H : Type} {enc : TypeId × Value → H} {P : Program} {w : World} {base : Nat} {sp : Nat → Bool} {held : Bool}

theorem arr_at {fuel n : Nat} {t e : TypeId} {cs : List Value} {ds : List (DataW H)} {p : List MemPlace} (ht : P.underlying t = some (.array n e)) (h : DataW.trod enc P w base sp held fuel t cs = some (.agg ds, p)) (i : Nat) (hi : i < n) :
    ∃ fuel' d p', ds[i]? = some d ∧ DataW.trod enc P w base sp held fuel' e ((cs.drop (i * P.cellsOf e)).take (P.cellsOf e)) = some (d, p') := by
  obtain ⟨xs, m, rfl, hx, hl, hn, hel⟩ := DataW.trod_array ht h
  have h1 := hel i hi
  simp only [Prod.mk.injEq, DataW.agg.injEq] at hx
  have hlt : i < xs.length := by omega
  rw [List.getElem?_eq_getElem hlt] at h1
  exact ⟨m, xs[i].1, xs[i].2, by rw [hx.1]; simp [hlt], h1⟩

theorem str_at {fuel : Nat} {t : TypeId} {fs : Array Field} {cs : List Value} {ds : List (DataW H)} {p : List MemPlace} (ht : P.underlying t = some (.struct fs)) (h : DataW.trod enc P w base sp held fuel t cs = some (.agg ds, p)) (i : Nat) (f : Field) (hf : fs.toList[i]? = some f) :
    ∃ fuel' d p', ds[i]? = some d ∧ DataW.trod enc P w base sp held fuel' f.type ((cs.drop f.offset).take (P.cellsOf f.type)) = some (d, p') := by
  cases fuel with
  | zero => simp [DataW.trod] at h
  | succ m =>
    simp only [DataW.trod, ht] at h
    split at h
    · obtain ⟨xs, hm, hx⟩ := Option.map_eq_some_iff.1 h
      obtain ⟨b, hb, hb2⟩ := Lib.mapM_at hm i f hf
      simp only [Prod.mk.injEq, DataW.agg.injEq] at hx
      exact ⟨m, b.1, b.2, by rw [← hx.1]; simp [hb], hb2⟩
    · cases h

theorem int_is {fuel : Nat} {t : TypeId} {k k' : IntKind} {z : Int} {cs : List Value} {p : List MemPlace} (ht : P.underlying t = some (.int k)) (h : DataW.trod enc P w base sp held fuel t cs = some (.lit (.int k' z), p)) : cs = [.int k' z] := by
  obtain ⟨n, h1, h2, _⟩ := DataW.trod_int ht h
  simp only [Prod.mk.injEq, DataW.lit.injEq, Lit.int.injEq] at h2
  rw [h1, h2.1.1, h2.1.2]
theorem bool_is {fuel : Nat} {t : TypeId} {b : Bool} {cs : List Value} {p : List MemPlace} (ht : P.underlying t = some .bool) (h : DataW.trod enc P w base sp held fuel t cs = some (.lit (.bool b), p)) : cs = [.bool b] := by
  obtain ⟨n, h1, h2⟩ := DataW.trod_bool ht h
  simp only [Prod.mk.injEq, DataW.lit.injEq, Lit.bool.injEq] at h2
  rw [h1, h2.1]
end

theorem sub_get {cs l : List Value} {a b : Nat} (h : (cs.drop a).take b = l) (j : Nat) (v : Value) (hv : l[j]? = some v) : cs[a + j]? = some v := by
  subst h
  rw [List.getElem?_take] at hv
  split at hv
  · rw [List.getElem?_drop] at hv; exact hv
  · cases hv

abbrev formD {H : Type} (r : Nat × Int × Int × Int) : DataW H := .agg [.lit (.int .u8 r.1), .lit (.int .u8 r.2.1), .lit (.int .u8 r.2.2.1), .lit (.int .u8 r.2.2.2)]
abbrev moveD {H : Type} (f t c : Int) : DataW H := .agg [.lit (.int .u8 f), .lit (.int .u8 t), .lit (.int .u8 c)]
abbrev shapeD {H : Type} (s : Sh) : DataW H := .agg [.lit (.bool s.rd), .lit (.bool s.ra), .lit (.bool s.rb), .lit (.bool s.sg), .lit (.int .u8 s.wd), .lit (.int .u8 s.zs), .lit (.int .u32 s.fx), .agg [moveD s.f0 s.t0 s.c0, moveD s.f1 s.t1 s.c1, moveD s.f2 s.t2 s.c2, moveD s.f3 s.t3 s.c3]]
theorem formsD {H : Type} : (Rows.laid_bloomery_word_forms : DataW H) = .agg (formsL.map formD) := rfl
theorem shapesD {H : Type} : (Rows.laid_bloomery_word_shapes : DataW H) = .agg (shapesL.map shapeD) := rfl

theorem cells5 : Tryz.prog.cellsOf 5 = 1 := by kernel_rfl
theorem cells4 : Tryz.prog.cellsOf 4 = 1 := by kernel_rfl
theorem cells24 : Tryz.prog.cellsOf 43 = 1 := by kernel_rfl
theorem cells53 : Tryz.prog.cellsOf 135 = 4 := by kernel_rfl
theorem cells58 : Tryz.prog.cellsOf 129 = 3 := by kernel_rfl
theorem cells59 : Tryz.prog.cellsOf 130 = 12 := by kernel_rfl
theorem cells61 : Tryz.prog.cellsOf 132 = 19 := by kernel_rfl
end Go.Proofs.YtjjjdplgdlaihaaGreatDoor
