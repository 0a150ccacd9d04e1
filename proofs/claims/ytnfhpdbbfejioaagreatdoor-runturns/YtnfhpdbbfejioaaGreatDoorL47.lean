/- What the cards of run share: what the walks read of package variables, out of the condition and the world's shape. What the rows of run's laws share: a list of numbers that is given. -/
import Derived.Test.YtnfhpdbbfejioaaGreatDoorL45
import Derived.SevenTiedAt
import Derived.Test.YtnfhpdbbfejioaaGreatDoorRows
import Derived.ProofKit
import Derived.OpenShut
import Derived.ChangeOld
import Derived.Below
import Derived.Stop.Joined
import Derived.Stop.LaidErr
import Derived.Lib.SmallJoins
import Derived.Lib.LaidTab
import Derived.LaidSub
import Derived.LaidHandle
import Derived.Lay
import Derived.Deep.Slices
import Derived.Shelf.Vars
import Derived.Test.YtnfhpdbbfejioaaGreatDoorTie
import Derived.Test.YtnfhpdbbfejioaaGreatDoorCards
import Derived.ChangeMaps5
import Derived.ChangeSlices
namespace Go.Proofs.YtnfhpdbbfejioaaGreatDoor
set_option linter.unusedVariables false
open Go Go.Deep Go.ChangeShapes Go.WideShapes Go.ChangeAt Go.WideMaps Go.WideElems Go.RowKit

section
variable {H : Type} {enc : TypeId × Value → H} {P : Program} {w : World} {base : Nat} {sp : Nat → Bool} {held : Bool}
theorem arr_at {fuel n : Nat} {t e : TypeId} {cs : List Value} {ds : List (DataW H)} {p : List MemPlace} (ht : P.underlying t = some (.array n e)) (h : DataW.trod enc P w base sp held fuel t cs = some (.agg ds, p)) (i : Nat) (hi : i < n) :
    ∃ fuel' d p', ds[i]? = some d ∧ DataW.trod enc P w base sp held fuel' e ((cs.drop (i * P.cellsOf e)).take (P.cellsOf e)) = some (d, p') := by
  obtain ⟨xs, m, rfl, hx, hl, hn, hel⟩ := DataW.trod_array ht h
  have h1 := hel i hi
  simp only [Prod.mk.injEq, DataW.agg.injEq] at hx
  have hlt : i < xs.length := by omega
  rw [List.getElem?_eq_getElem hlt] at h1
  exact ⟨m, xs[i].1, xs[i].2, by rw [hx.1]; simp [hlt], h1⟩

theorem str_at {fuel : Nat} {t : TypeId} {fs : Array Field} {cs : List Value} {ds : List (DataW H)} {p : List MemPlace} (ht : P.underlying t = some (.struct fs)) (h : DataW.trod enc P w base sp held fuel t cs = some (.agg ds, p)) (i : Nat) (f : Field) (hf : fs.toList[i]? = some f) :
    ∃ fuel' d p', ds[i]? = some d ∧ DataW.trod enc P w base sp held fuel' f.type ((cs.drop f.offset).take (P.cellsOf f.type)) = some (d, p') := by
  cases fuel with
  | zero => simp [DataW.trod] at h
  | succ m =>
    simp only [DataW.trod, ht] at h
    split at h
    · obtain ⟨xs, hm, hx⟩ := Option.map_eq_some_iff.1 h
      obtain ⟨b, hb, hb2⟩ := Lib.mapM_at hm i f hf
      simp only [Prod.mk.injEq, DataW.agg.injEq] at hx
      exact ⟨m, b.1, b.2, by rw [← hx.1]; simp [hb], hb2⟩
    · cases h

theorem int_is {fuel : Nat} {t : TypeId} {k k' : IntKind} {z : Int} {cs : List Value} {p : List MemPlace} (ht : P.underlying t = some (.int k)) (h : DataW.trod enc P w base sp held fuel t cs = some (.lit (.int k' z), p)) : cs = [.int k' z] := by
  obtain ⟨n, h1, h2, _⟩ := DataW.trod_int ht h
  simp only [Prod.mk.injEq, DataW.lit.injEq, Lit.int.injEq] at h2
  rw [h1, h2.1.1, h2.1.2]
end

theorem sub_get {cs l : List Value} {a b : Nat} (h : (cs.drop a).take b = l) (j : Nat) (v : Value) (hv : l[j]? = some v) : cs[a + j]? = some v := by
  subst h
  rw [List.getElem?_take] at hv
  split at hv
  · rw [List.getElem?_drop] at hv; exact hv
  · cases hv

section
variable {H : Type} {enc : TypeId × Value → H} {w : World} {base : Nat} {sp : Nat → Bool} {held : Bool}
theorem int_sub {fuel : Nat} {l : List Value} {t : TypeId} {k k' : IntKind} {z : Int} {a : Nat} {p : List MemPlace} (ht : Tryz.prog.underlying t = some (.int k)) (hc : Tryz.prog.cellsOf t = 1)
    (h : DataW.trod enc Tryz.prog w base sp held fuel t ((l.drop a).take (Tryz.prog.cellsOf t)) = some (.lit (.int k' z), p)) : l[a]? = some (.int k' z) := by
  have := int_is ht h
  rw [hc] at this
  exact sub_get this 0 _ rfl
end
theorem own : ownKnob Tryz.prog.godebug = none := by kernel_rfl
theorem laidOut : laidOutB Tryz.prog = true := by kernel_rfl
theorem cells3 : Tryz.prog.cellsOf 3 = 1 := by kernel_rfl
theorem cells9 : Tryz.prog.cellsOf 9 = 1 := by kernel_rfl
theorem cells288 : Tryz.prog.cellsOf 288 = 2 := by kernel_rfl
theorem cells340 : Tryz.prog.cellsOf 340 = 1 := by kernel_rfl
theorem str_one {H : Type} {enc : TypeId × Value → H} {w : World} {base : Nat} {sp : Nat → Bool} {held : Bool} {fuel : Nat} {cs : List Value} {p : List MemPlace} {a : Nat} {s : By} (h : DataW.trod enc Tryz.prog w base sp held fuel 9 ((cs.drop a).take (Tryz.prog.cellsOf 9)) = some (.lit (.string s), p)) : cs[a]? = some (str s) := by
  obtain ⟨x, h1, h2, _⟩ := DataW.trod_string Tryz.underlying9 h
  simp only [Prod.mk.injEq, DataW.lit.injEq, Lit.string.injEq] at h2
  have : x = ⟨s.toArray⟩ := by cases x with | mk d => rw [h2.1]
  rw [this] at h1
  have := sub_get h1 0 _ rfl
  simpa using this


abbrev laidP : List (String × DataW Unit) := [("math/bits.deBruijn32tab", Rows.laid_math_bits_deBruijn32tab), ("math/bits.deBruijn64tab", Rows.laid_math_bits_deBruijn64tab), ("internal/strconv.uint64pow10", Rows.laid_internal_strconv_uint64pow10), ("unicode/utf8.acceptRanges", Rows.laid_unicode_utf8_acceptRanges), ("strconv.ErrRange", Rows.laid_strconv_ErrRange), ("strconv.ErrSyntax", Rows.laid_strconv_ErrSyntax), ("bloomery/tree.marks", Rows.laid_bloomery_tree_marks), ("bloomery/tree.pairs", Rows.laid_bloomery_tree_pairs), ("unicode/utf8.first", Rows.laid_unicode_utf8_first)]
theorem gMarks : Tryz.prog.globalNamed "bloomery/tree.marks" = some 1 := by kernel_rfl
theorem tMarks : (Tryz.prog.globals[1]?).map (·.type) = some 190 := by kernel_rfl
theorem gPairs : Tryz.prog.globalNamed "bloomery/tree.pairs" = some 6 := by kernel_rfl
theorem tPairs : (Tryz.prog.globals[6]?).map (·.type) = some 289 := by kernel_rfl
abbrev markD {H : Type} (r : By) : DataW H := .lit (.string r)
abbrev pairD {H : Type} (r : By × Nat) : DataW H := .agg [.lit (.string r.1), .lit (.int .i64 (r.2 : Int))]
theorem marksD : (Rows.laid_bloomery_tree_marks : DataW Unit) = .agg (marksL.map markD) := by kernel_rfl
theorem pairsD : (Rows.laid_bloomery_tree_pairs : DataW Unit) = .agg (pairsL.map pairD) := by kernel_rfl
theorem mark_cells {w : World} {fuel : Nat} {cs : List Value} {p : List MemPlace} (h : DataW.trod (fun _ => ()) Tryz.prog w 0 (fun _ => true) false fuel 190 cs = some (.agg (marksL.map markD), p)) (o : Nat) (v : Value) (hv : (marksL.map str)[o]? = some v) : cs[o]? = some v := by
  rw [List.getElem?_map] at hv
  obtain ⟨r, hr, rfl⟩ := Option.map_eq_some_iff.1 hv
  have hlt : o < marksL.length := (List.getElem?_eq_some_iff.1 hr).1
  obtain ⟨m, d, p', hd, h2⟩ := arr_at Tryz.underlying190 h o hlt
  rw [List.getElem?_map, hr] at hd
  simp only [Option.map_some, Option.some.injEq] at hd
  subst hd
  have := str_one h2
  rw [cells9, Nat.mul_one] at this
  exact this
theorem pair_cells {w : World} {fuel : Nat} {cs : List Value} {p : List MemPlace} (h : DataW.trod (fun _ => ()) Tryz.prog w 0 (fun _ => true) false fuel 289 cs = some (.agg (pairsL.map pairD), p)) (o : Nat) (r : By × Nat) (hr : pairsL[o]? = some r) :
    cs[o * 2]? = some (str r.1) ∧ cs[o * 2 + 1]? = some (.int .i64 (r.2 : Int)) := by
  have hlt : o < pairsL.length := (List.getElem?_eq_some_iff.1 hr).1
  obtain ⟨m, d, p', hd, h2⟩ := arr_at Tryz.underlying289 h o hlt
  rw [List.getElem?_map, hr] at hd
  simp only [Option.map_some, Option.some.injEq] at hd
  rw [cells288] at h2
  subst hd
  obtain ⟨_, d0, _, e0, h0⟩ := str_at Tryz.underlying288 h2 0 _ rfl
  obtain ⟨_, d1, _, e1, h1⟩ := str_at Tryz.underlying288 h2 1 _ rfl
  cases e0; cases e1
  have z0 := str_one h0
  have z1 := int_sub Tryz.underlying3 cells3 h1
  have y0 : cs[o * 2 + 0]? = some (str r.1) := sub_get rfl 0 _ z0
  rw [Nat.add_zero] at y0
  exact ⟨y0, sub_get rfl 1 _ z1⟩
theorem flat_get : ∀ (l : List (By × Nat)) (cs : List Value), (∀ (o : Nat) (r : By × Nat), l[o]? = some r → cs[o * 2]? = some (str r.1) ∧ cs[o * 2 + 1]? = some (.int .i64 (r.2 : Int))) → ∀ (j : Nat) (v : Value), (l.flatMap fun x => [str x.1, .int .i64 (x.2 : Int)])[j]? = some v → cs[j]? = some v
  | [], cs, h, j, v, hv => by simp at hv
  | x :: l, cs, h, 0, v, hv => by
    have := (h 0 x rfl).1
    simp at hv
    subst hv
    exact this
  | x :: l, cs, h, 1, v, hv => by
    have := (h 0 x rfl).2
    simp at hv
    subst hv
    exact this
  | x :: l, cs, h, j + 2, v, hv => by
    have ih := flat_get l (cs.drop 2) (fun o r hr => by
      have := h (o + 1) r (by simpa using hr)
      rw [List.getElem?_drop, List.getElem?_drop]
      rw [show 2 + o * 2 = (o + 1) * 2 by omega, show 2 + (o * 2 + 1) = (o + 1) * 2 + 1 by omega]
      exact this) j v (by simpa using hv)
    rw [List.getElem?_drop, Nat.add_comm] at ih
    exact ih
theorem starE : "*" ++ "errors.errorString" = "*errors.errorString" := by decide
theorem row338 (u : TypeId) (h : Tryz.prog.typeName? 3 u = some "*errors.errorString") : u = 338 :=
  typeName_ptr_named (nm := "errors.errorString") (by rw [starE]; kernel_rfl) (by kernel_rfl) (by decide) u (by rw [starE]; exact h)
theorem tSyn : (Tryz.prog.globals[12]?).map (·.type) = some 34 := by kernel_rfl
theorem tRng : (Tryz.prog.globals[13]?).map (·.type) = some 34 := by kernel_rfl
theorem tPow : (Tryz.prog.globals[7]?).map (·.type) = some 313 := by kernel_rfl

set_option maxRecDepth 100000 in
theorem env_ofP {W : World} (hR : laidMetH Tryz.prog laidP W) (hsh : W.ShapedOpen Tryz.prog) : EnvW 14 W := by
  have h : laidMet Tryz.prog laidP W := by
    rw [MakeChecks.laidMetH_plain _ _ _ (by kernel_rfl)] at hR
    exact hR
  have h1 := h.filter (fun x => x.1 == "bloomery/tree.marks")
  rw [show laidP.filter (fun x => x.1 == "bloomery/tree.marks") = [("bloomery/tree.marks", Rows.laid_bloomery_tree_marks)] by kernel_rfl] at h1
  have h2 := h.filter (fun x => x.1 == "bloomery/tree.pairs")
  rw [show laidP.filter (fun x => x.1 == "bloomery/tree.pairs") = [("bloomery/tree.pairs", Rows.laid_bloomery_tree_pairs)] by kernel_rfl] at h2
  have h3 := h.filter (fun x => x.1 == "internal/strconv.uint64pow10")
  rw [show laidP.filter (fun x => x.1 == "internal/strconv.uint64pow10") = [("internal/strconv.uint64pow10", Lib.tabData .u64 Lib.pow10Tab)] by kernel_rfl] at h3
  have h4 := h.filter (fun x => x.1 == "strconv.ErrSyntax")
  rw [show laidP.filter (fun x => x.1 == "strconv.ErrSyntax") = [("strconv.ErrSyntax", .iface "*errors.errorString" (.ptr (.agg [.lit (.string [105, 110, 118, 97, 108, 105, 100, 32, 115, 121, 110, 116, 97, 120])])))] by kernel_rfl] at h4
  have h5 := h.filter (fun x => x.1 == "strconv.ErrRange")
  rw [show laidP.filter (fun x => x.1 == "strconv.ErrRange") = [("strconv.ErrRange", .iface "*errors.errorString" (.ptr (.agg [.lit (.string [118, 97, 108, 117, 101, 32, 111, 117, 116, 32, 111, 102, 32, 114, 97, 110, 103, 101])])))] by kernel_rfl] at h5
  obtain ⟨_, ⟨g0, t0, cs0, f0, p0, q0, hg0, ht0, hv0, hd0, _, _⟩, _, _⟩ := h1
  obtain rfl := Option.some.inj (gMarks.symm.trans hg0)
  obtain rfl := Option.some.inj (tMarks.symm.trans ht0)
  rw [marksD] at hd0
  have c0 : ∀ i, W.cell? ⟨1, i, none⟩ = cs0.toList[i]? := fun i => by rw [World.var?_cell hg0 hv0 i]; simp
  obtain ⟨_, ⟨g1, t1, cs1, f1, p1, q1, hg1, ht1, hv1, hd1, _, _⟩, _, _⟩ := h2
  obtain rfl := Option.some.inj (gPairs.symm.trans hg1)
  obtain rfl := Option.some.inj (tPairs.symm.trans ht1)
  rw [pairsD] at hd1
  have c1 : ∀ i, W.cell? ⟨6, i, none⟩ = cs1.toList[i]? := fun i => by rw [World.var?_cell hg1 hv1 i]; simp
  obtain ⟨a4, s4, v4, _⟩ := laid_sentinel h4 gSyn tSyn Tryz.underlying34 row338 Tryz.underlying338 Tryz.underlying340 rfl rfl Tryz.underlying9 cells340 cells9
  obtain ⟨a5, s5, v5, _⟩ := laid_sentinel h5 gRng tRng Tryz.underlying34 row338 Tryz.underlying338 Tryz.underlying340 rfl rfl Tryz.underlying9 cells340 cells9
  have he : Env W := ⟨Go.Proofs.cell_of_shapedOpen_int (zero := #[.int .i64 0]) (t := 3) hsh (of_decide_eq_true (by kernel_rfl)) (by kernel_rfl) rfl (by kernel_rfl) (by kernel_rfl) Tryz.underlying3,
    fun j v hv => by rw [Nat.zero_add, c0]; exact mark_cells hd0 j v hv, fun j v hv => by rw [Nat.zero_add, c1]; exact flat_get pairsL _ (pair_cells hd1) j v hv, ⟨_, _, v4⟩, ⟨_, _, v5⟩⟩
  exact ⟨he, Lib.tabIs_of_head gPow tPow Tryz.underlying313 Tryz.underlying293 (by kernel_rfl) (by kernel_rfl) h3, Nat.le_refl _, he.lt⟩
end Go.Proofs.YtnfhpdbbfejioaaGreatDoor
namespace Go.Proofs.YtnfhpdbbfejioaaGreatDoor
set_option linter.unusedVariables false
open Go Go.Deep Go.ChangeShapes Go.WideShapes Go.ChangeAt Go.WideMaps Go.WideElems Go.RowKit Go.ChangeMaps

theorem und22 : Tryz.prog.underlying 22 = some (.slice 2) := by kernel_rfl
theorem cells2 : Tryz.prog.cellsOf 2 = 1 := by kernel_rfl
theorem spot_noneX {w : World} {a : Addr} {v : Value} (h : w.cell? a = some v) : a.spot = none := by
  unfold World.cell? at h
  split at h
  · cases hs : a.spot with
    | none => rfl
    | some x => simp [hs] at h
  · cases h
theorem add_atX (g o j : Nat) : (⟨g, o, none⟩ : Addr).add j = ⟨g, o + j, none⟩ := by unfold Addr.add; split <;> simp_all
theorem take_getDX (zs : List Int) (n j : Nat) (hj : j < n) : (zs.take n).getD j 0 = zs.getD j 0 := by
  rw [List.getD_eq_getElem?_getD, List.getD_eq_getElem?_getD, List.getElem?_take_of_lt hj]
set_option maxRecDepth 100000 in
theorem open_nums {H : Type} {enc : TypeId × Value → H} {W : World} {base : Nat} {v : Value} {dt : DataW H} {p : List MemPlace} {r : Reach} {b0 : Nat} {sp : Nat → Bool} (hv : Value.okWide Tryz.prog W r b0 22 v) (h : DataW.Trod enc Tryz.prog W base sp true 22 v dt p) : ∃ G, InW W v G := by
  obtain ⟨q, len, c, rfl⟩ := okWide_slice und22 hv
  obtain ⟨fuel, hf⟩ := h
  rcases open_ints und22 Tryz.underlying2 cells2 hf with ⟨hcs, hx⟩ | ⟨a, len', cap', zs, hcs, _, hl, hm, hz, hx, hcell, hwz⟩
  · simp [Value.cells] at hcs
    obtain ⟨rfl, rfl, rfl⟩ := hcs
    exact ⟨[], none, 0, rfl, .inl rfl⟩
  · simp [Value.cells] at hcs
    obtain ⟨rfl, rfl, rfl⟩ := hcs
    have hzl : len ≤ zs.length := by rw [hz]; split <;> omega
    have htl : (zs.take len).length = len := by simp; omega
    refine ⟨zs.take len, some a, c, by rw [htl], ?_⟩
    by_cases hn : zs.take len = []
    · exact .inl hn
    have hlen : 0 < len := by
      rcases Nat.eq_zero_or_pos len with h0 | h0
      · subst h0; simp at hn
      · exact h0
    have h0 := hcell 0 (by omega)
    have ha0 : a.add 0 = a := by unfold Addr.add; rw [if_pos rfl]
    rw [ha0] at h0
    obtain ⟨g, o, sp'⟩ := a
    have hsp : sp' = none := spot_noneX h0
    subst hsp
    refine .inr ⟨g, o, rfl, World.block_lt_of_cell? W _ h0, by rw [htl]; omega, fun j x hx => ?_⟩
    have hj : j < len := by have := (List.getElem?_eq_some_iff.1 hx).1; omega
    have := hcell j (by omega)
    rw [add_atX] at this
    have e : zs.getD j 0 = x := by
      rw [← take_getDX zs len j hj, List.getD_eq_getElem?_getD, hx]
      rfl
    rw [e] at this
    exact this
end Go.Proofs.YtnfhpdbbfejioaaGreatDoor
