/- What the cards of asm share: what the walks read of package variables, out of the condition and the world's shape. What finish hands back, out of the plain function. -/
import Derived.Test.YtjjjdplgdlaihaaGreatDoorMD
import Derived.Test.YtjjjdplgdlaihaaGreatDoorMB
import Derived.Test.YtjjjdplgdlaihaaGreatDoorMF
import Derived.ProofKit
import Derived.LaidMore
import Derived.OpenShut
import Derived.ChangeOld
import Derived.Below
import Derived.Stop.Joined
import Derived.Stop.LaidErr
import Derived.Lib.SmallJoins
import Derived.Lib.LaidTab
import Derived.LaidSub
import Derived.Lay
import Derived.Deep.Slices
import Derived.Shelf.Vars
namespace Go.Proofs.YtjjjdplgdlaihaaGreatDoor
open Go Go.Deep Go.ChangeShapes Go.WideShapes Go.ChangeAt Go.WideMaps Go.WideElems Go.RowKit

theorem own : ownKnob Tryz.prog.godebug = none := by kernel_rfl
theorem laidOut : laidOutB Tryz.prog = true := by kernel_rfl
theorem cells30 : Tryz.prog.cellsOf 39 = 5 := by kernel_rfl
theorem cells3 : Tryz.prog.cellsOf 3 = 1 := by kernel_rfl
theorem cells2 : Tryz.prog.cellsOf 2 = 1 := by kernel_rfl
theorem cells9 : Tryz.prog.cellsOf 9 = 1 := by kernel_rfl

abbrev laidA : List (String × DataW Unit) := [("math/bits.deBruijn32tab", Rows.laid_math_bits_deBruijn32tab), ("math/bits.deBruijn64tab", Rows.laid_math_bits_deBruijn64tab), ("internal/strconv.uint64pow10", Rows.laid_internal_strconv_uint64pow10), ("unicode/utf8.acceptRanges", Rows.laid_unicode_utf8_acceptRanges), ("bloomery/word.forms", Rows.laid_bloomery_word_forms), ("bloomery/word.shapes", Rows.laid_bloomery_word_shapes), ("strconv.ErrRange", Rows.laid_strconv_ErrRange), ("strconv.ErrSyntax", Rows.laid_strconv_ErrSyntax), ("bloomery/asm.ops", Rows.laid_bloomery_asm_ops), ("unicode/utf8.first", Rows.laid_unicode_utf8_first)]

theorem gOps : Tryz.prog.globalNamed "bloomery/asm.ops" = some 1 := by kernel_rfl
theorem tOps : (Tryz.prog.globals[1]?).map (·.type) = some 87 := by kernel_rfl
abbrev opD {H : Type} (r : By × By) : DataW H := .agg [.lit (.string r.1), .lit (.string r.2)]
theorem opsD : (Rows.laid_bloomery_asm_ops : DataW Unit) = .agg (opsL.map opD) := by kernel_rfl
theorem cells39 : Tryz.prog.cellsOf 86 = 2 := by kernel_rfl

theorem str_one {H : Type} {enc : TypeId × Value → H} {w : World} {base : Nat} {sp : Nat → Bool} {held : Bool} {fuel : Nat} {cs : List Value} {p : List MemPlace} {a : Nat} {s : By} (h : DataW.trod enc Tryz.prog w base sp held fuel 9 ((cs.drop a).take (Tryz.prog.cellsOf 9)) = some (.lit (.string s), p)) : cs[a]? = some (str s) := by
  obtain ⟨x, h1, h2, _⟩ := DataW.trod_string Tryz.underlying9 h
  simp only [Prod.mk.injEq, DataW.lit.injEq, Lit.string.injEq] at h2
  have : x = ⟨s.toArray⟩ := by cases x with | mk d => rw [h2.1]
  rw [this] at h1
  have := sub_get h1 0 _ rfl
  simpa using this

theorem op_cells {w : World} {fuel : Nat} {cs : List Value} {p : List MemPlace} (h : DataW.trod (fun _ => ()) Tryz.prog w 0 (fun _ => true) false fuel 87 cs = some (.agg (opsL.map opD), p)) (o : Nat) (ho : o < 32) :
    cs[o * 2]? = some (str (opN o)) ∧ cs[o * 2 + 1]? = some (str (opP o)) := by
  obtain ⟨m, d, p', hd, h2⟩ := arr_at Tryz.underlying87 h o ho
  have hlt : o < opsL.length := ho
  rw [List.getElem?_map, List.getElem?_eq_getElem hlt] at hd
  simp only [Option.map_some, Option.some.injEq] at hd
  have hr : opsL[o] = opsL.getD o ([], []) := by rw [List.getD_eq_getElem?_getD, List.getElem?_eq_getElem hlt]; rfl
  rw [hr] at hd
  rw [cells39] at h2
  subst hd
  obtain ⟨_, d0, _, e0, h0⟩ := str_at Tryz.underlying86 h2 0 _ rfl
  obtain ⟨_, d1, _, e1, h1⟩ := str_at Tryz.underlying86 h2 1 _ rfl
  cases e0; cases e1
  have z0 := str_one h0
  have z1 := str_one h1
  have y0 : cs[o * 2 + 0]? = some (str (opN o)) := sub_get rfl 0 _ z0
  rw [Nat.add_zero] at y0
  exact ⟨y0, sub_get rfl 1 _ z1⟩

theorem starE : "*" ++ "errors.errorString" = "*errors.errorString" := by decide
theorem row142 (u : TypeId) (h : Tryz.prog.typeName? 3 u = some "*errors.errorString") : u = 225 :=
  typeName_ptr_named (nm := "errors.errorString") (by rw [starE]; kernel_rfl) (by kernel_rfl) (by decide) u (by rw [starE]; exact h)
theorem gSyn : Tryz.prog.globalNamed "strconv.ErrSyntax" = some 9 := by kernel_rfl
theorem tSyn : (Tryz.prog.globals[9]?).map (·.type) = some 29 := by kernel_rfl
theorem gRng : Tryz.prog.globalNamed "strconv.ErrRange" = some 10 := by kernel_rfl
theorem tRng : (Tryz.prog.globals[10]?).map (·.type) = some 29 := by kernel_rfl
theorem gPow : Tryz.prog.globalNamed "internal/strconv.uint64pow10" = some 5 := by kernel_rfl
theorem tPow : (Tryz.prog.globals[5]?).map (·.type) = some 186 := by kernel_rfl
theorem cells144 : Tryz.prog.cellsOf 227 = 1 := by kernel_rfl

set_option maxRecDepth 100000 in
theorem env_of {W : World} (h : laidMetH Tryz.prog laidA W) (hsh : W.ShapedOpen Tryz.prog) : Env W ∧ 11 ≤ W.heap.size := by
  rw [MakeChecks.laidMetH_plain _ _ _ (by kernel_rfl)] at h
  have h1 := h.filter (fun x => x.1 == "bloomery/word.forms" || x.1 == "bloomery/word.shapes")
  rw [show laidA.filter (fun x => x.1 == "bloomery/word.forms" || x.1 == "bloomery/word.shapes") = [("bloomery/word.forms", Rows.laid_bloomery_word_forms), ("bloomery/word.shapes", Rows.laid_bloomery_word_shapes)] by kernel_rfl] at h1
  have h2 := h.filter (fun x => x.1 == "bloomery/asm.ops")
  rw [show laidA.filter (fun x => x.1 == "bloomery/asm.ops") = [("bloomery/asm.ops", Rows.laid_bloomery_asm_ops)] by kernel_rfl] at h2
  have h3 := h.filter (fun x => x.1 == "internal/strconv.uint64pow10")
  rw [show laidA.filter (fun x => x.1 == "internal/strconv.uint64pow10") = [("internal/strconv.uint64pow10", Lib.tabData .u64 Lib.pow10Tab)] by kernel_rfl] at h3
  have h4 := h.filter (fun x => x.1 == "strconv.ErrSyntax")
  rw [show laidA.filter (fun x => x.1 == "strconv.ErrSyntax") = [("strconv.ErrSyntax", .iface "*errors.errorString" (.ptr (.agg [.lit (.string [105, 110, 118, 97, 108, 105, 100, 32, 115, 121, 110, 116, 97, 120])])))] by kernel_rfl] at h4
  have h5 := h.filter (fun x => x.1 == "strconv.ErrRange")
  rw [show laidA.filter (fun x => x.1 == "strconv.ErrRange") = [("strconv.ErrRange", .iface "*errors.errorString" (.ptr (.agg [.lit (.string [118, 97, 108, 117, 101, 32, 111, 117, 116, 32, 111, 102, 32, 114, 97, 110, 103, 101])])))] by kernel_rfl] at h5
  obtain ⟨_, ⟨g0, t0, cs0, f0, p0, q0, hg0, ht0, hv0, hd0, _, _⟩, _, _⟩ := h2
  obtain rfl := Option.some.inj (gOps.symm.trans hg0)
  obtain rfl := Option.some.inj (tOps.symm.trans ht0)
  rw [opsD] at hd0
  have c0 : ∀ i, W.cell? ⟨1, i, none⟩ = cs0.toList[i]? := fun i => by rw [World.var?_cell hg0 hv0 i]; simp
  obtain ⟨a4, s4, v4, _⟩ := laid_sentinel h4 gSyn tSyn Tryz.underlying29 row142 Tryz.underlying225 Tryz.underlying227 rfl rfl Tryz.underlying9 cells144 cells9
  obtain ⟨a5, s5, v5, _⟩ := laid_sentinel h5 gRng tRng Tryz.underlying29 row142 Tryz.underlying225 Tryz.underlying227 rfl rfl Tryz.underlying9 cells144 cells9
  refine ⟨⟨tabs_of_laid h1, fun o _ h2 => by rw [c0]; exact (op_cells hd0 o (by omega)).1, fun o _ h2 => by rw [c0]; exact (op_cells hd0 o (by omega)).2, Lib.tabIs_of_head gPow tPow Tryz.underlying186 Tryz.underlying162 (by kernel_rfl) (by kernel_rfl) h3,
    Go.Proofs.cell_of_shapedOpen_int (zero := #[.int .i64 0]) (t := 3) hsh (of_decide_eq_true (by kernel_rfl)) (by kernel_rfl) rfl (by kernel_rfl) (by kernel_rfl) Tryz.underlying3, ⟨_, _, v4⟩, ⟨_, _, v5⟩⟩, ?_⟩
  have := World.var?_cell gRng v5 0
  have := World.block_lt_of_cell? W _ (this.trans rfl)
  exact this

set_option maxRecDepth 100000 in
/-- A list of instructions that is handed in. -/
theorem open_insts {H : Type} {enc : TypeId × Value → H} {W : World} {base : Nat} {v : Value} {dt : DataW H} {p : List MemPlace} {r : Reach} {b0 : Nat} {sp : Nat → Bool}
    (hv : Value.okWide Tryz.prog W r b0 22 v) (h : DataW.Trod enc Tryz.prog W base sp true 22 v dt p) : ∃ q c l, v = .slice q l.length c ∧ (q = none → c = 0) ∧ Sl W q l ∧ (∀ d ∈ l, d.pl = []) ∧ (∀ d ∈ l, -9223372036854775808 ≤ d.n ∧ d.n ≤ 9223372036854775807) := by
  obtain ⟨q, len, c, rfl⟩ := okWide_slice Tryz.underlying22 hv
  obtain ⟨fuel, hf⟩ := h
  rcases open_slice Tryz.underlying22 hf with ⟨hcs, _⟩ | ⟨a, len', cap', m, n, D, Pl, hcs, _, hl, _, hm, _, hx⟩
  · simp [Value.cells] at hcs
    obtain ⟨rfl, rfl, rfl⟩ := hcs
    exact ⟨none, 0, [], rfl, fun _ => rfl, ⟨0, 0, fun h => absurd h (by simp), fun i d hd => by simp at hd⟩, (fun d hd => (by cases hd)), (fun d hd => (by cases hd))⟩
  · simp [Value.cells] at hcs
    obtain ⟨rfl, rfl, rfl⟩ := hcs
    have hlm : len ≤ m := by rw [hm]; split <;> omega
    have each : ∀ i, i < len → ∃ d : Dr, d.pl = [] ∧ (-9223372036854775808 ≤ d.n ∧ d.n ≤ 9223372036854775807) ∧ ∀ j, j < 5 → W.cell? (a.add (i * 5 + j)) = [Value.int .i64 d.o, .int .i64 d.d, .int .i64 d.a, .int .i64 d.b, .int .i64 d.n][j]? := by
      intro i hi
      obtain ⟨cs, h1, h2⟩ := hx i (by omega)
      rw [cells30] at h1
      obtain ⟨_, hlen, hcell⟩ := World.cells?_some h1
      have hd : ∃ ds, D i = .agg ds := by
        cases n with
        | zero => simp [DataW.trod] at h2
        | succ k =>
          simp only [DataW.trod, Tryz.underlying39] at h2
          split at h2
          · obtain ⟨xs, _, hx⟩ := Option.map_eq_some_iff.1 h2
            simp only [Prod.mk.injEq] at hx
            exact ⟨_, hx.1.symm⟩
          · cases h2
      obtain ⟨ds, hds⟩ := hd
      rw [hds] at h2
      obtain ⟨_, y0, _, _, k0⟩ := str_at Tryz.underlying39 h2 0 _ rfl
      obtain ⟨_, y1, _, _, k1⟩ := str_at Tryz.underlying39 h2 1 _ rfl
      obtain ⟨_, y2, _, _, k2⟩ := str_at Tryz.underlying39 h2 2 _ rfl
      obtain ⟨_, y3, _, _, k3⟩ := str_at Tryz.underlying39 h2 3 _ rfl
      obtain ⟨_, y4, _, _, k4⟩ := str_at Tryz.underlying39 h2 4 _ rfl
      obtain ⟨z0, e0, _⟩ := DataW.trod_int Tryz.underlying3 k0
      obtain ⟨z1, e1, _⟩ := DataW.trod_int Tryz.underlying3 k1
      obtain ⟨z2, e2, _⟩ := DataW.trod_int Tryz.underlying3 k2
      obtain ⟨z3, e3, _⟩ := DataW.trod_int Tryz.underlying3 k3
      obtain ⟨z4, e4, _, w4⟩ := DataW.trod_int Tryz.underlying2 k4
      have f0 : cs[0]? = some (.int .i64 z0) := by simpa using sub_get e0 0 _ rfl
      have f1 : cs[1]? = some (.int .i64 z1) := by simpa using sub_get e1 0 _ rfl
      have f2 : cs[2]? = some (.int .i64 z2) := by simpa using sub_get e2 0 _ rfl
      have f3 : cs[3]? = some (.int .i64 z3) := by simpa using sub_get e3 0 _ rfl
      have f4 : cs[4]? = some (.int .i64 z4) := by simpa using sub_get e4 0 _ rfl
      refine ⟨⟨z0, z1, z2, z3, z4, []⟩, rfl, bounds_i64 w4, fun j hj => ?_⟩
      have := hcell j hj
      rw [add_add] at this
      rw [this]
      match j, hj with
      | 0, _ => exact f0
      | 1, _ => exact f1
      | 2, _ => exact f2
      | 3, _ => exact f3
      | 4, _ => exact f4
    have : Inhabited Dr := ⟨⟨0, 0, 0, 0, 0, []⟩⟩
    obtain ⟨q, hq⟩ := choose_lt each
    refine ⟨some a, c, (List.range len).map q, by simp, (fun h => by cases h), ?_, fun d hd => ?_, fun d hd => ?_⟩
    · by_cases h0 : 0 < len
      · have hc0 := (hq 0 h0).2.2 0 (by omega)
        have ha0 : a.add (0 * 5 + 0) = a := by unfold Addr.add; rw [if_pos rfl]
        rw [ha0] at hc0
        obtain ⟨g, o, s'⟩ := a
        have hs : s' = none := by
          unfold World.cell? at hc0
          split at hc0
          · cases s' with
            | none => rfl
            | some x => simp at hc0
          · cases hc0
        subst hs
        refine ⟨g, o, fun _ => rfl, fun i d hd => ?_⟩
        rw [List.getElem?_map] at hd
        have hi : i < len := by
          have := List.getElem?_eq_some_iff.1 (Option.map_eq_some_iff.1 hd).choose_spec.1
          simpa using this.1
        rw [List.getElem?_range hi] at hd
        simp at hd
        subst hd
        have k : ∀ j, j < 5 → W.cell? ⟨g, o + i * 5 + j, none⟩ = [Value.int .i64 (q i).o, .int .i64 (q i).d, .int .i64 (q i).a, .int .i64 (q i).b, .int .i64 (q i).n][j]? := fun j hj => by
          have := (hq i hi).2.2 j hj
          have e : ((⟨g, o, none⟩ : Addr).add (i * 5 + j)) = ⟨g, o + i * 5 + j, none⟩ := by
            unfold Addr.add
            split
            · rename_i h; have : i * 5 = 0 := by omega
              have : j = 0 := by omega
              simp [*]
            · simp [Nat.add_assoc]
          rw [e] at this
          exact this
        exact ⟨k 0 (by omega), k 1 (by omega), k 2 (by omega), k 3 (by omega), k 4 (by omega)⟩
      · obtain rfl : len = 0 := by omega
        exact ⟨0, 0, fun h => absurd h (by simp), fun i d hd => by simp at hd⟩
    · obtain ⟨i, hi, rfl⟩ := List.mem_map.1 hd
      exact (hq i (List.mem_range.1 hi)).1
    · obtain ⟨i, hi, rfl⟩ := List.mem_map.1 hd
      exact (hq i (List.mem_range.1 hi)).2.1
end Go.Proofs.YtjjjdplgdlaihaaGreatDoor

namespace Go.Proofs.YtjjjdplgdlaihaaGreatDoor
open Go Go.RowKit

def rtD (d : Dr) : Bool := Rt d.o d.d d.a d.b d.n
theorem map_ok {α β : Type} {f : α → β} {x : Except (Int × Nat) α} {y : β} (h : x.map f = .ok y) : ∃ z, x = .ok z ∧ y = f z := by
  cases x with
  | error e => cases h
  | ok z => exact ⟨z, rfl, by injection h with h; exact h.symm⟩
theorem fin_of (ps : Places) : ∀ (ds : Drafts) (i : Nat) (out : List Dr), finV rtD ps i ds = .ok out →
    out.length = ds.length ∧ ∀ (k : Nat) (d : Dr) (ln : Nat), ds[k]? = some (d, ln) → ∃ N : Int, out[k]? = some ⟨d.o, d.d, d.a, d.b, N, []⟩ ∧ Rt d.o d.d d.a d.b N = true ∧ ((d.pl = [] ∧ N = d.n) ∨ (d.pl ≠ [] ∧ ∃ j : Nat, ps.lookup d.pl = some j ∧ N = 4 * ((j : Int) - ((i + k : Nat) : Int))))
  | [], i, out, h => by
    rw [finV] at h
    injection h with h
    subst h
    exact ⟨rfl, fun k d ln hk => by simp at hk⟩
  | (d, ln) :: ds, i, out, h => by
    rw [finV] at h
    by_cases hp : d.pl = []
    · rw [if_pos hp] at h
      cases hr : rtD d with
      | false => rw [hr] at h; cases h
      | true =>
        rw [hr, if_pos rfl] at h
        obtain ⟨z, hz, rfl⟩ := map_ok h
        obtain ⟨h1, h2⟩ := fin_of ps ds (i + 1) z hz
        refine ⟨by simp [h1], fun k d' ln' hk => ?_⟩
        cases k with
        | zero =>
          simp at hk
          obtain ⟨rfl, rfl⟩ := hk
          refine ⟨d.n, ?_, hr, .inl ⟨hp, rfl⟩⟩
          obtain ⟨o, dd, a, b, n, pl⟩ := d
          simp only at hp
          subst hp
          rfl
        | succ k =>
          obtain ⟨N, a1, a2, a3⟩ := h2 k d' ln' (by simpa using hk)
          refine ⟨N, by simpa using a1, a2, ?_⟩
          rcases a3 with a3 | ⟨a3, j, a4, a5⟩
          · exact .inl a3
          · exact .inr ⟨a3, j, a4, by rw [a5]; congr 2; omega⟩
    · rw [if_neg hp] at h
      cases hl : ps.lookup d.pl with
      | none => rw [hl] at h; cases h
      | some j =>
        rw [hl] at h
        simp only at h
        cases hr : rtD { d with n := 4 * ((j : Int) - i), pl := [] } with
        | false => rw [hr] at h; cases h
        | true =>
          rw [hr, if_pos rfl] at h
          obtain ⟨z, hz, rfl⟩ := map_ok h
          obtain ⟨h1, h2⟩ := fin_of ps ds (i + 1) z hz
          refine ⟨by simp [h1], fun k d' ln' hk => ?_⟩
          cases k with
          | zero =>
            simp at hk
            obtain ⟨rfl, rfl⟩ := hk
            exact ⟨4 * ((j : Int) - i), rfl, hr, .inr ⟨hp, j, hl, rfl⟩⟩
          | succ k =>
            obtain ⟨N, a1, a2, a3⟩ := h2 k d' ln' (by simpa using hk)
            refine ⟨N, by simpa using a1, a2, ?_⟩
            rcases a3 with a3 | ⟨a3, j, a4, a5⟩
            · exact .inl a3
            · exact .inr ⟨a3, j, a4, by rw [a5]; congr 2; omega⟩

theorem lookup_mem (nm : By) (j : Nat) : ∀ ps : Places, ps.lookup nm = some j → ∃ x, (x, j) ∈ ps
  | [], h => by simp at h
  | (x, i) :: ps, h => by
    rw [List.lookup] at h
    split at h
    · injection h with h; subst h; exact ⟨x, by simp⟩
    · obtain ⟨y, hy⟩ := lookup_mem nm j ps h
      exact ⟨y, by simp [hy]⟩

/-- finish's own words, where no draft is at fault. -/
theorem finOk_of (ds : Drafts) (ps : Places) (out : List Dr) (h : finV rtD ps 0 ds = .ok out) (hp : ∀ x ∈ ps, x.2 < 4294967281) (hd : ∀ x ∈ ds, x.1.pl.length < 4294967281) : FinOk ds ps out := by
  obtain ⟨h1, h2⟩ := fin_of ps ds 0 out h
  refine ⟨h1, fun k d ln hk => ?_⟩
  obtain ⟨N, a1, a2, a3⟩ := h2 k d ln hk
  refine ⟨N, a1, a2, ?_⟩
  rcases a3 with a3 | ⟨a3, j, a4, a5⟩
  · exact .inl a3
  · obtain ⟨x, hx⟩ := lookup_mem _ _ _ a4
    exact .inr ⟨a3, hd _ (List.mem_of_getElem? hk), j, hp _ hx, a4, by rw [a5]; simp⟩
end Go.Proofs.YtjjjdplgdlaihaaGreatDoor
