/- HN NA NB -/
import Derived.Test.YtnfhpdbbfejioaaGreatDoorE21
import Derived.Stop.LaidErr
import Derived.Lib.SmallJoins
import Derived.Lay
import Derived.Test.YtnfhpdbbfejioaaGreatDoorTie
import Derived.Test.YtnfhpdbbfejioaaGreatDoorCards
namespace Go.Proofs.YtnfhpdbbfejioaaGreatDoor
set_option linter.unusedVariables false
open Go Go.Deep Go.ChangeShapes Go.WideShapes Go.ChangeAt Go.WideMaps Go.WideElems Go.RowKit
section
variable {H : Type} {enc : TypeId × Value → H} {P : Program} {w : World} {base : Nat} {sp : Nat → Bool} {held : Bool}
theorem arr_at {fuel n : Nat} {t e : TypeId} {cs : List Value} {ds : List (DataW H)} {p : List MemPlace} (ht : P.underlying t = some (.array n e)) (h : DataW.trod enc P w base sp held fuel t cs = some (.agg ds, p)) (i : Nat) (hi : i < n) :
  ∃ fuel' d p', ds[i]? = some d ∧ DataW.trod enc P w base sp held fuel' e ((cs.drop (i * P.cellsOf e)).take (P.cellsOf e)) = some (d, p') := by
 obtain ⟨xs, m, rfl, hx, hl, hn, hel⟩ := DataW.trod_array ht h
 have h1 := hel i hi
 simp only [Prod.mk.injEq, DataW.agg.injEq] at hx
 have hlt : i < xs.length := by omega
 rw [List.getElem?_eq_getElem hlt] at h1
 exact ⟨m, xs[i].1, xs[i].2, by rw [hx.1]; simp [hlt], h1⟩
theorem str_at {fuel : Nat} {t : TypeId} {fs : Array Field} {cs : List Value} {ds : List (DataW H)} {p : List MemPlace} (ht : P.underlying t = some (.struct fs)) (h : DataW.trod enc P w base sp held fuel t cs = some (.agg ds, p)) (i : Nat) (f : Field) (hf : fs.toList[i]? = some f) :
  ∃ fuel' d p', ds[i]? = some d ∧ DataW.trod enc P w base sp held fuel' f.type ((cs.drop f.offset).take (P.cellsOf f.type)) = some (d, p') := by
 cases fuel with
 | zero => simp [DataW.trod] at h
 | succ m =>
  simp only [DataW.trod, ht] at h
  split at h
  ·obtain ⟨xs, hm, hx⟩ := Option.map_eq_some_iff.1 h
   obtain ⟨b, hb, hb2⟩ := Lib.mapM_at hm i f hf
   simp only [Prod.mk.injEq, DataW.agg.injEq] at hx
   exact ⟨m, b.1, b.2, by rw [← hx.1]; simp [hb], hb2⟩
  ·cases h
theorem int_is {fuel : Nat} {t : TypeId} {k k' : IntKind} {z : Int} {cs : List Value} {p : List MemPlace} (ht : P.underlying t = some (.int k)) (h : DataW.trod enc P w base sp held fuel t cs = some (.lit (.int k' z), p)) : cs = [.int k' z] := by
 obtain ⟨n, h1, h2, _⟩ := DataW.trod_int ht h
 simp only [Prod.mk.injEq, DataW.lit.injEq, Lit.int.injEq] at h2
 rw [h1, h2.1.1, h2.1.2]
end
theorem zX {cs l : List Value} {a b : Nat} (h : (cs.drop a).take b = l) (j : Nat) (v : Value) (hv : l[j]? = some v) : cs[a + j]? = some v := by
 subst h
 rw [List.getElem?_take] at hv
 split at hv
 ·rw [List.getElem?_drop] at hv; exact hv
 ·cases hv
section
variable {H : Type} {enc : TypeId × Value → H} {w : World} {base : Nat} {sp : Nat → Bool} {held : Bool}
theorem int_sub {fuel : Nat} {l : List Value} {t : TypeId} {k k' : IntKind} {z : Int} {a : Nat} {p : List MemPlace} (ht : Tryz.prog.underlying t = some (.int k)) (hc : Tryz.prog.cellsOf t = 1)
  (h : DataW.trod enc Tryz.prog w base sp held fuel t ((l.drop a).take (Tryz.prog.cellsOf t)) = some (.lit (.int k' z), p)) : l[a]? = some (.int k' z) := by
 have := int_is ht h
 rw [hc] at this
 exact zX this 0 _ rfl
end
theorem own : ownKnob Tryz.prog.godebug = none := by kernel_rfl
theorem laidOut : laidOutB Tryz.prog = true := by kernel_rfl
theorem cells3 : Tryz.prog.cellsOf 3 = 1 := by kernel_rfl
theorem cells9 : Tryz.prog.cellsOf 9 = 1 := by kernel_rfl
theorem cells288 : Tryz.prog.cellsOf 288 = 2 := by kernel_rfl
theorem cells340 : Tryz.prog.cellsOf 340 = 1 := by kernel_rfl
theorem str_one {H : Type} {enc : TypeId × Value → H} {w : World} {base : Nat} {sp : Nat → Bool} {held : Bool} {fuel : Nat} {cs : List Value} {p : List MemPlace} {a : Nat} {s : By} (h : DataW.trod enc Tryz.prog w base sp held fuel 9 ((cs.drop a).take (Tryz.prog.cellsOf 9)) = some (.lit (.string s), p)) : cs[a]? = some (str s) := by
 obtain ⟨x, h1, h2, _⟩ := DataW.trod_string Tryz.underlying9 h
 simp only [Prod.mk.injEq, DataW.lit.injEq, Lit.string.injEq] at h2
 have : x = ⟨s.toArray⟩ := by cases x with | mk d => rw [h2.1]
 rw [this] at h1
 have := zX h1 0 _ rfl
 simpa using this
abbrev laidP : List (String × DataW Unit) := [("math/bits.deBruijn32tab", Rows.laid_math_bits_deBruijn32tab), ("math/bits.deBruijn64tab", Rows.laid_math_bits_deBruijn64tab), ("internal/strconv.uint64pow10", Rows.laid_internal_strconv_uint64pow10), ("unicode/utf8.acceptRanges", Rows.laid_unicode_utf8_acceptRanges), ("strconv.ErrRange", Rows.laid_strconv_ErrRange), ("strconv.ErrSyntax", Rows.laid_strconv_ErrSyntax), ("bloomery/tree.marks", Rows.laid_bloomery_tree_marks), ("bloomery/tree.pairs", Rows.laid_bloomery_tree_pairs), ("unicode/utf8.first", Rows.laid_unicode_utf8_first)]
theorem gMarks : Tryz.prog.globalNamed "bloomery/tree.marks" = some 1 := by kernel_rfl
theorem tMarks : (Tryz.prog.globals[1]?).map (·.type) = some 190 := by kernel_rfl
theorem gPairs : Tryz.prog.globalNamed "bloomery/tree.pairs" = some 6 := by kernel_rfl
theorem tPairs : (Tryz.prog.globals[6]?).map (·.type) = some 289 := by kernel_rfl
abbrev markD {H : Type} (r : By) : DataW H := .lit (.string r)
abbrev pairD {H : Type} (r : By × Nat) : DataW H := .agg [.lit (.string r.1), .lit (.int .i64 (r.2 : Int))]
theorem marksD : (Rows.laid_bloomery_tree_marks : DataW Unit) = .agg (marksL.map markD) := by kernel_rfl
theorem pairsD : (Rows.laid_bloomery_tree_pairs : DataW Unit) = .agg (pairsL.map pairD) := by kernel_rfl
theorem mark_cells {w : World} {fuel : Nat} {cs : List Value} {p : List MemPlace} (h : DataW.trod (fun _ => ()) Tryz.prog w 0 (fun _ => true) false fuel 190 cs = some (.agg (marksL.map markD), p)) (o : Nat) (v : Value) (hv : (marksL.map str)[o]? = some v) : cs[o]? = some v := by
 rw [List.getElem?_map] at hv
 obtain ⟨r, hr, rfl⟩ := Option.map_eq_some_iff.1 hv
 have hlt : o < marksL.length := (List.getElem?_eq_some_iff.1 hr).1
 obtain ⟨m, d, p', hd, h2⟩ := arr_at Tryz.underlying190 h o hlt
 rw [List.getElem?_map, hr] at hd
 simp only [Option.map_some, Option.some.injEq] at hd
 subst hd
 have := str_one h2
 rw [cells9, Nat.mul_one] at this
 exact this
theorem pair_cells {w : World} {fuel : Nat} {cs : List Value} {p : List MemPlace} (h : DataW.trod (fun _ => ()) Tryz.prog w 0 (fun _ => true) false fuel 289 cs = some (.agg (pairsL.map pairD), p)) (o : Nat) (r : By × Nat) (hr : pairsL[o]? = some r) :
  cs[o * 2]? = some (str r.1) ∧ cs[o * 2 + 1]? = some (.int .i64 (r.2 : Int)) := by
 have hlt : o < pairsL.length := (List.getElem?_eq_some_iff.1 hr).1
 obtain ⟨m, d, p', hd, h2⟩ := arr_at Tryz.underlying289 h o hlt
 rw [List.getElem?_map, hr] at hd
 simp only [Option.map_some, Option.some.injEq] at hd
 rw [cells288] at h2
 subst hd
 obtain ⟨_, d0, _, e0, h0⟩ := str_at Tryz.underlying288 h2 0 _ rfl
 obtain ⟨_, d1, _, e1, h1⟩ := str_at Tryz.underlying288 h2 1 _ rfl
 cases e0; cases e1
 have z0 := str_one h0
 have z1 := int_sub Tryz.underlying3 cells3 h1
 have y0 : cs[o * 2 + 0]? = some (str r.1) := zX rfl 0 _ z0
 rw [Nat.add_zero] at y0
 exact ⟨y0, zX rfl 1 _ z1⟩
theorem flat_get : ∀ (l : List (By × Nat)) (cs : List Value), (∀ (o : Nat) (r : By × Nat), l[o]? = some r → cs[o * 2]? = some (str r.1) ∧ cs[o * 2 + 1]? = some (.int .i64 (r.2 : Int))) → ∀ (j : Nat) (v : Value), (l.flatMap fun x => [str x.1, .int .i64 (x.2 : Int)])[j]? = some v → cs[j]? = some v
 | [], cs, h, j, v, hv => by simp at hv
 | x :: l, cs, h, 0, v, hv => by
  have := (h 0 x rfl).1
  simp at hv
  subst hv
  exact this
 | x :: l, cs, h, 1, v, hv => by
  have := (h 0 x rfl).2
  simp at hv
  subst hv
  exact this
 | x :: l, cs, h, j + 2, v, hv => by
  have ih := flat_get l (cs.drop 2) (fun o r hr => by
   have := h (o + 1) r (by simpa using hr)
   rw [List.getElem?_drop, List.getElem?_drop]
   rw [show 2 + o * 2 = (o + 1) * 2 by omega, show 2 + (o * 2 + 1) = (o + 1) * 2 + 1 by omega]
   exact this) j v (by simpa using hv)
  rw [List.getElem?_drop, Nat.add_comm] at ih
  exact ih
theorem starE : "*" ++ "errors.errorString" = "*errors.errorString" := by decide
theorem row338 (u : TypeId) (h : Tryz.prog.typeName? 3 u = some "*errors.errorString") : u = 338 :=
 typeName_ptr_named (nm := "errors.errorString") (by rw [starE]; kernel_rfl) (by kernel_rfl) (by decide) u (by rw [starE]; exact h)
theorem tSyn : (Tryz.prog.globals[12]?).map (·.type) = some 34 := by kernel_rfl
theorem tRng : (Tryz.prog.globals[13]?).map (·.type) = some 34 := by kernel_rfl
theorem tPow : (Tryz.prog.globals[7]?).map (·.type) = some 313 := by kernel_rfl
set_option maxRecDepth 100000 in
theorem env_ofP {W : World} (hR : laidMetH Tryz.prog laidP W) (hsh : W.ShapedOpen Tryz.prog) : EnvW 14 W := by
 have h : laidMet Tryz.prog laidP W := by
  rw [MakeChecks.laidMetH_plain _ _ _ (by kernel_rfl)] at hR
  exact hR
 have h1 := h.filter (fun x => x.1 == "bloomery/tree.marks")
 rw [show laidP.filter (fun x => x.1 == "bloomery/tree.marks") = [("bloomery/tree.marks", Rows.laid_bloomery_tree_marks)] by kernel_rfl] at h1
 have h2 := h.filter (fun x => x.1 == "bloomery/tree.pairs")
 rw [show laidP.filter (fun x => x.1 == "bloomery/tree.pairs") = [("bloomery/tree.pairs", Rows.laid_bloomery_tree_pairs)] by kernel_rfl] at h2
 have h3 := h.filter (fun x => x.1 == "internal/strconv.uint64pow10")
 rw [show laidP.filter (fun x => x.1 == "internal/strconv.uint64pow10") = [("internal/strconv.uint64pow10", Lib.tabData .u64 Lib.pow10Tab)] by kernel_rfl] at h3
 have h4 := h.filter (fun x => x.1 == "strconv.ErrSyntax")
 rw [show laidP.filter (fun x => x.1 == "strconv.ErrSyntax") = [("strconv.ErrSyntax", .iface "*errors.errorString" (.ptr (.agg [.lit (.string [105, 110, 118, 97, 108, 105, 100, 32, 115, 121, 110, 116, 97, 120])])))] by kernel_rfl] at h4
 have h5 := h.filter (fun x => x.1 == "strconv.ErrRange")
 rw [show laidP.filter (fun x => x.1 == "strconv.ErrRange") = [("strconv.ErrRange", .iface "*errors.errorString" (.ptr (.agg [.lit (.string [118, 97, 108, 117, 101, 32, 111, 117, 116, 32, 111, 102, 32, 114, 97, 110, 103, 101])])))] by kernel_rfl] at h5
 obtain ⟨_, ⟨g0, t0, cs0, f0, p0, q0, hg0, ht0, hv0, hd0, _, _⟩, _, _⟩ := h1
 obtain rfl := Option.some.inj (gMarks.symm.trans hg0)
 obtain rfl := Option.some.inj (tMarks.symm.trans ht0)
 rw [marksD] at hd0
 have c0 : ∀ i, W.cell? ⟨1, i, none⟩ = cs0.toList[i]? := fun i => by rw [World.var?_cell hg0 hv0 i]; simp
 obtain ⟨_, ⟨g1, t1, cs1, f1, p1, q1, hg1, ht1, hv1, hd1, _, _⟩, _, _⟩ := h2
 obtain rfl := Option.some.inj (gPairs.symm.trans hg1)
 obtain rfl := Option.some.inj (tPairs.symm.trans ht1)
 rw [pairsD] at hd1
 have c1 : ∀ i, W.cell? ⟨6, i, none⟩ = cs1.toList[i]? := fun i => by rw [World.var?_cell hg1 hv1 i]; simp
 obtain ⟨a4, s4, v4, _⟩ := laid_sentinel h4 gSyn tSyn Tryz.underlying34 row338 Tryz.underlying338 Tryz.underlying340 rfl rfl Tryz.underlying9 cells340 cells9
 obtain ⟨a5, s5, v5, _⟩ := laid_sentinel h5 gRng tRng Tryz.underlying34 row338 Tryz.underlying338 Tryz.underlying340 rfl rfl Tryz.underlying9 cells340 cells9
 have he : Env W := ⟨Go.Proofs.cell_of_shapedOpen_int (zero := #[.int .i64 0]) (t := 3) hsh (of_decide_eq_true (by kernel_rfl)) (by kernel_rfl) rfl (by kernel_rfl) (by kernel_rfl) Tryz.underlying3,
  fun j v hv => by rw [Nat.zero_add, c0]; exact mark_cells hd0 j v hv, fun j v hv => by rw [Nat.zero_add, c1]; exact flat_get pairsL _ (pair_cells hd1) j v hv, ⟨_, _, v4⟩, ⟨_, _, v5⟩⟩
 exact ⟨he, Lib.tabIs_of_head gPow tPow Tryz.underlying313 Tryz.underlying293 (by kernel_rfl) (by kernel_rfl) h3, Nat.le_refl _, he.lt⟩
end Go.Proofs.YtnfhpdbbfejioaaGreatDoor
namespace Go.Proofs.YtnfhpdbbfejioaaGreatDoor.Mid
set_option linter.unusedVariables false
set_option linter.unusedSimpArgs false
set_option maxRecDepth 100000
set_option maxHeartbeats 16000000
open Go Go.RowKit
abbrev By := List UInt8
abbrev ptr (b : Nat) : Value := .pointer (some ⟨b, 0, none⟩)
theorem zb {w : World} {g : Nat} {cs : Array Value} {t : TypeId} (h : w.heap[g]? = some (.cells cs t)) (i : Nat) : w.frozen? ⟨g, i, none⟩ = false := by simp [World.frozen?, h]
theorem zc {w : World} {g : Nat} {A : Obj} (h : g < w.heap.size) : (w.alloc A).heap[g]? = w.heap[g]? := ((Below.refl w.heap.size w).alloc (Nat.le_refl _) A).block g h
theorem own_lt {w : World} {B e z n : Nat} {v : Value} {l : List Value} (h : w.ownsRow B e z v n l) (i : Nat) (hi : v.ownBlock = some i) : i < w.heap.size := (h.lt i hi).2
theorem zd {W : World} {B e z n : Nat} {v : Value} {l : List Value} (h : W.ownsRow B e z v n l) : ∃ q c, v = .slice q n c := by
  rcases h.2 with ⟨rfl, rfl⟩ | ⟨g, cap, cur, rfl, _⟩
  · exact ⟨_, _, rfl⟩
  · exact ⟨_, _, rfl⟩
theorem z_ {w : World} {q i : Nat} {cs : Array Value} {t : TypeId} {v : Value} (h : w.heap[q]? = some (.cells cs t)) (hi : cs[i]? = some v) : w.cell? ⟨q, i, none⟩ = some v := by
  rw [cell_of_row _ _ _ _ _ _ h]; exact hi
abbrev endE (k : Int) : Ending := .panicked [{ v := .iface 116 (.int .i64 k), recovered := false }]
abbrev vlA (n : Int) (q : Value) : Value := .agg #[.int .i64 n, q]
theorem zU (k : Int) (w : World) : Calls Tryz.prog 78 #[.int .i64 k] w fun e w' => e = endE k ∧ w' = w := by
  go_enter Tryz.func78, Tryz.ntmps78
  go_wp2
  exact ⟨rfl, rfl, rfl⟩
structure Sg where
  fuel : Int
  inp : List Int
  out : List Int
  hp : List (List Int)
abbrev Vl := Int × Option Nat
abbrev Go1 (α : Type) := Sg → Except (Int × List Int) (α × Sg)
def gp {α : Type} (a : α) : Go1 α := fun s => .ok (a, s)
def gb {α β : Type} (x : Go1 α) (f : α → Go1 β) : Go1 β := fun s =>
  match x s with
  | .error e => .error e
  | .ok (a, s1) => f a s1
def gt {α : Type} (w : Int) : Go1 α := fun s => .error (w, s.out)
def pay : Go1 Unit := fun s => if s.fuel ≤ 0 then .error (6, s.out) else .ok ((), { s with fuel := s.fuel - 1 })
def tellG (n : Int) : Go1 Unit := fun s => if 200 ≤ s.out.length then .error (7, s.out) else .ok ((), { s with out := s.out ++ [n] })
def takeG : Go1 Int := fun s => .ok (s.inp.headD 0, { s with inp := s.inp.tail })
def newG (n : Int) : Go1 Vl := fun s => if n < 0 ∨ 40 < n then .error (4, s.out) else .ok ((0, some s.hp.length), { s with hp := s.hp ++ [List.replicate n.toNat 0] })
def zS (s : Sg) : Option Nat → List Int
  | none => []
  | some i => s.hp.getD i []
def lenG (q : Option Nat) : Go1 Int := fun s => .ok (((zS s q).length : Int), s)
def itemG (q : Option Nat) (i : Int) : Go1 Int := fun s => if i < 0 ∨ ((zS s q).length : Int) ≤ i then .error (3, s.out) else .ok ((zS s q).getD i.toNat 0, s)
def putG (q : Option Nat) (i n : Int) : Go1 Unit := fun s => if i < 0 ∨ ((zS s q).length : Int) ≤ i then .error (3, s.out) else .ok ((), { s with hp := s.hp.modify (q.getD 0) (fun l => l.set i.toNat n) })
theorem gb_ne {α β : Type} {x : Go1 α} {f : α → Go1 β} {s : Sg} (h : ∀ out, gb x f s ≠ .error (99, out)) : (∀ out, x s ≠ .error (99, out)) ∧ ∀ a s1, x s = .ok (a, s1) → ∀ out, f a s1 ≠ .error (99, out) := by
  refine ⟨fun out e => h out ?_, fun a s1 e out e2 => h out ?_⟩
  · unfold gb; rw [e]
  · unfold gb; rw [e]; exact e2
theorem gb_o {α β : Type} {x : Go1 α} {f : α → Go1 β} {s s1 : Sg} {a : α} (h : x s = .ok (a, s1)) : gb x f s = f a s1 := by unfold gb; rw [h]
theorem gb_e {α β : Type} {x : Go1 α} {f : α → Go1 β} {s : Sg} {e : Int × List Int} (h : x s = .error e) : gb x f s = .error e := by unfold gb; rw [h]
theorem pay_no {s : Sg} (h : s.fuel ≤ 0) : pay s = .error (6, s.out) := if_pos h
theorem pay_yes {s : Sg} (h : ¬ s.fuel ≤ 0) : pay s = .ok ((), { s with fuel := s.fuel - 1 }) := if_neg h
abbrev q_ (l : List Int) : List Value := l.map (.int .i64)
structure Rs where
  ab : List (Nat × Nat)
  iv : Value
  ov : Value
  s : Sg
def Xs (P : Nat) (r : Rs) (b : Nat) : Prop := b = P ∨ b ∈ r.ab.map (·.1) ∨ r.ov.ownBlock = some b
def InS (w0 : World) (P : Nat) (iv : Value) (l : List Int) : Prop :=
  ∃ q c, iv = .slice q l.length c ∧ (l = [] ∨ ∃ g o, q = some ⟨g, o, none⟩ ∧ g < w0.heap.size ∧ g ≠ P ∧ l.length ≤ c ∧ ∀ j x, l[j]? = some x → w0.cell? ⟨g, o + j, none⟩ = some (.int .i64 x))
structure Sm (w0 : World) (P : Nat) (fv : Value) (w : World) (r : Rs) (d : Nat) : Prop where
  lt : P < w0.heap.size
  le : w0.heap.size ≤ w.heap.size
  kp : ∀ b, b < w0.heap.size → b ≠ P → w.heap[b]? = w0.heap[b]?
  pb : w.heap[P]? = some (.cells #[fv, r.iv, r.ov, .int .i64 r.s.fuel, .int .i64 (d : Int)] 115)
  inp : InS w0 P r.iv r.s.inp
  out : w.ownsRow w0.heap.size 2 1 r.ov r.s.out.length (q_ r.s.out)
  apart : ∀ i, r.ov.ownBlock = some i → i ∉ r.ab.map (·.1)
  alen : r.ab.length = r.s.hp.length
  arr : ∀ (i b n : Nat), r.ab[i]? = some (b, n) → ∃ l, r.s.hp[i]? = some l ∧ l.length = n ∧ n ≤ 40 ∧ w.heap[b]? = some (.cells (q_ l).toArray 2)
  lo : ∀ b ∈ r.ab.map (·.1), w0.heap.size ≤ b
  nd : (r.ab.map (·.1)).Nodup
  few : -9223372036854775808 ≤ r.s.fuel ∧ r.s.fuel ≤ 10000000
  told : r.s.out.length ≤ 200
  deep : d ≤ 40
structure Fz (P : Nat) (E : Nat → Prop) (w : World) (r : Rs) (w' : World) (r' : Rs) : Prop where
  os : w'.os = w.os
  tape : w'.tape = w.tape
  output : w'.output = w.output
  size : w.heap.size ≤ w'.heap.size
  blk : ∀ b, b < w.heap.size → ¬ Xs P r b → ¬ E b → w'.heap[b]? = w.heap[b]?
  pre : r.ab <+: r'.ab
  new : ∀ b, Xs P r' b → ¬ Xs P r b → w.heap.size ≤ b
abbrev NoE : Nat → Prop := fun _ => False
theorem Fz.refl (P : Nat) (E : Nat → Prop) (w : World) (r : Rs) : Fz P E w r w r := ⟨rfl, rfl, rfl, Nat.le_refl _, fun _ _ _ _ => rfl, List.prefix_rfl, fun b h1 h2 => absurd h1 h2⟩
theorem Fz.trans {P : Nat} {E : Nat → Prop} {w1 w2 w3 : World} {r1 r2 r3 : Rs} (h : Fz P E w1 r1 w2 r2) (g : Fz P E w2 r2 w3 r3) : Fz P E w1 r1 w3 r3 := by
  refine ⟨g.os.trans h.os, g.tape.trans h.tape, g.output.trans h.output, Nat.le_trans h.size g.size, fun b hb hx he => ?_, h.pre.trans g.pre, fun b h3 h1 => ?_⟩
  · rw [g.blk b (Nat.lt_of_lt_of_le hb h.size) (fun h2 => by have := h.new b h2 hx; omega) he, h.blk b hb hx he]
  · by_cases h2 : Xs P r2 b
    · exact h.new b h2 h1
    · exact Nat.le_trans h.size (g.new b h3 h2)
theorem Fz.wide {P : Nat} {E E' : Nat → Prop} {w w' : World} {r r' : Rs} (h : Fz P E w r w' r') (hE : ∀ b, E b → E' b) : Fz P E' w r w' r' := ⟨h.os, h.tape, h.output, h.size, fun b hb hx he => h.blk b hb hx (fun e => he (hE b e)), h.pre, h.new⟩
theorem Fz.no {P : Nat} {E : Nat → Prop} {w w' : World} {r r' : Rs} (h : Fz P NoE w r w' r') : Fz P E w r w' r' := h.wide (fun _ h => h.elim)
theorem Fz.below {P : Nat} {E : Nat → Prop} {w w' : World} {r : Rs} (h : Below w.heap.size w w') : Fz P E w r w' r := ⟨h.os, h.tape, h.output, h.size, fun b hb _ _ => h.block b hb, List.prefix_rfl, fun b h1 h2 => absurd h1 h2⟩
theorem qr {w w' : World} {B e z n : Nat} {v : Value} {ys : List Value} (h : w.ownsRow B e z v n ys) (hk : ∀ i, v.ownBlock = some i → w'.heap[i]? = w.heap[i]?) : w'.ownsRow B e z v n ys := by
  refine ⟨h.1, ?_⟩
  rcases h.2 with hh | ⟨g', cap, cur, hv, hb, hg, rest⟩
  · exact .inl hh
  · exact .inr ⟨g', cap, cur, hv, hb, by rw [hk g' (by rw [hv]; rfl)]; exact hg, rest⟩
theorem Sm.below {w0 : World} {P : Nat} {fv : Value} {w w' : World} {r : Rs} {d : Nat} (h : Sm w0 P fv w r d) (hb : Below w.heap.size w w') : Sm w0 P fv w' r d := by
  have hP := Nat.lt_of_lt_of_le h.lt h.le
  refine ⟨h.lt, Nat.le_trans h.le hb.size, fun b h1 h2 => ?_, ?_, h.inp, qr h.out (fun i hi => hb.block i (own_lt h.out i hi)), h.apart, h.alen, fun i b n hi => ?_, h.lo, h.nd, h.few, h.told, h.deep⟩
  · rw [hb.block b (Nat.lt_of_lt_of_le h1 h.le)]; exact h.kp b h1 h2
  · rw [hb.block P hP]; exact h.pb
  · obtain ⟨l, a1, a2, a3, a4⟩ := h.arr i b n hi
    exact ⟨l, a1, a2, a3, by rw [hb.block b (Array.getElem?_eq_some_iff.1 a4).1]; exact a4⟩
theorem Sm.ltP {w0 : World} {P : Nat} {fv : Value} {w : World} {r : Rs} {d : Nat} (h : Sm w0 P fv w r d) : P < w.heap.size := Nat.lt_of_lt_of_le h.lt h.le
def QvS (ab : List (Nat × Nat)) : Option Nat → Value → Prop
  | none, v => v = .slice none 0 0
  | some i, v => ∃ b n, ab[i]? = some (b, n) ∧ v = .slice (some ⟨b, 0, none⟩) n n
theorem pre_get {α : Type} {a b : List α} (h : a <+: b) {i : Nat} {x : α} (hx : a[i]? = some x) : b[i]? = some x := by
  obtain ⟨c, rfl⟩ := h
  rw [List.getElem?_append_left (List.getElem?_eq_some_iff.1 hx).1]
  exact hx
theorem QvS.mono {a b : List (Nat × Nat)} (h : a <+: b) {i : Option Nat} {v : Value} (hv : QvS a i v) : QvS b i v := by
  cases i with
  | none => exact hv
  | some i =>
    obtain ⟨k, n, h1, h2⟩ := hv
    exact ⟨k, n, pre_get h h1, h2⟩
structure Cx where
  w0 : World
  P : Nat
  fv : Value
theorem Sm.ne {w0 : World} {P : Nat} {fv : Value} {w : World} {r : Rs} {d : Nat} (h : Sm w0 P fv w r d) {b : Nat} (hb : b ∈ r.ab.map (·.1)) : b ≠ P := by
  have := h.lo b hb
  have := h.lt
  omega
theorem Sm.setP {w0 : World} {P : Nat} {fv : Value} {w : World} {r : Rs} {d : Nat} (h : Sm w0 P fv w r d) {i : Nat} {v : Value} (r' : Rs) (d' : Nat) (hpb : (#[fv, r.iv, r.ov, .int .i64 r.s.fuel, .int .i64 (d : Int)] : Array Value).setIfInBounds i v = #[fv, r'.iv, r'.ov, .int .i64 r'.s.fuel, .int .i64 (d' : Int)])
    (hab : r'.ab = r.ab) (hhp : r'.s.hp = r.s.hp) (hov : r'.ov = r.ov) (hout : r'.s.out = r.s.out) (hin : InS w0 P r'.iv r'.s.inp) (hf : -9223372036854775808 ≤ r'.s.fuel ∧ r'.s.fuel ≤ 10000000) (hd : d' ≤ 40) :
    Sm w0 P fv (w.setCell ⟨P, i, none⟩ v) r' d' ∧ Fz P NoE w r (w.setCell ⟨P, i, none⟩ v) r' := by
  have hoth : ∀ b, b ≠ P → (w.setCell ⟨P, i, none⟩ v).heap[b]? = w.heap[b]? := fun b hb => heap_setCell_other _ _ _ _ hb
  have hsz : (w.setCell ⟨P, i, none⟩ v).heap.size = w.heap.size := by simp
  have hX : ∀ b, Xs P r' b ↔ Xs P r b := fun b => by unfold Xs; rw [hab, hov]
  refine ⟨⟨h.lt, by rw [hsz]; exact h.le, fun b h1 h2 => by rw [hoth b h2]; exact h.kp b h1 h2, ?_, hin, ?_, ?_, by rw [hab, hhp]; exact h.alen, ?_, by rw [hab]; exact h.lo, by rw [hab]; exact h.nd, hf, by rw [hout]; exact h.told, hd⟩, ⟨rfl, rfl, rfl, by rw [hsz]; exact Nat.le_refl _, fun b _ hx _ => hoth b (fun e => hx (.inl e)), by rw [hab]; exact List.prefix_rfl, fun b h1 h2 => absurd ((hX b).1 h1) h2⟩⟩
  · rw [heap_setCell_same _ _ _ _ _ _ h.pb, hpb]
  · rw [hov, hout]
    refine qr h.out (fun k hk => hoth k (fun e => ?_))
    have := (h.out.lt k hk).1
    have := h.lt
    omega
  · rw [hov, hab]; exact h.apart
  · intro k b n hk
    rw [hab] at hk
    obtain ⟨l, a1, a2, a3, a4⟩ := h.arr k b n hk
    refine ⟨l, by rw [hhp]; exact a1, a2, a3, ?_⟩
    rw [hoth b (h.ne (List.mem_map.2 ⟨(b, n), List.mem_of_getElem? hk, rfl⟩))]
    exact a4
def Rs.fuel1 (r : Rs) : Rs := { r with s := { r.s with fuel := r.s.fuel - 1 } }
def PayP (X : Cx) (w : World) (r : Rs) (d : Nat) (e : Ending) (w' : World) : Prop :=
  (r.s.fuel ≤ 0 ∧ e = endE 6 ∧ w' = w) ∨ (¬ r.s.fuel ≤ 0 ∧ e = .returned (.tuple #[]) ∧ Sm X.w0 X.P X.fv w' r.fuel1 d ∧ Fz X.P NoE w r w' r.fuel1)
theorem pay_any (X : Cx) (w : World) (r : Rs) (d : Nat) (h : Sm X.w0 X.P X.fv w r d) : Calls Tryz.prog 79 #[ptr X.P] w (PayP X w r d) := by
  have c3 : w.cell? ⟨X.P, 3, none⟩ = some (.int .i64 r.s.fuel) := z_ (i := 3) h.pb rfl
  have f3 := zb h.pb 3
  have HH : Hid (Sm X.w0 X.P X.fv w r d) := h
  have hf := h.few
  obtain ⟨fu, hfu⟩ : ∃ fu, r.s.fuel = fu := ⟨_, rfl⟩
  have HF : Hid (r.s.fuel = fu) := hfu
  rw [hfu] at c3 hf
  clear h hfu
  by_cases h0 : fu ≤ 0
  · go_enter Tryz.func79, Tryz.ntmps79
    go_wp2_with (go_at_call 78; refine (zU _ _).mono ?_; rintro e w' ⟨rfl, rfl⟩)
    exact ⟨rfl, .inl ⟨by rw [HF.out]; exact h0, rfl, rfl⟩⟩
  · go_enter Tryz.func79, Tryz.ntmps79
    go_wp2_with (go_at_call 78; fail)
    go_end0
    have e1 : r.fuel1.s.fuel = fu - 1 := by show r.s.fuel - 1 = fu - 1; rw [HF.out]
    obtain ⟨a1, a2⟩ := HH.out.setP (i := 3) (v := .int .i64 (fu - 1)) r.fuel1 d (by rw [e1]; rfl) rfl rfl rfl rfl HH.out.inp (by rw [e1]; omega) HH.out.deep
    exact .inr ⟨by rw [HF.out]; omega, rfl, a1, a2⟩
def ItP (b l : Nat) (i : Int) (w : World) (e : Ending) (w' : World) : Prop := (((i < 0 ∨ (l : Int) ≤ i) ∧ e = endE 3) ∨ (0 ≤ i ∧ i < l ∧ e = .returned (.pointer (some ⟨b, i.toNat, none⟩)))) ∧ w' = w
theorem item_any (b l c : Nat) (i : Int) (w : World) (hl : l ≤ 40) : Calls Tryz.prog 81 #[.slice (some ⟨b, 0, none⟩) l c, .int .i64 i] w (ItP b l i w) := by
  by_cases h0 : i < 0
  · go_enter Tryz.func81, Tryz.ntmps81
    go_wp2_with (go_at_call 78; refine (zU _ _).mono ?_; rintro e w' ⟨rfl, rfl⟩)
    exact ⟨rfl, .inl ⟨.inl h0, rfl⟩, rfl⟩
  · by_cases h1 : i < l
    · go_enter Tryz.func81, Tryz.ntmps81
      go_wp2_with (go_at_call 78; refine (zU _ _).mono ?_; rintro e w' ⟨rfl, rfl⟩)
      go_ret
      exact ⟨.inr ⟨by omega, h1, rfl⟩, rfl⟩
    · go_enter Tryz.func81, Tryz.ntmps81
      go_wp2_with (go_at_call 78; refine (zU _ _).mono ?_; rintro e w' ⟨rfl, rfl⟩)
      exact ⟨rfl, .inl ⟨.inr (by omega), rfl⟩, rfl⟩
theorem item_nil (i : Int) (w : World) : Calls Tryz.prog 81 #[.slice none 0 0, .int .i64 i] w fun e w' => e = endE 3 ∧ w' = w := by
  by_cases h0 : i < 0
  · go_enter Tryz.func81, Tryz.ntmps81
    go_wp2_with (go_at_call 78; refine (zU _ _).mono ?_; rintro e w' ⟨rfl, rfl⟩)
    exact ⟨rfl, rfl, rfl⟩
  · have h1 : 0 ≤ i := by omega
    go_enter Tryz.func81, Tryz.ntmps81
    go_wp2_with (go_at_call 78; refine (zU _ _).mono ?_; rintro e w' ⟨rfl, rfl⟩)
    exact ⟨rfl, rfl, rfl⟩
theorem info2 : (Tryz.prog.info? 2).map (fun i => (i.zero, i.size, i.bytes)) = some (some (.int .i64 0), 1, 8) := by kernel_rfl
theorem made_int (n : Nat) : madeCells (Value.int .i64 0).cells (n * 1) = (q_ (List.replicate n 0)).toArray := by
  apply Array.ext'
  rw [Nat.mul_one]
  show (madeCells #[Value.int .i64 0] n).toList = _
  rw [toList_madeCells_one]
  simp [q_]
theorem mk_ints (n : Nat) (hn : n ≤ 40) (w : World) : (Instr.makeSlice 22 (.int .i64 (n : Int)) (.int .i64 (n : Int))).run Tryz.prog w = .ok (.slice (some ⟨w.heap.size, 0, none⟩) n n) (w.alloc (.cells (q_ (List.replicate n 0)).toArray 2)) := by
  obtain ⟨i, hi, hz0, hz1, hz2⟩ := info_parts info2
  have := run_makeSlice w 22 2 i _ Tryz.underlying22 hi hz0 .i64 .i64 (n : Int) (n : Int) (by omega) (by omega) (by rw [hz1]; simp; omega) (by rw [hz2]; omega) (by omega)
  rw [hz1] at this
  simp only [Int.toNat_natCast, made_int] at this
  exact this
def ArP (n : Int) (w : World) (e : Ending) (w' : World) : Prop := ((n < 0 ∨ 40 < n) ∧ e = endE 4 ∧ w' = w) ∨ (0 ≤ n ∧ n ≤ 40 ∧ e = .returned (.slice (some ⟨w.heap.size, 0, none⟩) n.toNat n.toNat) ∧ w' = w.alloc (.cells (q_ (List.replicate n.toNat 0)).toArray 2))
theorem array_any (n : Int) (w : World) : Calls Tryz.prog 117 #[.int .i64 n] w (ArP n w) := by
  by_cases h0 : n < 0
  · go_enter Tryz.func117, Tryz.ntmps117
    go_wp2_with (go_at_call 78; refine (zU _ _).mono ?_; rintro e w' ⟨rfl, rfl⟩)
    exact ⟨rfl, .inl ⟨.inl h0, rfl, rfl⟩⟩
  · by_cases h1 : 40 < n
    · go_enter Tryz.func117, Tryz.ntmps117
      go_wp2_with (go_at_call 78; refine (zU _ _).mono ?_; rintro e w' ⟨rfl, rfl⟩)
      exact ⟨rfl, .inl ⟨.inr h1, rfl, rfl⟩⟩
    · obtain ⟨m, rfl⟩ : ∃ m : Nat, n = m := ⟨n.toNat, by omega⟩
      have h2 : m ≤ 40 := by omega
      have hm := mk_ints m h2
      clear h0
      go_enter Tryz.func117, Tryz.ntmps117
      go_wp2_with (go_at_call 78; fail)
      go_ret
      exact .inr ⟨by omega, by omega, by simp, by simp⟩
def Rs.take1 (r : Rs) (iv : Value) : Rs := { r with iv := iv, s := { r.s with inp := r.s.inp.tail } }
def TkP (X : Cx) (w : World) (r : Rs) (d : Nat) (e : Ending) (w' : World) : Prop :=
  ∃ iv, e = .returned (.int .i64 (r.s.inp.headD 0)) ∧ Sm X.w0 X.P X.fv w' (r.take1 iv) d ∧ Fz X.P NoE w r w' (r.take1 iv)
theorem tk_fin {X : Cx} {w : World} {r : Rs} {d : Nat} {x : Int} {xs : List Int} {iv : Value} (h : Sm X.w0 X.P X.fv w r d) (hn : r.s.inp = x :: xs) (hi : InS X.w0 X.P iv xs) : TkP X w r d (.returned (.int .i64 x)) (w.setCell ⟨X.P, 1, none⟩ iv) := by
  obtain ⟨a1, a2⟩ := h.setP (i := 1) (v := iv) (r.take1 iv) d rfl rfl rfl rfl rfl (by show InS _ _ _ r.s.inp.tail; rw [hn]; exact hi) h.few h.deep
  exact ⟨iv, by rw [hn]; rfl, a1, a2⟩
theorem take_any (X : Cx) (w : World) (r : Rs) (d : Nat) (h : Sm X.w0 X.P X.fv w r d) : Calls Tryz.prog 118 #[ptr X.P] w (TkP X w r d) := by
  obtain ⟨q, c, hiv, hq⟩ := h.inp
  have c1 := z_ (i := 1) h.pb rfl
  have f1 := zb h.pb 1
  have HH : Hid (Sm X.w0 X.P X.fv w r d) := h
  have HI : Hid (r.iv = .slice q r.s.inp.length c) := hiv
  cases hi : r.s.inp with
  | nil =>
    have HN : Hid (r.s.inp = []) := hi
    have c1' : w.cell? ⟨X.P, 1, none⟩ = some (.slice q 0 c) := by rw [c1]; show some r.iv = _; rw [hiv, hi]; rfl
    clear h c1 hq hiv hi
    go_enter Tryz.func118, Tryz.ntmps118
    go_wp2
    go_ret
    have e : r.take1 r.iv = r := by
      have hn := HN.out
      unfold Rs.take1
      rw [hn]
      cases r with
      | mk ab iv ov s =>
        cases s with
        | mk fu inp out hp =>
          have hn' : inp = [] := hn
          subst hn'
          rfl
    refine ⟨r.iv, by rw [HN.out]; rfl, ?_, ?_⟩
    · rw [e]; exact HH.out
    · rw [e]; exact Fz.refl _ _ _ _
  | cons x xs =>
    rw [hi] at hq hiv
    rcases hq with hq | ⟨g, o, rfl, hg, hgP, hc, hcell⟩
    · cases hq
    have hx0 : w.cell? ⟨g, o, none⟩ = some (.int .i64 x) := by
      have := hcell 0 x rfl
      rw [Nat.add_zero] at this
      rw [← this]
      exact World.cell?_of_block (a := ⟨g, o, none⟩) (h.kp g hg hgP)
    obtain ⟨cc, rfl⟩ : ∃ cc, c = cc + 1 := ⟨c - 1, by simp at hc; omega⟩
    have c1' : w.cell? ⟨X.P, 1, none⟩ = some (.slice (some ⟨g, o, none⟩) (xs.length + 1) (cc + 1)) := by rw [c1]; show some r.iv = _; rw [hiv]; rfl
    have HN : Hid (r.s.inp = x :: xs) := hi
    have HC : Hid (∀ j y, (x :: xs)[j]? = some y → X.w0.cell? ⟨g, o + j, none⟩ = some (.int .i64 y)) := hcell
    have HG : Hid (g < X.w0.heap.size ∧ g ≠ X.P ∧ xs.length ≤ cc) := ⟨hg, hgP, by simp at hc; omega⟩
    obtain ⟨m, hm⟩ : ∃ m, m = xs.length := ⟨_, rfl⟩
    rw [← hm] at c1'
    have HM : Hid (m = xs.length) := hm
    have hmc : m ≤ cc := by rw [hm]; exact HG.out.2.2
    clear h c1 hiv hi hcell hc hg hgP hm
    go_enter Tryz.func118, Tryz.ntmps118
    go_wp2
    · go_ret
      have hm := HM.out
      refine tk_fin HH.out HN.out ⟨_, _, by rw [hm], .inl ?_⟩
      have : xs.length = 0 := by omega
      exact List.length_eq_zero_iff.1 this
    · go_ret
      have hm := HM.out
      refine tk_fin HH.out HN.out ⟨_, _, by rw [hm], .inr ⟨g, o + 1, rfl, HG.out.1, HG.out.2.1, HG.out.2.2, fun j y hy => ?_⟩⟩
      have := HC.out (j + 1) y hy
      rw [show o + 1 + j = o + (j + 1) by omega]
      exact this
def Rs.tell1 (r : Rs) (ov : Value) (n : Int) : Rs := { r with ov := ov, s := { r.s with out := r.s.out ++ [n] } }
def TlP (X : Cx) (w : World) (r : Rs) (d : Nat) (n : Int) (e : Ending) (w' : World) : Prop :=
  (200 ≤ r.s.out.length ∧ e = endE 7 ∧ w' = w) ∨ (r.s.out.length < 200 ∧ e = .returned (.tuple #[]) ∧ ∃ ov, Sm X.w0 X.P X.fv w' (r.tell1 ov n) d ∧ Fz X.P NoE w r w' (r.tell1 ov n))
theorem tl_fin {X : Cx} {w w1 : World} {r : Rs} {d : Nat} {n : Int} {g cap m : Nat} (h : Sm X.w0 X.P X.fv w r d) (hm : m = r.s.out.length) (h2 : m < 200) (A : Obj) (hown : w1.ownsRow X.w0.heap.size 2 1 (.slice (some ⟨g, 0, none⟩) (m + 1) cap) (m + 1) (q_ r.s.out ++ [.int .i64 n])) (hgr : (w.alloc A).grownBy w1 r.ov.ownBlock) (hg : r.ov.ownBlock = some g ∨ g = w.heap.size + 1) :
    TlP X w r d n (.returned (.tuple #[])) (w1.setCell ⟨X.P, 2, none⟩ (.slice (some ⟨g, 0, none⟩) (m + 1) cap)) := by
  have hsz1 : w.heap.size + 1 ≤ w1.heap.size := by have := hgr.size; simpa using this
  have hov : ∀ i, r.ov.ownBlock = some i → X.w0.heap.size ≤ i ∧ i < w.heap.size := fun i hi => h.out.lt i hi
  have hk : ∀ b, b < w.heap.size → r.ov.ownBlock ≠ some b → w1.heap[b]? = w.heap[b]? := fun b hb hne => by
    rw [hgr.block b (by simp; omega) (fun e => hne e.symm), zc hb]
  have hPg : X.P ≠ g := by
    have := h.lt
    have := h.ltP
    rcases hg with hg | rfl
    · have := (hov g hg).1; omega
    · omega
  have hP1 : w1.heap[X.P]? = some (.cells #[X.fv, r.iv, r.ov, .int .i64 r.s.fuel, .int .i64 (d : Int)] 115) := by
    rw [hk X.P h.ltP (fun e => by have := (hov _ e).1; have := h.lt; omega)]
    exact h.pb
  have hoth : ∀ b, b ≠ X.P → (w1.setCell ⟨X.P, 2, none⟩ (.slice (some ⟨g, 0, none⟩) (m + 1) cap)).heap[b]? = w1.heap[b]? := fun b hb => heap_setCell_other _ _ _ _ hb
  have hsz : (w1.setCell ⟨X.P, 2, none⟩ (.slice (some ⟨g, 0, none⟩) (m + 1) cap)).heap.size = w1.heap.size := by simp
  refine .inr ⟨by omega, rfl, .slice (some ⟨g, 0, none⟩) (m + 1) cap, ?_, ?_⟩
  · refine ⟨h.lt, by rw [hsz]; have := h.le; omega, fun b h1 h2 => ?_, ?_, h.inp, ?_, ?_, h.alen, ?_, h.lo, h.nd, h.few, ?_, h.deep⟩
    · rw [hoth b h2, hk b (Nat.lt_of_lt_of_le h1 h.le) (fun e => by have := (hov _ e).1; omega)]
      exact h.kp b h1 h2
    · exact heap_setCell_same _ _ _ _ _ _ hP1
    · have e1 : (r.tell1 (.slice (some ⟨g, 0, none⟩) (m + 1) cap) n).s.out = r.s.out ++ [n] := rfl
      have e2 : (r.s.out ++ [n]).length = m + 1 := by rw [hm]; simp
      rw [e1, e2, show q_ (r.s.out ++ [n]) = q_ r.s.out ++ [.int .i64 n] by simp [q_]]
      exact qr hown (fun i hi => hoth i (fun e => hPg (by rw [← e]; injection hi with hi; exact hi.symm)))
    · intro i hi
      have e : i = g := by injection hi with hi; exact hi.symm
      subst e
      rcases hg with hg | rfl
      · exact h.apart i hg
      · intro hmem
        obtain ⟨p, hp, e⟩ := List.mem_map.1 hmem
        obtain ⟨j, hj⟩ := List.getElem?_of_mem hp
        obtain ⟨l, _, _, _, a4⟩ := h.arr j p.1 p.2 hj
        have := (Array.getElem?_eq_some_iff.1 a4).1
        omega
    · intro i b k hi
      obtain ⟨l, a1, a2, a3, a4⟩ := h.arr i b k hi
      refine ⟨l, a1, a2, a3, ?_⟩
      have hmem : b ∈ r.ab.map (·.1) := List.mem_map.2 ⟨(b, k), List.mem_of_getElem? hi, rfl⟩
      rw [hoth b (h.ne hmem), hk b (Array.getElem?_eq_some_iff.1 a4).1 (fun e => h.apart b e hmem)]
      exact a4
    · show (r.s.out ++ [n]).length ≤ 200
      simp
      omega
  · refine ⟨hgr.os, hgr.tape, hgr.output, by rw [hsz]; omega, fun b hb hx _ => ?_, List.prefix_rfl, fun b hx hnx => ?_⟩
    · rw [hoth b (fun e => hx (.inl e)), hk b hb (fun e => hx (.inr (.inr e)))]
    · rcases hx with hx | hx | hx
      · exact absurd (.inl hx) hnx
      · exact absurd (.inr (.inl hx)) hnx
      · have e : b = g := by injection hx with hx; exact hx.symm
        subst e
        rcases hg with hg | rfl
        · exact absurd (.inr (.inr hg)) hnx
        · omega
theorem tell_any (X : Cx) (w : World) (r : Rs) (d : Nat) (n : Int) (h : Sm X.w0 X.P X.fv w r d) : Calls Tryz.prog 80 #[ptr X.P, .int .i64 n] w (TlP X w r d n) := by
  obtain ⟨q, c, hov⟩ := zd h.out
  have c2 : w.cell? ⟨X.P, 2, none⟩ = some r.ov := z_ (i := 2) h.pb rfl
  have f2 := zb h.pb 2
  rw [hov] at c2
  have HH : Hid (Sm X.w0 X.P X.fv w r d) := h
  have hP := h.ltP
  have ht := h.told
  obtain ⟨m, hm⟩ : ∃ m, m = r.s.out.length := ⟨_, rfl⟩
  have HM : Hid (m = r.s.out.length) := hm
  have HV : Hid (r.ov = .slice q m c) := by rw [hm]; exact hov
  rw [← hm] at c2 ht
  have HO : Hid (w.ownsRow X.w0.heap.size 2 1 (.slice q m c) m (q_ r.s.out)) := by have := h.out; rw [hov, ← hm] at this; exact this
  clear h hov hm
  by_cases h2 : 200 ≤ m
  · go_enter Tryz.func80, Tryz.ntmps80
    go_wp2_with (go_at_call 78; refine (zU _ _).mono ?_; rintro e w' ⟨rfl, rfl⟩)
    exact ⟨rfl, .inl ⟨by have := HM.out; omega, rfl, rfl⟩⟩
  · obtain ⟨i0, hi0, hz0, hs0, hb0⟩ := info_parts info2
    have HO3 : Hid ((w.alloc (.cells #[.int .i64 n] 2)).ownsRow X.w0.heap.size 2 1 (.slice q m c) m (q_ r.s.out)) := HO.out.alloc _
    have HN3 : Hid (∀ (i : Nat) (x : Value), ([.int .i64 n] : List Value)[i]? = some x → (w.alloc (.cells #[.int .i64 n] 2)).cell? ((⟨w.heap.size, 0, none⟩ : Addr).add i) = some x) := World.news_of_block (cs := #[.int .i64 n]) (t := 2) (fr := (0, 0)) (heap_alloc_last w _)
    have H13 : Hid (∀ u ∈ ([.int .i64 n] : List Value), u.oneCell' = true) := fun u hu => by simp at hu; subst hu; rfl
    have HZ3 : Hid (X.w0.heap.size ≤ (w.alloc (.cells #[.int .i64 n] 2)).heap.size) := by have := HH.out.le; show _ ≤ _; simp; omega
    go_enter Tryz.func80, Tryz.ntmps80
    go_wp2_with (at_builtin; refine wpList_append_lies _ rfl _ _ 22 rfl X.w0.heap.size 2 i0 _ 1 8 Tryz.underlying22 hi0 hz0 hs0 hb0 rfl (by decide) _ m _ rfl HO3.out ⟨w.heap.size, 0, none⟩ 1 1 [.int .i64 n] rfl rfl HN3.out H13.out (by decide) (by unfold maxLen; omega) (by omega) HZ3.out (w.heap.size + 1) (by simp) ?_)
    intro g5 cap5 w5 hown5 hgrow5 hg5 hlt5
    have hP5 : w5.heap[X.P]? = some (.cells #[X.fv, r.iv, r.ov, .int .i64 r.s.fuel, .int .i64 (d : Int)] 115) := by
      rw [hgrow5.block X.P (by simp; omega) (fun e => ?_), zc hP]
      · exact HH.out.pb
      · have := (HO.out.lt X.P e.symm).1
        have := HH.out.lt
        omega
    have c5 := z_ (i := 2) hP5 rfl
    have f5 := zb hP5 2
    have HFin : Hid (TlP X w r d n (.returned (.tuple #[])) (w5.setCell ⟨X.P, 2, none⟩ (.slice (some ⟨g5, 0, none⟩) (m + 1) cap5))) := tl_fin HH.out HM.out (by omega) _ hown5 (by rw [HV.out]; exact hgrow5) (by rw [HV.out]; exact hg5)
    clear hown5 hgrow5 hg5 hlt5 hP5
    go_wp2
    go_end0
    exact HFin.out
structure Ms where
  code : Int
  dst : Int
  a : Int
  b : Int
  c : Int
  n : Int
  op : By
  label : Int
  name : By
  args : List Int
structure Mf where
  name : By
  params : Int
  types : List Int
  steps : List Ms
def holdB (op : By) (a b : Int) : Bool := if op = [61, 61] then decide (a = b) else if op = [33, 61] then decide (a ≠ b) else if op = [60] then decide (a < b) else if op = [60, 61] then decide (a ≤ b) else if op = [62] then decide (a > b) else if op = [62, 61] then decide (a ≥ b) else false
def bothV (op : By) (a b : Int) : Int × Int :=
  if op = [43] then (wrap64 (a + b), 0)
  else if op = [45] then (wrap64 (a - b), 0)
  else if op = [42] then (wrap64 (a * b), 0)
  else if op = [47] then (if b = 0 then (0, 2) else (wrap64 (a.tdiv b), 0))
  else if op = [37] then (if b = 0 then (0, 2) else (a.tmod b, 0))
  else (if holdB op a b then 1 else 0, 0)
def bothG (op : By) (a b : Int) : Go1 Int := if (bothV op a b).2 ≠ 0 then gt (bothV op a b).2 else gp (bothV op a b).1
theorem tl_eq (y : ByteArray) : y.data.toList = y.toList := (ByteArray.toList_eq y).symm
theorem ret_bool {a b : Bool} (h : a = b) : Ending.returned (.bool a) = .returned (.bool b) := by rw [h]
theorem ret_two {a b c d : Int} (h : a = b) (g : c = d) : Ending.returned (.tuple #[.int .i64 a, .int .i64 c]) = .returned (.tuple #[.int .i64 b, .int .i64 d]) := by rw [h, g]
theorem holds_any (y : ByteArray) (a b : Int) (w : World) : Calls Tryz.prog 167 #[.string y, .int .i64 a, .int .i64 b] w fun e w' => e = .returned (.bool (holdB y.data.toList a b)) ∧ w' = w := by
  rw [tl_eq]
  go_enter Tryz.func167, Tryz.ntmps167
  go_wp2
  all_goals (go_ret; refine ⟨ret_bool ?_, rfl⟩; unfold holdB; simp_all [Bool.beq_eq_decide_eq, bne])
theorem divided_any (y : ByteArray) (a b : Int) (w : World) : Calls Tryz.prog 166 #[.string y, .int .i64 a, .int .i64 b] w fun e w' => e = .returned (if b = 0 then .tuple #[.int .i64 0, .int .i64 2] else if y.data.toList = [47] then .tuple #[.int .i64 (wrap64 (a.tdiv b)), .int .i64 0] else .tuple #[.int .i64 (a.tmod b), .int .i64 0]) ∧ w' = w := by
  rw [tl_eq]
  go_enter Tryz.func166, Tryz.ntmps166
  go_wp2
  all_goals ((try go_ret2); simp_all)
def BoP (op : By) (a b : Int) (w : World) (e : Ending) (w' : World) : Prop := e = .returned (.tuple #[.int .i64 (bothV op a b).1, .int .i64 (bothV op a b).2]) ∧ w' = w
theorem both_any (y : ByteArray) (a b : Int) (w : World) : Calls Tryz.prog 116 #[.string y, .int .i64 a, .int .i64 b] w (BoP y.data.toList a b w) := by
  rw [tl_eq]
  obtain ⟨G, hG⟩ : ∃ G, G = BoP y.toList a b w := ⟨_, rfl⟩
  have HG : Hid (G = BoP y.toList a b w) := hG
  have HH : Hid (∀ w, Calls Tryz.prog 167 #[.string y, .int .i64 a, .int .i64 b] w fun e w' => e = .returned (.bool (holdB y.toList a b)) ∧ w' = w) := fun w => by have := holds_any y a b w; rw [tl_eq] at this; exact this
  obtain ⟨dv, hdv⟩ : ∃ dv : Int × Int, dv = (if b = 0 then (0, 2) else if y.toList = [47] then (wrap64 (a.tdiv b), 0) else (a.tmod b, 0)) := ⟨_, rfl⟩
  have HD : Hid (∀ w, Calls Tryz.prog 166 #[.string y, .int .i64 a, .int .i64 b] w fun e w' => e = .returned (.tuple #[.int .i64 dv.1, .int .i64 dv.2]) ∧ w' = w) := fun w => by
    have := divided_any y a b w
    rw [tl_eq] at this
    refine this.mono ?_
    rintro e w' ⟨rfl, rfl⟩
    refine ⟨?_, rfl⟩
    rw [hdv]
    split
    · rfl
    · split <;> rfl
  have HV : Hid (dv = (if b = 0 then (0, 2) else if y.toList = [47] then (wrap64 (a.tdiv b), 0) else (a.tmod b, 0))) := hdv
  rw [← hG]
  clear hG hdv
  obtain ⟨d1, d2⟩ := dv
  go_enter Tryz.func116, Tryz.ntmps116
  go_wp2_with (first
    | (go_at_call 166; refine (HD.out _).mono ?_; rintro e w' ⟨rfl, rfl⟩)
    | (go_at_call 167; refine (HH.out _).mono ?_; rintro e w' ⟨rfl, rfl⟩))
  all_goals
    ((try go_ret2); have hv := HV.out; rw [HG.out]; refine ⟨ret_two ?_ ?_, rfl⟩ <;> unfold bothV <;> simp_all <;> (try split) <;> simp_all)
end Go.Proofs.YtnfhpdbbfejioaaGreatDoor.Mid
