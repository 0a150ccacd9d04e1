/- UE UW UX UG UH US XD -/
import Derived.Test.YtjmbjpimabnohaaDoorK12
import Derived.Laws.CopyOwn
import Derived.Test.YtjmbjpimabnohaaDoorRows
import Derived.SevenTiedAt
import Derived.Lib.SmallJoins
import Derived.LaidSub
import Derived.Lay
namespace Go.Proofs.YtjmbjpimabnohaaDoor.Mid
set_option linter.unusedVariables false
set_option linter.unusedSimpArgs false
open Go Go.RowKit
def rpV (t : Int) (x : Vl) : Int := if t = 1 then x.1 else arrN x.2
structure OwR (P : Nat) (w : World) (r : Rr) (ob : Nat) (F : Mf) (o : List Vl) : Prop where
  row : ∃ cs : List Value, w.heap[ob]? = some (.cells cs.toArray 2) ∧ cs.length = o.length ∧ ∀ (i : Nat) (x : Vl) (t : Int), o[i]? = some x → F.types[i]? = some t → cs[i]? = some (.int .i64 (rpV t x)) ∧ (t = 2 → QvR r x.2)
  len : o.length = F.types.length
  nx : ¬ Xw P r ob
theorem OwR.lt {P : Nat} {w : World} {r : Rr} {ob : Nat} {F : Mf} {o : List Vl} (h : OwR P w r ob F o) : ob < w.heap.size := by
  obtain ⟨cs, hc, _⟩ := h.row
  exact (Array.getElem?_eq_some_iff.1 hc).1
theorem QvR.mono {r r' : Rr} (h : r.ab <+: r'.ab) {q : Option Nat} (hq : QvR r q) : QvR r' q := by
  cases q with
  | none => trivial
  | some i => exact Nat.lt_of_lt_of_le hq h.length_le
theorem OwR.on {P : Nat} {E : Nat → Prop} {w w' : World} {r r' : Rr} {ob : Nat} {F : Mf} {o : List Vl} (h : OwR P w r ob F o) (hz : Wz P E w r w' r') (hE : ¬ E ob) : OwR P w' r' ob F o := by
  obtain ⟨cs, h1, h2, h3⟩ := h.row
  have hlt := h.lt
  refine ⟨⟨cs, by rw [hz.blk ob hlt h.nx hE]; exact h1, h2, fun i x t hx ht => ?_⟩, h.len, fun hx => ?_⟩
  · obtain ⟨a1, a2⟩ := h3 i x t hx ht
    exact ⟨a1, fun e => (a2 e).mono hz.pre⟩
  · have := hz.new ob hx h.nx
    omega
theorem is_get {F : Mf} {p k : Int} (h : isB F p k = true) : ∃ i : Nat, p = i ∧ i < F.types.length ∧ F.types[i]? = some k := by
  have h1 := is_in h
  unfold isB at h
  simp only [Bool.and_eq_true, decide_eq_true_eq] at h
  obtain ⟨i, rfl⟩ : ∃ i : Nat, p = i := ⟨p.toNat, by omega⟩
  refine ⟨i, rfl, by omega, ?_⟩
  have h2 := h.2
  rw [Int.toNat_natCast, List.getD_eq_getElem?_getD] at h2
  have hlt : i < F.types.length := by omega
  rw [List.getElem?_eq_getElem hlt] at h2 ⊢
  have h3 : F.types[i] = k := by simpa using h2
  rw [h3]
theorem OwR.get {P : Nat} {w : World} {r : Rr} {ob : Nat} {F : Mf} {o : List Vl} (h : OwR P w r ob F o) {p k : Int} (hp : isB F p k = true) : ∃ i : Nat, p = i ∧ i < o.length ∧ w.cell? ⟨ob, i, none⟩ = some (.int .i64 (rpV k (pl o p))) ∧ w.frozen? ⟨ob, i, none⟩ = false ∧ (k = 2 → QvR r (pl o p).2) := by
  obtain ⟨i, rfl, h1, h2⟩ := is_get hp
  obtain ⟨cs, c1, c2, c3⟩ := h.row
  have hlt : i < o.length := by rw [h.len]; exact h1
  have hx : o[i]? = some (pl o (i : Int)) := by
    unfold pl
    rw [Int.toNat_natCast, List.getElem?_eq_getElem hlt, List.getD_eq_getElem?_getD, List.getElem?_eq_getElem hlt]
    rfl
  obtain ⟨a1, a2⟩ := c3 i _ k hx h2
  exact ⟨i, rfl, hlt, cell_at c1 (by simpa using a1), row_free c1 i, a2⟩
theorem OwR.put {P : Nat} {w : World} {r : Rr} {ob : Nat} {F : Mf} {o : List Vl} (h : OwR P w r ob F o) {i : Nat} {t : Int} (ht : F.types[i]? = some t) {x : Vl} (hx : t = 2 → QvR r x.2) : OwR P (w.setCell ⟨ob, i, none⟩ (.int .i64 (rpV t x))) r ob F (o.set i x) := by
  obtain ⟨cs, c1, c2, c3⟩ := h.row
  refine ⟨⟨cs.set i (.int .i64 (rpV t x)), ?_, by simp [c2], fun j y u hy hu => ?_⟩, by simp [h.len], h.nx⟩
  · rw [heap_setCell_same _ _ _ _ _ _ c1]
    simp
  · rw [List.getElem?_set] at hy
    by_cases e : i = j
    · subst e
      rw [ht] at hu
      injection hu with hu
      subst hu
      have hi : i < o.length := by rw [h.len]; exact (List.getElem?_eq_some_iff.1 ht).1
      rw [if_pos rfl, if_pos hi] at hy
      injection hy with hy
      subst hy
      refine ⟨?_, hx⟩
      rw [List.getElem?_set, if_pos rfl, if_pos (by omega)]
    · rw [if_neg e] at hy
      obtain ⟨a1, a2⟩ := c3 j y u hy hu
      refine ⟨?_, a2⟩
      rw [List.getElem?_set, if_neg e]
      exact a1
theorem Wm.setL {w0 : World} {P : Nat} {w : World} {r : Rr} {d : Nat} {way : Int} (h : Wm w0 P w r d way) {B i : Nat} {v : Value} (hB : ¬ Xw P r B) (hB0 : w0.heap.size ≤ B) : Wm w0 P (w.setCell ⟨B, i, none⟩ v) r d way := by
  have ho : ∀ b, b ≠ B → (w.setCell ⟨B, i, none⟩ v).heap[b]? = w.heap[b]? := fun b hb => heap_setCell_other _ _ _ _ hb
  have hsz : (w.setCell ⟨B, i, none⟩ v).heap.size = w.heap.size := by simp
  refine ⟨h.lo0, by rw [hsz]; exact h.le, fun b h1 => ?_, ?_, h.inp, own_at h.out (fun k hk => ho k (fun e => hB (.inr (.inr (.inl (e ▸ hk)))))), own_at h.arrs (fun k hk => ho k (fun e => hB (.inr (.inr (.inr (e ▸ hk)))))), h.apart, h.alen, fun k b n hk => ?_, h.lo, h.nd, h.few, h.told, h.deep⟩
  · rw [ho b (by omega)]; exact h.kp b h1
  · rw [ho P (fun e => hB (.inl e.symm))]; exact h.pb
  · obtain ⟨l, a1, a2, a3, a4⟩ := h.arr k b n hk
    refine ⟨l, a1, a2, a3, ?_⟩
    rw [ho b (fun e => hB (.inr (.inl (e ▸ List.mem_map.2 ⟨(b, n), List.mem_of_getElem? hk, rfl⟩))))]
    exact a4
theorem Wz.setE {P ob : Nat} {w w1 : World} {r r1 : Rr} (h : Wz P (fun b => b = ob) w r w1 r1) {i : Nat} {v : Value} : Wz P (fun b => b = ob) w r (w1.setCell ⟨ob, i, none⟩ v) r1 :=
  ⟨h.os, h.tape, h.output, by simp; exact h.size, fun b hb hx he => by rw [heap_setCell_other _ _ _ _ he]; exact h.blk b hb hx he, h.pre, h.new⟩
section
variable {X : Qx} {F : Mf} {fs : By → Option Mf} {w : World} {r : Rr} {g d ob : Nat} {o : List Vl} {s : Ms} {ql : Option Addr} {nl cl : Nat} {y6 y8 : ByteArray} {qa : Option Addr} {na ca : Nat}
end
def hfS (s : Sg) : Int := (s.hp.length : Int) + s.fuel
end Go.Proofs.YtjmbjpimabnohaaDoor.Mid
namespace Go.Proofs.YtjmbjpimabnohaaDoor.Mid
set_option linter.unusedVariables false
set_option linter.unusedSimpArgs false
open Go Go.RowKit
structure Gi (s : Sg) : Prop where
  hp : ∀ l ∈ s.hp, l.length ≤ 40 ∧ ∀ x ∈ l, I64 x
  inp : ∀ x ∈ s.inp, I64 x
def OI (o : List Vl) : Prop := ∀ v ∈ o, I64 v.1
theorem i64_wrap (x : Int) : I64 (wrap64 x) := by unfold wrap64 I64; omega
theorem i64_tmod {a b : Int} (ha : I64 a) : I64 (a.tmod b) := by
  have h1 : (a.tmod b).natAbs ≤ a.natAbs := by
    rw [Int.natAbs_tmod]
    exact Nat.mod_le _ _
  unfold I64 at ha ⊢
  by_cases h0 : 0 ≤ a
  · have h2 : 0 ≤ a.tmod b := Int.tmod_nonneg b h0
    omega
  · have h2 : a.tmod b ≤ 0 := by
      obtain ⟨x, rfl⟩ : ∃ x, a = -x := ⟨-a, by omega⟩
      rw [Int.neg_tmod]
      have := Int.tmod_nonneg b (a := x) (by omega)
      omega
    omega
theorem i64_both {op : By} {a b : Int} (ha : I64 a) : I64 (bothV op a b).1 := by
  unfold bothV
  repeat' split
  all_goals first | exact i64_wrap _ | exact i64_tmod ha | exact ⟨by decide, by decide⟩
end Go.Proofs.YtjmbjpimabnohaaDoor.Mid
namespace Go.Proofs.YtjmbjpimabnohaaDoor.Mid
set_option linter.unusedVariables false
set_option linter.unusedSimpArgs false
open Go Go.RowKit
structure CdE (X : Qx) (L : List Mf) (ql : Option Addr) (cl : Nat) : Prop where
  row : RowAt X.w0 ql cl L
  rv : RvE L
end Go.Proofs.YtjmbjpimabnohaaDoor.Mid
namespace Go.Proofs.YtjmbjpimabnohaaDoor.Mid
set_option linter.unusedVariables false
set_option linter.unusedSimpArgs false
open Go Go.RowKit
section
variable {X : Qx} {F : Mf} {fs : By → Option Mf} {w : World} {r : Rr} {g d ob : Nat} {o : List Vl} {s : Ms} {ql : Option Addr} {nl cl : Nat} {y6 y8 : ByteArray} {qa : Option Addr} {na ca : Nat}
theorem Wz.undrew {P : Nat} {E : Nat → Prop} {w w' : World} {r r' : Rr} (h : Wz P E w.drew r w' r') : Wz P E w r w' r' := ⟨h.os, h.tape, h.output, h.size, h.blk, h.pre, h.new⟩
end
def Rr.put1 (r : Rr) (i j : Nat) (n : Int) : Rr := { r with s := { r.s with hp := r.s.hp.modify i (fun l => l.set j n) } }
theorem Wm.putA {w0 : World} {P : Nat} {w : World} {r : Rr} {d : Nat} {way : Int} (h : Wm w0 P w r d way) {i b k j : Nat} {n : Int} (hi : r.ab[i]? = some (b, k)) : Wm w0 P (w.setCell ⟨b, j, none⟩ (.int .i64 n)) (r.put1 i j n) d way ∧ Wz P NoE w r (w.setCell ⟨b, j, none⟩ (.int .i64 n)) (r.put1 i j n) := by
  have hmem : b ∈ r.ab.map (·.1) := List.mem_map.2 ⟨(b, k), List.mem_of_getElem? hi, rfl⟩
  have ho : ∀ x, x ≠ b → (w.setCell ⟨b, j, none⟩ (.int .i64 n)).heap[x]? = w.heap[x]? := fun x hx => heap_setCell_other _ _ _ _ hx
  have hsz : (w.setCell ⟨b, j, none⟩ (.int .i64 n)).heap.size = w.heap.size := by simp
  have hlo := h.lo b hmem
  obtain ⟨_, _, _, _, hb4⟩ := h.arr i b k hi
  have hPb : P ≠ b := (h.neP hb4 (by decide)).symm
  have hav : r.av.ownBlock ≠ some b := fun e => by
    obtain ⟨cs, hc⟩ := own_ty h.arrs e
    exact absurd (ty_ne hb4 hc) (by decide)
  refine ⟨⟨h.lo0, by rw [hsz]; exact h.le, fun x h1 => ?_, ?_, h.inp, own_at h.out (fun x hx => ho x (fun e => h.apart x hx (e ▸ hmem))), own_at h.arrs (fun x hx => ho x (fun e => hav (e ▸ hx))), h.apart, ?_, fun x y m hx => ?_, h.lo, h.nd, h.few, h.told, h.deep⟩, ⟨rfl, rfl, rfl, by rw [hsz]; exact Nat.le_refl _, fun x _ hx _ => ho x (fun e => hx (.inr (.inl (e ▸ hmem)))), List.prefix_rfl, fun x h1 h2 => absurd h1 h2⟩⟩
  · rw [ho x (by omega)]; exact h.kp x h1
  · rw [ho P hPb]; exact h.pb
  · show r.ab.length = (r.s.hp.modify i _).length
    rw [List.length_modify]
    exact h.alen
  · have hx' : r.ab[x]? = some (y, m) := hx
    obtain ⟨l, a1, a2, a3, a4⟩ := h.arr x y m hx'
    show ∃ l, (r.s.hp.modify i _)[x]? = some l ∧ _
    by_cases e : i = x
    · subst e
      rw [hi] at hx'
      injection hx' with hx'
      injection hx' with e1 e2
      subst e1
      subst e2
      refine ⟨l.set j n, by rw [List.getElem?_modify_eq, a1]; rfl, by rw [List.length_set]; exact a2, a3, ?_⟩
      rw [heap_setCell_same _ _ _ _ _ _ a4]
      congr 2
      apply Array.ext'
      simp [ints]
    · refine ⟨l, by rw [List.getElem?_modify_ne _ _ e]; exact a1, a2, a3, ?_⟩
      have hne : y ≠ b := fun e2 => by
        have q1 : (r.ab.map (·.1))[i]? = some b := by rw [List.getElem?_map, hi]; rfl
        have q2 : (r.ab.map (·.1))[x]? = some b := by rw [List.getElem?_map, hx', e2]; rfl
        have hlt := (List.getElem?_eq_some_iff.1 q1).1
        exact e ((List.getElem?_inj hlt h.nd).1 (q1.trans q2.symm))
      rw [ho y hne]
      exact a4
section
variable {X : Qx} {F : Mf} {fs : By → Option Mf} {w : World} {r : Rr} {g d ob : Nat} {o : List Vl} {s : Ms} {ql : Option Addr} {nl cl : Nat} {y6 y8 : ByteArray} {qa : Option Addr} {na ca : Nat}
end
theorem CdE.fn {X : Qx} {L : List Mf} {ql : Option Addr} {cl : Nat} (h : CdE X L ql cl) {j : Nat} {F : Mf} (hj : L[j]? = some F) : ∃ g p, ql = some ⟨g, p, none⟩ ∧ (∀ i G, L[i]? = some G → FnAt X.w0 g (p + i * 4) G) := by
  rcases h.row.fn with h1 | ⟨g, p, e, h1⟩
  · rw [h1] at hj; simp at hj
  · exact ⟨g, p, e, fun i G hi => (h1 i G hi).1⟩
section
variable {X : Qx} {F : Mf} {w : World} {r : Rr} {g d ob : Nat} {o : List Vl} {s : Ms} {ql : Option Addr} {cl : Nat} {y6 y8 : ByteArray} {qa : Option Addr} {na ca : Nat} {L : List Mf}
end
structure Lc where
  X : Qx
  L : List Mf
  G : Mf
  g : Nat
  d : Nat
  o : List Vl
  s : Sg
abbrev Lc.res (l : Lc) : Except (Int × List Int) (Int × Sg) := goN (fsL l.L) l.g (l.d + 1) l.G 0 l.o l.s
inductive LqI (l : Lc) (W : World) (r : Rr) (ob : Nat) (wr : World) (k : Nat) : Prop where
  | on (g' : Nat) (r' : Rr) (o' : List Vl) (wm : Wm l.X.w0 l.X.P wr r' (l.d + 1) 0) (wz : Wz l.X.P (fun b => b = ob) W r wr r') (ow : OwR l.X.P wr r' ob l.G o') (oi : OI o') (gi : Gi r'.s) (few : hfS r'.s ≤ 10000000) (hg : g' ≤ l.g) (hk : k < l.G.steps.length) (he : l.res = goN (fsL l.L) g' (l.d + 1) l.G k o' r'.s)
  | off (way : Int) (r' : Rr) (hw : way ≠ 0) (wm : Wm l.X.w0 l.X.P wr r' (l.d + 1) way) (wz : Wz l.X.P (fun b => b = ob) W r wr r') (he : l.res = .error (way, r'.s.out))
end Go.Proofs.YtjmbjpimabnohaaDoor.Mid
namespace Go.Proofs.YtjmbjpimabnohaaDoor.Mid
set_option linter.unusedVariables false
open Go Go.Deep Go.ChangeShapes Go.WideShapes Go.ChangeAt Go.WideMaps Go.WideElems Go.RowKit Go.ChangeMaps
theorem spot_noneX {w : World} {a : Addr} {v : Value} (h : w.cell? a = some v) : a.spot = none := by
  unfold World.cell? at h
  split at h
  · cases hs : a.spot with
    | none => rfl
    | some x => simp [hs] at h
  · cases h
theorem add_atX (g o j : Nat) : (⟨g, o, none⟩ : Addr).add j = ⟨g, o + j, none⟩ := by unfold Addr.add; split <;> simp_all
theorem sub_get {cs l : List Value} {a b : Nat} (h : (cs.drop a).take b = l) (j : Nat) (v : Value) (hv : l[j]? = some v) : cs[a + j]? = some v := by
  subst h
  rw [List.getElem?_take] at hv
  split at hv
  · rw [List.getElem?_drop] at hv; exact hv
  · cases hv
theorem i64_wf {n : Int} (h : (Lit.int .i64 n).wf = true) : I64 n := by
  simp only [Lit.wf, Bool.and_eq_true, decide_eq_true_eq] at h
  exact ⟨h.1, h.2⟩
theorem cells2 : Tryd.prog.cellsOf 2 = 1 := by kernel_rfl
theorem cells3 : Tryd.prog.cellsOf 3 = 1 := by kernel_rfl
theorem cells9 : Tryd.prog.cellsOf 9 = 1 := by kernel_rfl
section
variable {H : Type} {enc : TypeId × Value → H} {W : World} {sp : Nat → Bool} {held : Bool}
theorem open_ints32 {t e : TypeId} {fuel : Nat} {cs : List Value} {x : DataW H × List MemPlace} (ht : Tryd.prog.underlying t = some (.slice e)) (he : Tryd.prog.underlying e = some (.int .i64)) (hc : Tryd.prog.cellsOf e = 1) (h : DataW.trod enc Tryd.prog W 0 sp held fuel t cs = some x) : ∃ v l, cs = [v] ∧ IntsRw W v l := by
  rcases open_ints ht he hc h with ⟨hcs, _⟩ | ⟨a, len, cap, zs, hcs, _, hl, hm, hz, _, hcell, hwz⟩
  · exact ⟨_, [], hcs, none, 0, rfl, Nat.le_refl _, fun x hx => (by cases hx), .inl rfl⟩
  · have hzl : len ≤ zs.length := by rw [hz]; split <;> omega
    have htl : (zs.take len).length = len := by simp; omega
    refine ⟨_, zs.take len, hcs, some a, cap, by rw [htl], by rw [htl]; exact hl, fun x hx => i64_wf (hwz x (List.mem_of_mem_take hx)), ?_⟩
    by_cases hn : zs.take len = []
    · exact .inl hn
    have hlen : 0 < len := by
      rcases Nat.eq_zero_or_pos len with h0 | h0
      · subst h0; simp at hn
      · exact h0
    have h0 := hcell 0 (by omega)
    have ha0 : a.add 0 = a := by unfold Addr.add; rw [if_pos rfl]
    rw [ha0] at h0
    obtain ⟨g, o, sp'⟩ := a
    have hsp : sp' = none := spot_noneX h0
    subst hsp
    refine .inr ⟨g, o, rfl, fun j x hx => ?_⟩
    have hj : j < len := by have := (List.getElem?_eq_some_iff.1 hx).1; omega
    have := hcell j (by omega)
    rw [add_atX] at this
    have e : zs.getD j 0 = x := by
      rw [List.getElem?_take_of_lt hj] at hx
      rw [List.getD_eq_getElem?_getD, hx]
      rfl
    rw [e] at this
    exact this
set_option maxRecDepth 100000 in
theorem open_nums {v : Value} {d : DataW H} {p : List MemPlace} {r : Reach} {b0 : Nat} (hv : Value.okWide Tryd.prog W r b0 23 v) (h : DataW.Trod enc Tryd.prog W 0 sp held 23 v d p) : ∃ l, InW W v l ∧ ∀ x ∈ l, I64 x := by
  obtain ⟨q0, len0, c0, rfl⟩ := okWide_slice Tryd.underlying23 hv
  obtain ⟨fuel, hf⟩ := h
  obtain ⟨v', l, h1, q, c, h2, h3, h4, h5⟩ := open_ints32 Tryd.underlying23 Tryd.underlying2 cells2 hf
  simp [Value.cells] at h1
  subst h1
  refine ⟨l, ⟨q, c, h2, ?_⟩, h4⟩
  rcases h5 with h5 | ⟨g, o, e, h5⟩
  · exact .inl h5
  · by_cases hn : l = []
    · exact .inl hn
    · have hl : 0 < l.length := by
        rcases Nat.eq_zero_or_pos l.length with h0 | h0
        · exact absurd (List.length_eq_zero_iff.1 h0) hn
        · exact h0
      exact .inr ⟨g, o, e, cell_lt (h5 0 l[0] (List.getElem?_eq_getElem hl)), h3, h5⟩
end
end Go.Proofs.YtjmbjpimabnohaaDoor.Mid
namespace Go.Proofs.YtjmbjpimabnohaaDoor.Mid
set_option linter.unusedVariables false
open Go Go.Deep Go.ChangeShapes Go.WideShapes Go.ChangeAt Go.WideMaps Go.WideElems Go.RowKit
section
variable {H : Type} {enc : TypeId × Value → H} {P : Program} {w : World} {base : Nat} {sp : Nat → Bool} {held : Bool}
theorem arr_at {fuel n : Nat} {t e : TypeId} {cs : List Value} {ds : List (DataW H)} {p : List MemPlace} (ht : P.underlying t = some (.array n e)) (h : DataW.trod enc P w base sp held fuel t cs = some (.agg ds, p)) (i : Nat) (hi : i < n) :
    ∃ fuel' d p', ds[i]? = some d ∧ DataW.trod enc P w base sp held fuel' e ((cs.drop (i * P.cellsOf e)).take (P.cellsOf e)) = some (d, p') := by
  obtain ⟨xs, m, rfl, hx, hl, hn, hel⟩ := DataW.trod_array ht h
  have h1 := hel i hi
  simp only [Prod.mk.injEq, DataW.agg.injEq] at hx
  have hlt : i < xs.length := by omega
  rw [List.getElem?_eq_getElem hlt] at h1
  exact ⟨m, xs[i].1, xs[i].2, by rw [hx.1]; simp [hlt], h1⟩
theorem str_at {fuel : Nat} {t : TypeId} {fs : Array Field} {cs : List Value} {ds : List (DataW H)} {p : List MemPlace} (ht : P.underlying t = some (.struct fs)) (h : DataW.trod enc P w base sp held fuel t cs = some (.agg ds, p)) (i : Nat) (f : Field) (hf : fs.toList[i]? = some f) :
    ∃ fuel' d p', ds[i]? = some d ∧ DataW.trod enc P w base sp held fuel' f.type ((cs.drop f.offset).take (P.cellsOf f.type)) = some (d, p') := by
  cases fuel with
  | zero => simp [DataW.trod] at h
  | succ m =>
    simp only [DataW.trod, ht] at h
    split at h
    · obtain ⟨xs, hm, hx⟩ := Option.map_eq_some_iff.1 h
      obtain ⟨b, hb, hb2⟩ := Lib.mapM_at hm i f hf
      simp only [Prod.mk.injEq, DataW.agg.injEq] at hx
      exact ⟨m, b.1, b.2, by rw [← hx.1]; simp [hb], hb2⟩
    · cases h
theorem int_is {fuel : Nat} {t : TypeId} {k k' : IntKind} {z : Int} {cs : List Value} {p : List MemPlace} (ht : P.underlying t = some (.int k)) (h : DataW.trod enc P w base sp held fuel t cs = some (.lit (.int k' z), p)) : cs = [.int k' z] := by
  obtain ⟨n, h1, h2, _⟩ := DataW.trod_int ht h
  simp only [Prod.mk.injEq, DataW.lit.injEq, Lit.int.injEq] at h2
  rw [h1, h2.1.1, h2.1.2]
theorem bool_is {fuel : Nat} {t : TypeId} {b : Bool} {cs : List Value} {p : List MemPlace} (ht : P.underlying t = some .bool) (h : DataW.trod enc P w base sp held fuel t cs = some (.lit (.bool b), p)) : cs = [.bool b] := by
  obtain ⟨n, h1, h2⟩ := DataW.trod_bool ht h
  simp only [Prod.mk.injEq, DataW.lit.injEq, Lit.bool.injEq] at h2
  rw [h1, h2.1]
end
section
variable {H : Type} {enc : TypeId × Value → H} {w : World} {base : Nat} {sp : Nat → Bool} {held : Bool}
theorem int_sub {fuel : Nat} {l : List Value} {t : TypeId} {k k' : IntKind} {z : Int} {a : Nat} {p : List MemPlace} (ht : Tryd.prog.underlying t = some (.int k)) (hc : Tryd.prog.cellsOf t = 1)
    (h : DataW.trod enc Tryd.prog w base sp held fuel t ((l.drop a).take (Tryd.prog.cellsOf t)) = some (.lit (.int k' z), p)) : l[a]? = some (.int k' z) := by
  have := int_is ht h
  rw [hc] at this
  have := sub_get this 0 _ rfl
  simpa using this
theorem bool_sub {fuel : Nat} {l : List Value} {t : TypeId} {z : Bool} {a : Nat} {p : List MemPlace} (ht : Tryd.prog.underlying t = some .bool) (hc : Tryd.prog.cellsOf t = 1)
    (h : DataW.trod enc Tryd.prog w base sp held fuel t ((l.drop a).take (Tryd.prog.cellsOf t)) = some (.lit (.bool z), p)) : l[a]? = some (.bool z) := by
  have := bool_is ht h
  rw [hc] at this
  have := sub_get this 0 _ rfl
  simpa using this
theorem str_one {fuel : Nat} {cs : List Value} {p : List MemPlace} {a : Nat} {s : By} (h : DataW.trod enc Tryd.prog w base sp held fuel 9 ((cs.drop a).take (Tryd.prog.cellsOf 9)) = some (.lit (.string s), p)) : cs[a]? = some (.string ⟨s.toArray⟩) := by
  obtain ⟨x, h1, h2, _⟩ := DataW.trod_string Tryd.underlying9 h
  simp only [Prod.mk.injEq, DataW.lit.injEq, Lit.string.injEq] at h2
  have : x = ⟨s.toArray⟩ := by cases x with | mk d => rw [h2.1]
  rw [this] at h1
  have := sub_get h1 0 _ rfl
  simpa using this
end
theorem own : ownKnob Tryd.prog.godebug = none := by kernel_rfl
theorem laidOut : laidOutB Tryd.prog = true := by kernel_rfl
theorem cells4 : Tryd.prog.cellsOf 4 = 1 := by kernel_rfl
theorem gMarks : Tryd.prog.globalNamed "bloomery/mid.marks" = some 1 := by kernel_rfl
theorem tMarks : (Tryd.prog.globals[1]?).map (·.type) = some 138 := by kernel_rfl
theorem gForms : Tryd.prog.globalNamed "bloomery/mid.forms" = some 0 := by kernel_rfl
theorem marksD : (Rows.laid_bloomery_mid_marks : DataW Unit) = .agg (marksL.map fun r => .lit (.string r)) := by kernel_rfl
theorem formsD : (Rows.laid_bloomery_mid_forms : DataW Unit) = .agg ((List.range 15).map fun j => .agg [.lit (.int .i64 (frm j).d), .lit (.int .i64 (frm j).a), .lit (.int .i64 (frm j).b), .lit (.int .i64 (frm j).c), .lit (.bool (frm j).g)]) := by kernel_rfl
end Go.Proofs.YtjmbjpimabnohaaDoor.Mid
