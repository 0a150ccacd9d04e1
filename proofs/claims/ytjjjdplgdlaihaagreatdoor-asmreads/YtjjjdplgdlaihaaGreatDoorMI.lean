/- A row of bytes that the call owns, made by []byte(s) or grown out of such a one: it may bear a mark behind its last cell. append onto it. strconv.AppendInt onto the bytes of a string. strconv.AppendInt onto the bytes of a string: every number. -/
import Derived.Test.YtjjjdplgdlaihaaGreatDoorB8
import Derived.Lib.AppendStr
import Derived.Lib.UnsafeStr
import Derived.OwnWalk
import Derived.Lib.OthersKept
import Derived.Lib.AppendIntMem
import Derived.Lib.BufferKept
import Derived.Lib.ItoaMem
import Derived.Deep.AppendLies
namespace Go.Proofs.YtjjjdplgdlaihaaGreatDoor
open Go Go.RowKit

/-- The slice v owns the bytes bs; no cell of its row is frozen. -/
def OwnB (B : Nat) (w : World) (v : Value) (bs : By) : Prop :=
  ∃ (g cap : Nat) (cur : Array Value) (fz : Nat × Nat), v = .slice (some ⟨g, 0, none⟩) bs.length cap ∧ B ≤ g ∧ w.heap[g]? = some (.cells cur 5 fz) ∧ (∀ k, k < cur.size → ¬ (fz.1 ≤ k ∧ k < fz.2)) ∧
    bs.length ≤ cap ∧ cap ≤ maxLen ∧ cur.size = cap ∧ cur.toList.take bs.length = Lib.byteCells bs

theorem OwnB.kept {B : Nat} {w w' : World} {v : Value} {bs : By} (h : OwnB B w v bs) (hk : ∀ g, v.ownBlock = some g → w'.heap[g]? = w.heap[g]?) : OwnB B w' v bs := by
  obtain ⟨g, cap, cur, fz, rfl, h1, h2, h3⟩ := h
  exact ⟨g, cap, cur, fz, rfl, h1, (hk g rfl).trans h2, h3⟩
theorem OwnB.lt {B : Nat} {w : World} {v : Value} {bs : By} (h : OwnB B w v bs) : ∀ g, v.ownBlock = some g → B ≤ g ∧ g < w.heap.size := by
  obtain ⟨g, cap, cur, fz, rfl, h1, h2, _⟩ := h
  intro k hk
  simp [Value.ownBlock] at hk
  subst hk
  exact ⟨h1, (Array.getElem?_eq_some_iff.1 h2).1⟩
theorem OwnB.kind {B : Nat} {w : World} {v : Value} {bs : By} (h : OwnB B w v bs) : ∀ g, v.ownBlock = some g → ∃ c fz, w.heap[g]? = some (.cells c 5 fz) := by
  obtain ⟨g, cap, cur, fz, rfl, h1, h2, _⟩ := h
  intro k hk
  simp [Value.ownBlock] at hk
  subst hk
  exact ⟨_, _, h2⟩
theorem OwnB.form {B : Nat} {w : World} {v : Value} {bs : By} (h : OwnB B w v bs) : ∃ g cap, v = .slice (some ⟨g, 0, none⟩) bs.length cap := by
  obtain ⟨g, cap, cur, fz, rfl, _⟩ := h
  exact ⟨g, cap, rfl⟩
theorem OwnB.below {B : Nat} {w w' : World} {v : Value} {bs : By} (h : OwnB B w v bs) (hb : Below w.heap.size w w') : OwnB B w' v bs := h.kept fun g hg => hb.block g (h.lt g hg).2
theorem OwnB.alloc {B : Nat} {w : World} {v : Value} {bs : By} (h : OwnB B w v bs) (o : Obj) : OwnB B (w.alloc o) v bs := h.below ((Below.refl _ _).alloc (Nat.le_refl _) o)
theorem OwnB.cells {B : Nat} {w : World} {g cap m : Nat} {bs : By} (h : OwnB B w (.slice (some ⟨g, 0, none⟩) m cap) bs) : ∀ j u, (Lib.byteCells bs)[j]? = some u → w.cell? ((⟨g, 0, none⟩ : Addr).add j) = some u := by
  obtain ⟨g', cap', cur, fz, e, h1, h2, _, _, _, _, ht⟩ := h
  injection e with e1 e2 e3
  injection e1 with e1
  injection e1 with e1
  subst e1
  intro j u hu
  have hadd : (⟨g, 0, none⟩ : Addr).add j = ⟨g, j, none⟩ := by unfold Addr.add; split <;> simp_all
  rw [hadd, cell_of_row w g j cur 5 fz h2]
  rw [← ht, List.getElem?_take] at hu
  split at hu
  · simpa using hu
  · cases hu

/-- Cells stored one behind the other into a row none of whose cells is frozen. -/
theorem put_cells (P : Program) (g o : Nat) (t : TypeId) (fz : Nat × Nat) : ∀ (vs : List Value) (i : Nat) (cur : Array Value) (w : World), w.heap[g]? = some (.cells cur t fz) → (∀ k, k < cur.size → ¬ (fz.1 ≤ k ∧ k < fz.2)) → o + i + vs.length ≤ cur.size → (∀ v ∈ vs, v.oneCell' = true) →
    (storeCells ⟨g, o, none⟩ vs i).run P w = .ok () (w.setRow g (cur.toList.take (o + i) ++ vs ++ cur.toList.drop (o + i + vs.length)).toArray)
  | [], i, cur, w, hg, _, _, _ => by
    simp only [storeCells, List.append_nil, List.length_nil, Nat.add_zero, List.take_append_drop, Array.toArray_toList]
    rw [setRow_self w g cur t fz hg]
    rfl
  | v :: rest, i, cur, w, hg, hz, hl, h1 => by
    have hi : o + i < cur.size := by simp at hl; omega
    have hadd : (⟨g, o, none⟩ : Addr).add i = ⟨g, o + i, none⟩ := by unfold Addr.add; split <;> simp_all
    have hcell : w.cell? ⟨g, o + i, none⟩ = some cur[o + i] := by simp [World.cell?, hg, hi]
    have hfro : w.frozen? ⟨g, o + i, none⟩ = false := by
      have := hz (o + i) hi
      simp [World.frozen?, hg]
      omega
    have hst : (store ((⟨g, o, none⟩ : Addr).add i) v).run P w = .ok () (w.setRow g (cur.setIfInBounds (o + i) v)) := by
      rw [hadd, run_store P w _ v _ (h1 v (by simp)), hcell]
      simp [hfro, setCell_eq_setRow w g (o + i) cur t fz v hg]
    have ih := put_cells P g o t fz rest (i + 1) (cur.setIfInBounds (o + i) v) (w.setRow g (cur.setIfInBounds (o + i) v)) (setRow_heap w g cur _ t _ hg) (by simpa using hz) (by simp at hl ⊢; omega) (fun x hx => h1 x (by simp [hx]))
    simp only [storeCells, Sem.run_bind, hst, Result.andThen_ok, ih, setRow_setRow]
    congr 3
    have e := list_seg_step cur.toList (o + i) v rest (by simp at hl ⊢; omega)
    simpa [Array.toList_setIfInBounds, Nat.add_assoc] using e

theorem bc_one (cs : By) : ∀ u ∈ Lib.byteCells cs, u.oneCell' = true := by
  intro u hu
  simp only [Lib.byteCells, List.mem_map] at hu
  obtain ⟨b, _, rfl⟩ := hu
  rfl

theorem app_len (bs cs : By) : (bs ++ cs).length = bs.length + cs.length := List.length_append
theorem app_cells (bs cs : By) : Lib.byteCells (bs ++ cs) = Lib.byteCells bs ++ Lib.byteCells cs := by simp [Lib.byteCells]

/-- What append leaves where there is room. -/
theorem own_room {B : Nat} {w : World} {g cap : Nat} {cur : Array Value} {fz : Nat × Nat} {bs cs : By} (h1 : B ≤ g) (h2 : w.heap[g]? = some (.cells cur 5 fz)) (h3 : ∀ k, k < cur.size → ¬ (fz.1 ≤ k ∧ k < fz.2)) (h5 : cap ≤ maxLen) (h6 : cur.size = cap)
    (h7 : cur.toList.take bs.length = Lib.byteCells bs) (hr : bs.length + cs.length ≤ cap) :
    OwnB B (w.setRow g (cur.toList.take bs.length ++ Lib.byteCells cs ++ cur.toList.drop (bs.length + cs.length)).toArray) (.slice (some ⟨g, 0, none⟩) (bs.length + cs.length) cap) (bs ++ cs) := by
  have hs : (cur.toList.take bs.length ++ Lib.byteCells cs ++ cur.toList.drop (bs.length + cs.length)).toArray.size = cap := by
    simp only [List.size_toArray, List.length_append, List.length_take, List.length_drop, Array.length_toList, Lib.byteCells_length]
    omega
  refine ⟨g, cap, _, fz, by rw [app_len], h1, setRow_heap w g cur _ 5 _ h2, ?_, by rw [app_len]; omega, h5, hs, ?_⟩
  · rw [hs, ← h6]; exact h3
  · rw [h7, ← app_cells]
    have e : (bs ++ cs).length = (Lib.byteCells (bs ++ cs)).length := by rw [Lib.byteCells_length]
    rw [e]
    exact List.take_left

/-- What it leaves where there is none. -/
theorem own_grown {B : Nat} {w : World} {bs cs : By} (old : Nat) (hB : B ≤ w.heap.size) (h63 : bs.length + cs.length ≤ maxLen) :
    OwnB B (w.drew.alloc (.cells ((Lib.byteCells bs).toArray ++ (Lib.byteCells cs).toArray ++ Builtin.zeroCells (Value.int .u8 0).cells (grownCap w (bs.length + cs.length) old 5 - (bs.length + cs.length))) 5))
      (.slice (some ⟨w.heap.size, 0, none⟩) (bs.length + cs.length) (grownCap w (bs.length + cs.length) old 5)) (bs ++ cs) := by
  have hge := grownCap_ge w (bs.length + cs.length) old 5
  have hcm := grownCap_le_maxLen w (bs.length + cs.length) old 5 h63
  refine ⟨w.heap.size, _, _, (0, 0), by rw [app_len], hB, heap_alloc_new w.drew _, fun k _ hk => by simp at hk, by rw [app_len]; exact hge, hcm, ?_, ?_⟩
  · have e : (Value.int .u8 0).cells.size = 1 := rfl
    simp only [Array.size_append, List.size_toArray, size_zeroCells, Lib.byteCells_length, e]
    omega
  · have e : (bs ++ cs).length = (Lib.byteCells bs ++ Lib.byteCells cs).length := by simp [Lib.byteCells_length]
    simp only [Array.toList_append]
    rw [app_cells, e]
    exact List.take_left

section
variable {P : Program}
theorem run_app (w : World) (B : Nat) (t ty : TypeId) (i : TypeInfo) (ht : P.underlying t = some (.slice 5)) (hi : P.info? 5 = some i) (hz : i.zero = some (.int .u8 0)) (hsize : i.size = 1) (hby : i.bytes = 1)
    (v : Value) (bs cs : By) (hown : OwnB B w v bs) (a : Addr) (c : Nat) (hnews : ∀ j u, (Lib.byteCells cs)[j]? = some u → w.cell? (a.add j) = some u) (hb : bs.length + cs.length ≤ 140737488355328) (hB : B ≤ w.heap.size) :
    ∃ v' w', (Builtin.append_ #[t, t] ty #[v, .slice (some a) cs.length c]).run P w = .ok v' w' ∧ OwnB B w' v' (bs ++ cs) ∧ w.grownBy w' v.ownBlock := by
  have h63 : bs.length + cs.length ≤ maxLen := by unfold maxLen; omega
  have hl : (Lib.byteCells cs).length = cs.length * i.size := by rw [Lib.byteCells_length, hsize, Nat.mul_one]
  have hcl := hown
  obtain ⟨g, cap, cur, fz, rfl, h1, h2, h3, h4, h5, h6, h7⟩ := hown
  by_cases hroom : bs.length + cs.length ≤ cap
  · have hf := run_firstCells_some (P := P) w i.size cs.length a cs.length c (Lib.byteCells cs) hl hnews
    have hst := put_cells P g bs.length 5 fz (Lib.byteCells cs) 0 cur w h2 h3 (by rw [Lib.byteCells_length]; omega) (bc_one cs)
    simp only [Nat.add_zero, Lib.byteCells_length] at hst
    refine ⟨_, _, ?_, own_room h1 h2 h3 h5 h6 h7 hroom, ⟨rfl, rfl, rfl, by simp, fun k _ hk => setRow_other w g k _ (fun e => hk (by simp [Value.ownBlock, e]))⟩⟩
    rw [hsize] at hf
    simp [Builtin.append_, run_underlying ht, sizeOf, typeInfo, hi, Builtin.lenOf, hroom, hf, Addr.add_lit, hst, hsize]
  · have holds := hcl.cells
    have hr := run_append_grow (P := P) w t ty 5 i (.int .u8 0) ht hi hz ⟨g, 0, none⟩ bs.length cap (Lib.byteCells bs) (by rw [Lib.byteCells_length, hsize, Nat.mul_one]) holds a cs.length c (Lib.byteCells cs) hl hnews (by omega) (by omega) (growslice_fits (by omega) (by rw [hby]; omega))
    exact ⟨_, _, hr, own_grown cap hB h63, ⟨rfl, rfl, rfl, by simp, fun k hk _ => Below.heap_alloc w.drew _ k hk⟩⟩

theorem run_app_str (w : World) (B : Nat) (t u ty : TypeId) (i : TypeInfo) (ht : P.underlying t = some (.slice 5)) (hu : P.underlying u = some .string) (hi : P.info? 5 = some i) (hz : i.zero = some (.int .u8 0)) (hsize : i.size = 1) (hby : i.bytes = 1)
    (v : Value) (bs cs : By) (hown : OwnB B w v bs) (hb : bs.length + cs.length ≤ 140737488355328) (hB : B ≤ w.heap.size) :
    ∃ v' w', (Builtin.append_ #[t, u] ty #[v, .string ⟨cs.toArray⟩]).run P w = .ok v' w' ∧ OwnB B w' v' (bs ++ cs) ∧ w.grownBy w' v.ownBlock := by
  have h63 : bs.length + cs.length ≤ maxLen := by unfold maxLen; omega
  have hcl := hown
  have hsz : (⟨cs.toArray⟩ : ByteArray).size = cs.length := by simp [ByteArray.size]
  have hsc : Lib.strCells ⟨cs.toArray⟩ = Lib.byteCells cs := rfl
  obtain ⟨g, cap, cur, fz, rfl, h1, h2, h3, h4, h5, h6, h7⟩ := hown
  by_cases hroom : bs.length + cs.length ≤ cap
  · have hf := Lib.run_firstCells_string (P := P) w 1 ⟨cs.toArray⟩
    rw [hsc, hsz] at hf
    have hst := put_cells P g bs.length 5 fz (Lib.byteCells cs) 0 cur w h2 h3 (by rw [Lib.byteCells_length]; omega) (bc_one cs)
    simp only [Nat.add_zero, Lib.byteCells_length] at hst
    refine ⟨_, _, ?_, own_room h1 h2 h3 h5 h6 h7 hroom, ⟨rfl, rfl, rfl, by simp, fun k _ hk => setRow_other w g k _ (fun e => hk (by simp [Value.ownBlock, e]))⟩⟩
    simp [Builtin.append_, run_underlying ht, run_underlying hu, sizeOf, typeInfo, hi, hsize, Builtin.lenOf, hsz, hroom, hf, Addr.add_lit, hst]
  · have holds := hcl.cells
    have hr := Lib.run_append_grow_string (P := P) w t u ty 5 i (.int .u8 0) ht hu hi hz ⟨g, 0, none⟩ bs.length cap (Lib.byteCells bs) (by rw [Lib.byteCells_length, hsize, Nat.mul_one]) holds ⟨cs.toArray⟩ (by rw [hsz]; omega) (by rw [hsz]; omega) (growslice_fits (by rw [hsz]; omega) (by rw [hsz, hby]; omega))
    rw [hsz, hsc] at hr
    exact ⟨_, _, hr, own_grown cap hB h63, ⟨rfl, rfl, rfl, by simp, fun k hk _ => Below.heap_alloc w.drew _ k hk⟩⟩

theorem wp_app (w : World) {o : Oper} {a : Act} {K : Act → World → Prop} {Q : Exit → Act → World → Prop} (s x : Operand) (t : TypeId)
    (ho : o.op = .call { callee := .builtin .append, args := #[s, x], argTypes := #[t, t] })
    (B : Nat) (i : TypeInfo) (ht : P.underlying t = some (.slice 5)) (hi : P.info? 5 = some i) (hz : i.zero = some (.int .u8 0)) (hsize : i.size = 1) (hby : i.bytes = 1)
    (v : Value) (bs cs : By) (hs : a.eval s = v) (hown : OwnB B w v bs) (ad : Addr) (c : Nat) (hx : a.eval x = .slice (some ad) cs.length c) (hnews : ∀ j u, (Lib.byteCells cs)[j]? = some u → w.cell? (ad.add j) = some u)
    (hb : bs.length + cs.length ≤ 140737488355328) (hB : B ≤ w.heap.size)
    (h : ∀ v' w', OwnB B w' v' (bs ++ cs) → w.grownBy w' v.ownBlock → K (a.put o.dst v') w') : o.wp P a w K Q := by
  obtain ⟨v', w', hr, h2, h3⟩ := run_app (P := P) w B t o.type i ht hi hz hsize hby v bs cs hown ad c hnews hb hB
  unfold Oper.wp execOp
  simp only [ho, resolve, invoke, builtin, Sem.run_bind, Sem.run_pure, Result.andThen_ok, List.map_toArray, List.map_cons, List.map_nil, hs, hx, hr]
  exact h v' w' h2 h3

theorem wpl_app (w : World) {ops : Array Oper} {rest : List Oper} {o : Oper} {a : Act} {Q : Exit → Act → World → Prop} (hgd : o.guard = none) (s x : Operand) (t : TypeId)
    (ho : o.op = .call { callee := .builtin .append, args := #[s, x], argTypes := #[t, t] })
    (B : Nat) (i : TypeInfo) (ht : P.underlying t = some (.slice 5)) (hi : P.info? 5 = some i) (hz : i.zero = some (.int .u8 0)) (hsize : i.size = 1) (hby : i.bytes = 1)
    (v : Value) (bs cs : By) (hs : a.eval s = v) (hown : OwnB B w v bs) (ad : Addr) (c : Nat) (hx : a.eval x = .slice (some ad) cs.length c) (hnews : ∀ j u, (Lib.byteCells cs)[j]? = some u → w.cell? (ad.add j) = some u)
    (hb : bs.length + cs.length ≤ 140737488355328) (hB : B ≤ w.heap.size)
    (h : ∀ v' w', OwnB B w' v' (bs ++ cs) → w.grownBy w' v.ownBlock → wpList P ops Q rest (a.put o.dst v') w') : wpList P ops Q (o :: rest) a w :=
  wpList_plain hgd fun _ hK => wp_app w s x t ho B i ht hi hz hsize hby v bs cs hs hown ad c hx hnews hb hB fun v' w' h2 h3 => hK _ _ (h v' w' h2 h3)

/-- At a step of a region that draws its order. -/
theorem step_app (w : World) {ops : Array Oper} {o : Oper} {a : Act} {K : Act → World → Prop} {Q : Exit → Act → World → Prop} {E : Prop} (hgd : o.guard = none) (s x : Operand) (t : TypeId)
    (ho : o.op = .call { callee := .builtin .append, args := #[s, x], argTypes := #[t, t] })
    (B : Nat) (i : TypeInfo) (ht : P.underlying t = some (.slice 5)) (hi : P.info? 5 = some i) (hz : i.zero = some (.int .u8 0)) (hsize : i.size = 1) (hby : i.bytes = 1)
    (v : Value) (bs cs : By) (hs : a.eval s = v) (hown : OwnB B w v bs) (ad : Addr) (c : Nat) (hx : a.eval x = .slice (some ad) cs.length c) (hnews : ∀ j u, (Lib.byteCells cs)[j]? = some u → w.cell? (ad.add j) = some u)
    (hb : bs.length + cs.length ≤ 140737488355328) (hB : B ≤ w.heap.size)
    (h : ∀ g m cap w', OwnB B w' (.slice (some ⟨g, 0, none⟩) m cap) (bs ++ cs) → w.grownBy w' v.ownBlock → K (a.put o.dst (.slice (some ⟨g, 0, none⟩) m cap)) w') :
    if Region.wanted o (yielded ops a.tmps) = true then Oper.wp P o a w K Q else E := by
  have hw : Region.wanted o (yielded ops a.tmps) = true := by simp [Region.wanted, hgd]
  rw [if_pos hw]
  refine wp_app w s x t ho B i ht hi hz hsize hby v bs cs hs hown ad c hx hnews hb hB fun v' w' h2 h3 => ?_
  obtain ⟨g, cap, rfl⟩ := h2.form
  exact h g _ cap w' h2 h3

theorem wpl_app_str (w : World) {ops : Array Oper} {rest : List Oper} {o : Oper} {a : Act} {Q : Exit → Act → World → Prop} (hgd : o.guard = none) (s x : Operand) (t u : TypeId)
    (ho : o.op = .call { callee := .builtin .append, args := #[s, x], argTypes := #[t, u] })
    (B : Nat) (i : TypeInfo) (ht : P.underlying t = some (.slice 5)) (hu : P.underlying u = some .string) (hi : P.info? 5 = some i) (hz : i.zero = some (.int .u8 0)) (hsize : i.size = 1) (hby : i.bytes = 1)
    (v : Value) (bs cs : By) (hs : a.eval s = v) (hown : OwnB B w v bs) (hx : a.eval x = .string ⟨cs.toArray⟩)
    (hb : bs.length + cs.length ≤ 140737488355328) (hB : B ≤ w.heap.size)
    (h : ∀ v' w', OwnB B w' v' (bs ++ cs) → w.grownBy w' v.ownBlock → wpList P ops Q rest (a.put o.dst v') w') : wpList P ops Q (o :: rest) a w :=
  wpList_plain hgd fun _ hK => by
    obtain ⟨v', w', hr, h2, h3⟩ := run_app_str (P := P) w B t u o.type i ht hu hi hz hsize hby v bs cs hown hb hB
    unfold Oper.wp execOp
    simp only [ho, resolve, invoke, builtin, Sem.run_bind, Sem.run_pure, Result.andThen_ok, List.map_toArray, List.map_cons, List.map_nil, hs, hx, hr]
    exact hK _ _ (h v' w' h2 h3)
end
end Go.Proofs.YtjjjdplgdlaihaaGreatDoor

namespace Go.Proofs.YtjjjdplgdlaihaaGreatDoor
open Go Go.RowKit

/-- What is kept: whatever lies below n; whatever is no row of bytes. -/
structure Kp (n : Nat) (w w' : World) : Prop where
  low : Below n w w'
  oth : Lib.OthersKept 5 none w w'
theorem Kp.refl (n : Nat) (w : World) : Kp n w w := ⟨Below.refl _ _, Lib.OthersKept.refl _ _ _⟩
theorem Kp.trans {n : Nat} {a b c : World} (h : Kp n a b) (k : Kp n b c) : Kp n a c := ⟨h.low.trans k.low, h.oth.trans k.oth⟩
theorem Kp.alloc {n : Nat} {a b : World} (h : Kp n a b) (hn : n ≤ b.heap.size) (o : Obj) : Kp n a (b.alloc o) := ⟨h.low.alloc hn o, h.oth.alloc o⟩
theorem Kp.drew {n : Nat} {a b : World} (h : Kp n a b) : Kp n a b.drew := ⟨h.low.trans ⟨rfl, rfl, rfl, Nat.le_refl _, fun _ _ => rfl⟩, h.oth.drew⟩
theorem Kp.below {n : Nat} {a b c : World} (h : Kp n a b) (hn : n ≤ b.heap.size) (hb : Below b.heap.size b c) : Kp n a c := ⟨h.low.trans (hb.mono hn), h.oth.below hb⟩
theorem Kp.grown {n : Nat} {a w w' : World} {v : Value} {bs : By} (h : Kp n a w) (hn : n ≤ w.heap.size) (ho : OwnB n w v bs) (hg : w.grownBy w' v.ownBlock) : Kp n a w' :=
  ⟨h.low.grown hg hn (fun j ej => (ho.lt j ej).1), h.oth.grown hg ho.kind⟩

theorem info5 : (Tryz.prog.info? 5).map (fun i => (i.zero, i.size, i.bytes)) = some (some (.int .u8 0), 1, 1) := by kernel_rfl

set_option maxHeartbeats 2000000 in
set_option maxRecDepth 100000 in
theorem auint_small (B u : Nat) (hu : u < 100) (v : Value) (bs : By) (w : World) (hown : OwnB B w v bs) (hB : B ≤ w.heap.size) (hl : bs.length + 20 ≤ 140737488355328) :
    Calls Tryz.prog 98 #[v, .int .u64 u, .int .i64 10] w fun e w' => ∃ v', e = .returned v' ∧ OwnB B w' v' (bs ++ Lib.decDigits u) ∧ Kp B w w' := by
  obtain ⟨i0, hi, hz0, hz1, hz2⟩ := info_parts info5
  have hlen : (Lib.decDigits u).length ≤ 20 := by
    rw [Lib.decDigits_length]
    by_cases h10 : u < 10
    · rw [Lib.nDigits_small h10]; omega
    · rw [Lib.nDigits_big h10, Lib.nDigits_small (show u / 10 < 10 by omega)]; omega
  have HO : Hid (OwnB B w v bs) := hown
  have HL : Hid (bs.length + (Lib.decDigits u).length ≤ 140737488355328) := by show _ ≤ _; omega
  clear hown hl hlen
  go_enter Tryz.func98, Tryz.ntmps98
  go_wp2_with (first
    | (go_at_call 93; refine (Tryz.internal_strconv_small u hu _).mono ?_; rintro e w' ⟨rfl, rfl⟩)
    | (at_builtin; refine wpl_app_str _ rfl _ _ 88 9 rfl B i0 Tryz.underlying88 Tryz.underlying9 hi hz0 hz1 hz2 _ bs (Lib.decDigits u) rfl HO.out rfl HL.out hB ?_))
  intro v' w1 hown' hgrow
  have HK : Hid (Kp B w' w1) := (Kp.refl B w').grown hB HO.out hgrow
  have HP : Hid (OwnB B w1 v' (bs ++ Lib.decDigits u)) := hown'
  clear hown' hgrow
  go_wp2
  go_ret
  exact ⟨v', rfl, HP.out, HK.out⟩

abbrev bV (b : UInt8) : Value := .int .u8 (b.toNat : Int)

set_option maxHeartbeats 4000000 in
set_option maxRecDepth 100000 in
theorem auint_big (B u : Nat) (hu : 100 ≤ u) (hu64 : u < 18446744073709551616) (v : Value) (bs : By) (w : World) (hown : OwnB B w v bs) (hB : B ≤ w.heap.size) (hl : bs.length + 20 ≤ 140737488355328)
    (htab : Lib.TabIs Tryz.prog w "internal/strconv.uint64pow10" .u64 Lib.pow10Tab) :
    Calls Tryz.prog 98 #[v, .int .u64 u, .int .i64 10] w fun e w' => ∃ v', e = .returned v' ∧ OwnB B w' v' (bs ++ Lib.decDigits u) ∧ Kp B w w' := by
  obtain ⟨i0, hi, hz0, hz1, hz2⟩ := info_parts info5
  have hu1 : 1 ≤ u := by omega
  have hnd : Lib.nDigits u ≤ 20 := by have := Lib.numDigits_eq u hu1 hu64; split at this <;> omega
  have hal : Tryz.prog.arrayLen 161 = 24 := by kernel_rfl
  have hsl : ∀ W, (Instr.sliceAt 161 (.pointer (some ⟨w.heap.size, 0, none⟩)) none (some (.int .i64 (Lib.nDigits u : Int))) none).run Tryz.prog W = .ok (.slice (some ⟨w.heap.size, 0, none⟩) (Lib.nDigits u) 24) W := fun W => by
    rw [run_sliceAt_array_h W 161 ⟨w.heap.size, 0, none⟩ (by kernel_rfl) .i64 (Lib.nDigits u : Int) (by omega) (by rw [hal]; omega)]
    rw [hal]
    go_simp
  have hH := Lib.holds_zero0 w 161 (Lib.nDigits u) (by omega)
  have hfmt := Tryz.internal_strconv_formatBase10 w.heap.size 0 24 u (Array.replicate (Lib.nDigits u) 0) (w.alloc (.cells Lib.zeros24 161)) hH (by rw [Array.size_replicate]; exact Lib.lt_pow_nDigits u) hu64 (by rw [Array.size_replicate]; omega)
  rw [Array.size_replicate] at hfmt
  have HF : Hid (Calls Tryz.prog 95 #[.slice (some ⟨w.heap.size, 0, none⟩) (Lib.nDigits u) 24, .int .u64 u] (w.alloc (.cells Lib.zeros24 161)) fun e w' => e = .returned (.tuple #[]) ∧ Below w.heap.size w w' ∧ ∀ j x, (Lib.byteCells (Lib.decDigits u))[j]? = some x → w'.cell? ((⟨w.heap.size, 0, none⟩ : Addr).add j) = some x) := by
    refine hfmt.mono ?_
    rintro e w' ⟨he, k, v', dk, rfl, hF⟩
    refine ⟨he, ?_, fun j x hj => ?_⟩
    · obtain ⟨os, eo⟩ := Lib.fin_at w (.cells Lib.zeros24 161) dk k 0
      rw [eo]
      exact Lib.below_grow w.heap.size w (Nat.le_refl _) k os
    · have hjl : j < (Lib.decDigits u).length := by
        have h5 := (List.getElem?_eq_some_iff.1 hj).1
        rwa [Lib.byteCells_length] at h5
      have e5 : (Lib.byteCells (Lib.decDigits u))[j]? = some (bV (Lib.decDigits u)[j]) := by simp [Lib.byteCells, hjl]
      rw [e5] at hj
      cases hj
      rw [Lib.row_is_numeral hF j hjl, Lib.add_plain, World.cell?_drewN]
      exact Sort.cell?_putRow bV _ w.heap.size 0 _ dk hH (by rw [hF.size, Array.size_replicate]) j (by rw [hF.size]; rw [Lib.decDigits_length] at hjl; exact hjl)
  have HO : Hid (OwnB B w v bs) := hown
  have hdl := Lib.decDigits_length u
  have HL : Hid (bs.length + (Lib.decDigits u).length ≤ 140737488355328) := by show _ ≤ _; omega
  have HD : Hid ((Lib.decDigits u).length = Lib.nDigits u) := hdl
  have HND : Hid (∀ W, Below w.heap.size w W → Calls Tryz.prog 94 #[.int .u64 u] W fun e w' => e = .returned (.int .i64 (Lib.nDigits u)) ∧ w' = W) := fun W hb => Tryz.internal_strconv_numDigits u hu1 hu64 W (Lib.tabBelow_of_tabIs htab W hb)
  have HB0 : Hid (Below w.heap.size w (w.alloc (.cells Lib.zeros24 161))) := (Below.refl _ _).alloc (Nat.le_refl _) _
  have iu : (100 : Int) ≤ (u : Int) := by omega
  clear hown hl hfmt hH hdl htab hal
  go_enter Tryz.func98, Tryz.ntmps98
  go_wp2_with (go_at_call 94; refine (HND.out _ HB0.out).mono ?_; rintro e w' ⟨rfl, rfl⟩)
  go_at_call 95
  refine HF.out.mono ?_
  rintro e W2 ⟨rfl, hb2, hc2⟩
  have HO2 : Hid (OwnB B W2 v bs) := HO.out.below hb2
  have HC2 : Hid (∀ j x, (Lib.byteCells (Lib.decDigits u))[j]? = some x → W2.cell? ((⟨w.heap.size, 0, none⟩ : Addr).add j) = some x) := hc2
  have HS2 : Hid (B ≤ W2.heap.size) := Nat.le_trans hB hb2.size
  have HK2 : Hid (Kp B w W2) := (Kp.refl B w).below hB hb2
  clear hb2 hc2
  go_wp2_with (at_builtin; refine wpl_app _ rfl _ _ 88 rfl B i0 Tryz.underlying88 hi hz0 hz1 hz2 _ bs (Lib.decDigits u) rfl HO2.out ⟨w.heap.size, 0, none⟩ 24 ?c0 HC2.out HL.out HS2.out ?_)
  case c0 => rw [HD.out]; rfl
  intro v' w1 hown' hgrow
  have HK : Hid (Kp B w w1) := HK2.out.grown HS2.out HO2.out hgrow
  have HP : Hid (OwnB B w1 v' (bs ++ Lib.decDigits u)) := hown'
  clear hown' hgrow
  go_wp2
  go_ret
  exact ⟨v', rfl, HP.out, HK.out⟩

theorem auint_any (B u : Nat) (hu64 : u < 18446744073709551616) (v : Value) (bs : By) (w : World) (hown : OwnB B w v bs) (hB : B ≤ w.heap.size) (hl : bs.length + 20 ≤ 140737488355328)
    (htab : Lib.TabIs Tryz.prog w "internal/strconv.uint64pow10" .u64 Lib.pow10Tab) :
    Calls Tryz.prog 98 #[v, .int .u64 u, .int .i64 10] w fun e w' => ∃ v', e = .returned v' ∧ OwnB B w' v' (bs ++ Lib.decDigits u) ∧ Kp B w w' := by
  by_cases h : u < 100
  · exact auint_small B u h v bs w hown hB hl
  · exact auint_big B u (by omega) hu64 v bs w hown hB hl htab
end Go.Proofs.YtjjjdplgdlaihaaGreatDoor

namespace Go.Proofs.YtjjjdplgdlaihaaGreatDoor
open Go Go.RowKit

abbrev Tab (B : Nat) (w : World) : Prop := Lib.TabBelow Tryz.prog B w "internal/strconv.uint64pow10" .u64 Lib.pow10Tab

theorem one_news (w : World) (c : UInt8) : ∀ (j : Nat) (u : Value), (Lib.byteCells [c])[j]? = some u → (w.alloc (.cells #[.int .u8 (c.toNat : Int)] 5)).cell? ((⟨w.heap.size, 0, none⟩ : Addr).add j) = some u :=
  World.news_of_block (cs := #[.int .u8 (c.toNat : Int)]) (t := 5) (fr := (0, 0)) (heap_alloc_last w _)

set_option maxHeartbeats 2000000 in
set_option maxRecDepth 100000 in
theorem aint_neg (B u : Nat) (hu1 : 1 ≤ u) (hu64 : u ≤ 9223372036854775808) (v : Value) (bs : By) (w : World) (hown : OwnB B w v bs) (hB : B ≤ w.heap.size) (hl : bs.length + 21 ≤ 140737488355328) (ht : Tab B w) :
    Calls Tryz.prog 73 #[v, .int .i64 (-(u : Int)), .int .i64 10] w fun e w' => ∃ v', e = .returned v' ∧ OwnB B w' v' (bs ++ Lib.itoa (-(u : Int))) ∧ Kp B w w' := by
  obtain ⟨i0, hi, hz0, hz1, hz2⟩ := info_parts info5
  have hwr : IntKind.u64.wrap (-IntKind.u64.wrap (-(u : Int))) = (u : Int) := by rw [IntKind.wrap_u64, IntKind.wrap_u64]; omega
  have hneg : -(u : Int) < 0 := by omega
  rw [Lib.itoa_neg u hu1]
  have HO : Hid (OwnB B (w.alloc (.cells #[.int .u8 45] 5)) v bs) := hown.alloc _
  have HN : Hid (∀ (j : Nat) (x : Value), (Lib.byteCells [45])[j]? = some x → (w.alloc (.cells #[.int .u8 45] 5)).cell? ((⟨w.heap.size, 0, none⟩ : Addr).add j) = some x) := one_news w 45
  have HS : Hid (B ≤ (w.alloc (.cells #[.int .u8 45] 5)).heap.size) := by show _ ≤ _; simp; omega
  have HL : Hid (bs.length + [(45 : UInt8)].length ≤ 140737488355328) := by show _ ≤ _; simp; omega
  have HK0 : Hid (Kp B w (w.alloc (.cells #[.int .u8 45] 5))) := (Kp.refl B w).alloc hB _
  have HU : Hid (∀ v1 w1, OwnB B w1 v1 (bs ++ [45]) → Kp B w w1 → Calls Tryz.prog 98 #[v1, .int .u64 u, .int .i64 10] w1 fun e w' => ∃ v', e = .returned v' ∧ OwnB B w' v' (bs ++ [45] ++ Lib.decDigits u) ∧ Kp B w1 w') := fun v1 w1 h1 h2 =>
    auint_any B u (by omega) v1 (bs ++ [45]) w1 h1 (Nat.le_trans hB h2.low.size) (by simp; omega) (ht w1 h2.low)
  clear hown hl ht
  go_enter Tryz.func73, Tryz.ntmps73
  go_wp2_with (at_builtin; refine wpl_app _ rfl _ _ 88 rfl B i0 Tryz.underlying88 hi hz0 hz1 hz2 _ bs [45] rfl HO.out ⟨w.heap.size, 0, none⟩ 1 rfl HN.out HL.out HS.out ?_)
  intro v1 w1 hown' hgrow
  have HK : Hid (Kp B w w1) := HK0.out.grown HS.out HO.out hgrow
  have HP : Hid (OwnB B w1 v1 (bs ++ [45])) := hown'
  clear hown' hgrow
  go_wp2_with (go_at_call 98; refine (HU.out _ _ HP.out HK.out).mono ?_; rintro e w2 ⟨v2, rfl, ho2, hk2⟩; have HP2 : Hid (OwnB B w2 v2 (bs ++ [45] ++ Lib.decDigits u)) := ho2; have HK2 : Hid (Kp B w1 w2) := hk2; clear ho2 hk2)
  go_ret
  refine ⟨v2, rfl, ?_, HK.out.trans HK2.out⟩
  have e : bs ++ 45 :: Lib.decDigits u = bs ++ [45] ++ Lib.decDigits u := by simp
  rw [e]
  exact HP2.out

set_option maxHeartbeats 2000000 in
set_option maxRecDepth 100000 in
theorem aint_pos (B u : Nat) (hu64 : u ≤ 9223372036854775807) (v : Value) (bs : By) (w : World) (hown : OwnB B w v bs) (hB : B ≤ w.heap.size) (hl : bs.length + 21 ≤ 140737488355328) (ht : Tab B w) :
    Calls Tryz.prog 73 #[v, .int .i64 (u : Int), .int .i64 10] w fun e w' => ∃ v', e = .returned v' ∧ OwnB B w' v' (bs ++ Lib.itoa (u : Int)) ∧ Kp B w w' := by
  have hwr : IntKind.u64.wrap (u : Int) = (u : Int) := by rw [IntKind.wrap_u64]; omega
  rw [Lib.itoa_nonneg]
  have HU : Hid (Calls Tryz.prog 98 #[v, .int .u64 u, .int .i64 10] w fun e w' => ∃ v', e = .returned v' ∧ OwnB B w' v' (bs ++ Lib.decDigits u) ∧ Kp B w w') := auint_any B u (by omega) v bs w hown hB (by omega) ht.here
  clear hown hl ht
  go_enter Tryz.func73, Tryz.ntmps73
  go_wp2_with (go_at_call 98; refine HU.out.mono ?_; rintro e w2 ⟨v2, rfl, ho2, hk2⟩; have HP2 : Hid (OwnB B w2 v2 (bs ++ Lib.decDigits u)) := ho2; have HK2 : Hid (Kp B w w2) := hk2; clear ho2 hk2)
  go_ret
  exact ⟨v2, rfl, HP2.out, HK2.out⟩

set_option maxHeartbeats 2000000 in
set_option maxRecDepth 100000 in
/-- strconv.AppendInt, base ten. -/
theorem aint_any (B : Nat) (n : Int) (h0 : -9223372036854775808 ≤ n) (h1 : n ≤ 9223372036854775807) (v : Value) (bs : By) (w : World) (hown : OwnB B w v bs) (hB : B ≤ w.heap.size) (hl : bs.length + 21 ≤ 140737488355328) (ht : Tab B w) :
    Calls Tryz.prog 38 #[v, .int .i64 n, .int .i64 10] w fun e w' => ∃ v', e = .returned v' ∧ OwnB B w' v' (bs ++ Lib.itoa n) ∧ Kp B w w' := by
  have HU : Hid (Calls Tryz.prog 73 #[v, .int .i64 n, .int .i64 10] w fun e w' => ∃ v', e = .returned v' ∧ OwnB B w' v' (bs ++ Lib.itoa n) ∧ Kp B w w') := by
    by_cases hn : n < 0
    · obtain ⟨u, rfl⟩ : ∃ u : Nat, n = -(u : Int) := ⟨n.natAbs, by omega⟩
      exact aint_neg B u (by omega) (by omega) v bs w hown hB hl ht
    · obtain ⟨u, rfl⟩ : ∃ u : Nat, n = u := ⟨n.toNat, by omega⟩
      exact aint_pos B u (by omega) v bs w hown hB hl ht
  clear hown hl ht
  go_enter Tryz.func38, Tryz.ntmps38
  go_wp2_with (go_at_call 73; refine HU.out.mono ?_; rintro e w2 ⟨v2, rfl, ho2, hk2⟩; have HP2 : Hid (OwnB B w2 v2 (bs ++ Lib.itoa n)) := ho2; have HK2 : Hid (Kp B w w2) := hk2; clear ho2 hk2)
  go_ret
  exact ⟨v2, rfl, HP2.out, HK2.out⟩
end Go.Proofs.YtjjjdplgdlaihaaGreatDoor
