/- A row of bytes that the call owns, made by []byte(s) or grown out of such a one: it may bear a mark behind its last cell. append onto it. -/
import Derived.Test.YtjjjdplgdlaihaaGreatDoorB8
import Derived.Lib.AppendStr
import Derived.Lib.UnsafeStr
import Derived.OwnWalk
namespace Go.Proofs.YtjjjdplgdlaihaaGreatDoor
open Go Go.RowKit

/-- The slice v owns the bytes bs; no cell of its row is frozen. -/
def OwnB (B : Nat) (w : World) (v : Value) (bs : By) : Prop :=
  ∃ (g cap : Nat) (cur : Array Value) (fz : Nat × Nat), v = .slice (some ⟨g, 0, none⟩) bs.length cap ∧ B ≤ g ∧ w.heap[g]? = some (.cells cur 5 fz) ∧ (∀ k, k < cur.size → ¬ (fz.1 ≤ k ∧ k < fz.2)) ∧
    bs.length ≤ cap ∧ cap ≤ maxLen ∧ cur.size = cap ∧ cur.toList.take bs.length = Lib.byteCells bs

theorem OwnB.kept {B : Nat} {w w' : World} {v : Value} {bs : By} (h : OwnB B w v bs) (hk : ∀ g, v.ownBlock = some g → w'.heap[g]? = w.heap[g]?) : OwnB B w' v bs := by
  obtain ⟨g, cap, cur, fz, rfl, h1, h2, h3⟩ := h
  exact ⟨g, cap, cur, fz, rfl, h1, (hk g rfl).trans h2, h3⟩
theorem OwnB.lt {B : Nat} {w : World} {v : Value} {bs : By} (h : OwnB B w v bs) : ∀ g, v.ownBlock = some g → B ≤ g ∧ g < w.heap.size := by
  obtain ⟨g, cap, cur, fz, rfl, h1, h2, _⟩ := h
  intro k hk
  simp [Value.ownBlock] at hk
  subst hk
  exact ⟨h1, (Array.getElem?_eq_some_iff.1 h2).1⟩
theorem OwnB.kind {B : Nat} {w : World} {v : Value} {bs : By} (h : OwnB B w v bs) : ∀ g, v.ownBlock = some g → ∃ c fz, w.heap[g]? = some (.cells c 5 fz) := by
  obtain ⟨g, cap, cur, fz, rfl, h1, h2, _⟩ := h
  intro k hk
  simp [Value.ownBlock] at hk
  subst hk
  exact ⟨_, _, h2⟩
theorem OwnB.form {B : Nat} {w : World} {v : Value} {bs : By} (h : OwnB B w v bs) : ∃ g cap, v = .slice (some ⟨g, 0, none⟩) bs.length cap := by
  obtain ⟨g, cap, cur, fz, rfl, _⟩ := h
  exact ⟨g, cap, rfl⟩
theorem OwnB.below {B : Nat} {w w' : World} {v : Value} {bs : By} (h : OwnB B w v bs) (hb : Below w.heap.size w w') : OwnB B w' v bs := h.kept fun g hg => hb.block g (h.lt g hg).2
theorem OwnB.alloc {B : Nat} {w : World} {v : Value} {bs : By} (h : OwnB B w v bs) (o : Obj) : OwnB B (w.alloc o) v bs := h.below ((Below.refl _ _).alloc (Nat.le_refl _) o)
theorem OwnB.cells {B : Nat} {w : World} {g cap m : Nat} {bs : By} (h : OwnB B w (.slice (some ⟨g, 0, none⟩) m cap) bs) : ∀ j u, (Lib.byteCells bs)[j]? = some u → w.cell? ((⟨g, 0, none⟩ : Addr).add j) = some u := by
  obtain ⟨g', cap', cur, fz, e, h1, h2, _, _, _, _, ht⟩ := h
  injection e with e1 e2 e3
  injection e1 with e1
  injection e1 with e1
  subst e1
  intro j u hu
  have hadd : (⟨g, 0, none⟩ : Addr).add j = ⟨g, j, none⟩ := by unfold Addr.add; split <;> simp_all
  rw [hadd, cell_of_row w g j cur 5 fz h2]
  rw [← ht, List.getElem?_take] at hu
  split at hu
  · simpa using hu
  · cases hu

/-- Cells stored one behind the other into a row none of whose cells is frozen. -/
theorem put_cells (P : Program) (g o : Nat) (t : TypeId) (fz : Nat × Nat) : ∀ (vs : List Value) (i : Nat) (cur : Array Value) (w : World), w.heap[g]? = some (.cells cur t fz) → (∀ k, k < cur.size → ¬ (fz.1 ≤ k ∧ k < fz.2)) → o + i + vs.length ≤ cur.size → (∀ v ∈ vs, v.oneCell' = true) →
    (storeCells ⟨g, o, none⟩ vs i).run P w = .ok () (w.setRow g (cur.toList.take (o + i) ++ vs ++ cur.toList.drop (o + i + vs.length)).toArray)
  | [], i, cur, w, hg, _, _, _ => by
    simp only [storeCells, List.append_nil, List.length_nil, Nat.add_zero, List.take_append_drop, Array.toArray_toList]
    rw [setRow_self w g cur t fz hg]
    rfl
  | v :: rest, i, cur, w, hg, hz, hl, h1 => by
    have hi : o + i < cur.size := by simp at hl; omega
    have hadd : (⟨g, o, none⟩ : Addr).add i = ⟨g, o + i, none⟩ := by unfold Addr.add; split <;> simp_all
    have hcell : w.cell? ⟨g, o + i, none⟩ = some cur[o + i] := by simp [World.cell?, hg, hi]
    have hfro : w.frozen? ⟨g, o + i, none⟩ = false := by
      have := hz (o + i) hi
      simp [World.frozen?, hg]
      omega
    have hst : (store ((⟨g, o, none⟩ : Addr).add i) v).run P w = .ok () (w.setRow g (cur.setIfInBounds (o + i) v)) := by
      rw [hadd, run_store P w _ v _ (h1 v (by simp)), hcell]
      simp [hfro, setCell_eq_setRow w g (o + i) cur t fz v hg]
    have ih := put_cells P g o t fz rest (i + 1) (cur.setIfInBounds (o + i) v) (w.setRow g (cur.setIfInBounds (o + i) v)) (setRow_heap w g cur _ t _ hg) (by simpa using hz) (by simp at hl ⊢; omega) (fun x hx => h1 x (by simp [hx]))
    simp only [storeCells, Sem.run_bind, hst, Result.andThen_ok, ih, setRow_setRow]
    congr 3
    have e := list_seg_step cur.toList (o + i) v rest (by simp at hl ⊢; omega)
    simpa [Array.toList_setIfInBounds, Nat.add_assoc] using e

theorem bc_one (cs : By) : ∀ u ∈ Lib.byteCells cs, u.oneCell' = true := by
  intro u hu
  simp only [Lib.byteCells, List.mem_map] at hu
  obtain ⟨b, _, rfl⟩ := hu
  rfl

theorem app_len (bs cs : By) : (bs ++ cs).length = bs.length + cs.length := List.length_append
theorem app_cells (bs cs : By) : Lib.byteCells (bs ++ cs) = Lib.byteCells bs ++ Lib.byteCells cs := by simp [Lib.byteCells]

/-- What append leaves where there is room. -/
theorem own_room {B : Nat} {w : World} {g cap : Nat} {cur : Array Value} {fz : Nat × Nat} {bs cs : By} (h1 : B ≤ g) (h2 : w.heap[g]? = some (.cells cur 5 fz)) (h3 : ∀ k, k < cur.size → ¬ (fz.1 ≤ k ∧ k < fz.2)) (h5 : cap ≤ maxLen) (h6 : cur.size = cap)
    (h7 : cur.toList.take bs.length = Lib.byteCells bs) (hr : bs.length + cs.length ≤ cap) :
    OwnB B (w.setRow g (cur.toList.take bs.length ++ Lib.byteCells cs ++ cur.toList.drop (bs.length + cs.length)).toArray) (.slice (some ⟨g, 0, none⟩) (bs.length + cs.length) cap) (bs ++ cs) := by
  have hs : (cur.toList.take bs.length ++ Lib.byteCells cs ++ cur.toList.drop (bs.length + cs.length)).toArray.size = cap := by
    simp only [List.size_toArray, List.length_append, List.length_take, List.length_drop, Array.length_toList, Lib.byteCells_length]
    omega
  refine ⟨g, cap, _, fz, by rw [app_len], h1, setRow_heap w g cur _ 5 _ h2, ?_, by rw [app_len]; omega, h5, hs, ?_⟩
  · rw [hs, ← h6]; exact h3
  · rw [h7, ← app_cells]
    have e : (bs ++ cs).length = (Lib.byteCells (bs ++ cs)).length := by rw [Lib.byteCells_length]
    rw [e]
    exact List.take_left

/-- What it leaves where there is none. -/
theorem own_grown {B : Nat} {w : World} {bs cs : By} (old : Nat) (hB : B ≤ w.heap.size) (h63 : bs.length + cs.length ≤ maxLen) :
    OwnB B (w.drew.alloc (.cells ((Lib.byteCells bs).toArray ++ (Lib.byteCells cs).toArray ++ Builtin.zeroCells (Value.int .u8 0).cells (grownCap w (bs.length + cs.length) old 5 - (bs.length + cs.length))) 5))
      (.slice (some ⟨w.heap.size, 0, none⟩) (bs.length + cs.length) (grownCap w (bs.length + cs.length) old 5)) (bs ++ cs) := by
  have hge := grownCap_ge w (bs.length + cs.length) old 5
  have hcm := grownCap_le_maxLen w (bs.length + cs.length) old 5 h63
  refine ⟨w.heap.size, _, _, (0, 0), by rw [app_len], hB, heap_alloc_new w.drew _, fun k _ hk => by simp at hk, by rw [app_len]; exact hge, hcm, ?_, ?_⟩
  · have e : (Value.int .u8 0).cells.size = 1 := rfl
    simp only [Array.size_append, List.size_toArray, size_zeroCells, Lib.byteCells_length, e]
    omega
  · have e : (bs ++ cs).length = (Lib.byteCells bs ++ Lib.byteCells cs).length := by simp [Lib.byteCells_length]
    simp only [Array.toList_append]
    rw [app_cells, e]
    exact List.take_left

section
variable {P : Program}
theorem run_app (w : World) (B : Nat) (t ty : TypeId) (i : TypeInfo) (ht : P.underlying t = some (.slice 5)) (hi : P.info? 5 = some i) (hz : i.zero = some (.int .u8 0)) (hsize : i.size = 1) (hby : i.bytes = 1)
    (v : Value) (bs cs : By) (hown : OwnB B w v bs) (a : Addr) (c : Nat) (hnews : ∀ j u, (Lib.byteCells cs)[j]? = some u → w.cell? (a.add j) = some u) (hb : bs.length + cs.length ≤ 140737488355328) (hB : B ≤ w.heap.size) :
    ∃ v' w', (Builtin.append_ #[t, t] ty #[v, .slice (some a) cs.length c]).run P w = .ok v' w' ∧ OwnB B w' v' (bs ++ cs) ∧ w.grownBy w' v.ownBlock := by
  have h63 : bs.length + cs.length ≤ maxLen := by unfold maxLen; omega
  have hl : (Lib.byteCells cs).length = cs.length * i.size := by rw [Lib.byteCells_length, hsize, Nat.mul_one]
  have hcl := hown
  obtain ⟨g, cap, cur, fz, rfl, h1, h2, h3, h4, h5, h6, h7⟩ := hown
  by_cases hroom : bs.length + cs.length ≤ cap
  · have hf := run_firstCells_some (P := P) w i.size cs.length a cs.length c (Lib.byteCells cs) hl hnews
    have hst := put_cells P g bs.length 5 fz (Lib.byteCells cs) 0 cur w h2 h3 (by rw [Lib.byteCells_length]; omega) (bc_one cs)
    simp only [Nat.add_zero, Lib.byteCells_length] at hst
    refine ⟨_, _, ?_, own_room h1 h2 h3 h5 h6 h7 hroom, ⟨rfl, rfl, rfl, by simp, fun k _ hk => setRow_other w g k _ (fun e => hk (by simp [Value.ownBlock, e]))⟩⟩
    rw [hsize] at hf
    simp [Builtin.append_, run_underlying ht, sizeOf, typeInfo, hi, Builtin.lenOf, hroom, hf, Addr.add_lit, hst, hsize]
  · have holds := hcl.cells
    have hr := run_append_grow (P := P) w t ty 5 i (.int .u8 0) ht hi hz ⟨g, 0, none⟩ bs.length cap (Lib.byteCells bs) (by rw [Lib.byteCells_length, hsize, Nat.mul_one]) holds a cs.length c (Lib.byteCells cs) hl hnews (by omega) (by omega) (growslice_fits (by omega) (by rw [hby]; omega))
    exact ⟨_, _, hr, own_grown cap hB h63, ⟨rfl, rfl, rfl, by simp, fun k hk _ => Below.heap_alloc w.drew _ k hk⟩⟩

theorem run_app_str (w : World) (B : Nat) (t u ty : TypeId) (i : TypeInfo) (ht : P.underlying t = some (.slice 5)) (hu : P.underlying u = some .string) (hi : P.info? 5 = some i) (hz : i.zero = some (.int .u8 0)) (hsize : i.size = 1) (hby : i.bytes = 1)
    (v : Value) (bs cs : By) (hown : OwnB B w v bs) (hb : bs.length + cs.length ≤ 140737488355328) (hB : B ≤ w.heap.size) :
    ∃ v' w', (Builtin.append_ #[t, u] ty #[v, .string ⟨cs.toArray⟩]).run P w = .ok v' w' ∧ OwnB B w' v' (bs ++ cs) ∧ w.grownBy w' v.ownBlock := by
  have h63 : bs.length + cs.length ≤ maxLen := by unfold maxLen; omega
  have hcl := hown
  have hsz : (⟨cs.toArray⟩ : ByteArray).size = cs.length := by simp [ByteArray.size]
  have hsc : Lib.strCells ⟨cs.toArray⟩ = Lib.byteCells cs := rfl
  obtain ⟨g, cap, cur, fz, rfl, h1, h2, h3, h4, h5, h6, h7⟩ := hown
  by_cases hroom : bs.length + cs.length ≤ cap
  · have hf := Lib.run_firstCells_string (P := P) w 1 ⟨cs.toArray⟩
    rw [hsc, hsz] at hf
    have hst := put_cells P g bs.length 5 fz (Lib.byteCells cs) 0 cur w h2 h3 (by rw [Lib.byteCells_length]; omega) (bc_one cs)
    simp only [Nat.add_zero, Lib.byteCells_length] at hst
    refine ⟨_, _, ?_, own_room h1 h2 h3 h5 h6 h7 hroom, ⟨rfl, rfl, rfl, by simp, fun k _ hk => setRow_other w g k _ (fun e => hk (by simp [Value.ownBlock, e]))⟩⟩
    simp [Builtin.append_, run_underlying ht, run_underlying hu, sizeOf, typeInfo, hi, hsize, Builtin.lenOf, hsz, hroom, hf, Addr.add_lit, hst]
  · have holds := hcl.cells
    have hr := Lib.run_append_grow_string (P := P) w t u ty 5 i (.int .u8 0) ht hu hi hz ⟨g, 0, none⟩ bs.length cap (Lib.byteCells bs) (by rw [Lib.byteCells_length, hsize, Nat.mul_one]) holds ⟨cs.toArray⟩ (by rw [hsz]; omega) (by rw [hsz]; omega) (growslice_fits (by rw [hsz]; omega) (by rw [hsz, hby]; omega))
    rw [hsz, hsc] at hr
    exact ⟨_, _, hr, own_grown cap hB h63, ⟨rfl, rfl, rfl, by simp, fun k hk _ => Below.heap_alloc w.drew _ k hk⟩⟩

theorem wp_app (w : World) {o : Oper} {a : Act} {K : Act → World → Prop} {Q : Exit → Act → World → Prop} (s x : Operand) (t : TypeId)
    (ho : o.op = .call { callee := .builtin .append, args := #[s, x], argTypes := #[t, t] })
    (B : Nat) (i : TypeInfo) (ht : P.underlying t = some (.slice 5)) (hi : P.info? 5 = some i) (hz : i.zero = some (.int .u8 0)) (hsize : i.size = 1) (hby : i.bytes = 1)
    (v : Value) (bs cs : By) (hs : a.eval s = v) (hown : OwnB B w v bs) (ad : Addr) (c : Nat) (hx : a.eval x = .slice (some ad) cs.length c) (hnews : ∀ j u, (Lib.byteCells cs)[j]? = some u → w.cell? (ad.add j) = some u)
    (hb : bs.length + cs.length ≤ 140737488355328) (hB : B ≤ w.heap.size)
    (h : ∀ v' w', OwnB B w' v' (bs ++ cs) → w.grownBy w' v.ownBlock → K (a.put o.dst v') w') : o.wp P a w K Q := by
  obtain ⟨v', w', hr, h2, h3⟩ := run_app (P := P) w B t o.type i ht hi hz hsize hby v bs cs hown ad c hnews hb hB
  unfold Oper.wp execOp
  simp only [ho, resolve, invoke, builtin, Sem.run_bind, Sem.run_pure, Result.andThen_ok, List.map_toArray, List.map_cons, List.map_nil, hs, hx, hr]
  exact h v' w' h2 h3

theorem wpl_app (w : World) {ops : Array Oper} {rest : List Oper} {o : Oper} {a : Act} {Q : Exit → Act → World → Prop} (hgd : o.guard = none) (s x : Operand) (t : TypeId)
    (ho : o.op = .call { callee := .builtin .append, args := #[s, x], argTypes := #[t, t] })
    (B : Nat) (i : TypeInfo) (ht : P.underlying t = some (.slice 5)) (hi : P.info? 5 = some i) (hz : i.zero = some (.int .u8 0)) (hsize : i.size = 1) (hby : i.bytes = 1)
    (v : Value) (bs cs : By) (hs : a.eval s = v) (hown : OwnB B w v bs) (ad : Addr) (c : Nat) (hx : a.eval x = .slice (some ad) cs.length c) (hnews : ∀ j u, (Lib.byteCells cs)[j]? = some u → w.cell? (ad.add j) = some u)
    (hb : bs.length + cs.length ≤ 140737488355328) (hB : B ≤ w.heap.size)
    (h : ∀ v' w', OwnB B w' v' (bs ++ cs) → w.grownBy w' v.ownBlock → wpList P ops Q rest (a.put o.dst v') w') : wpList P ops Q (o :: rest) a w :=
  wpList_plain hgd fun _ hK => wp_app w s x t ho B i ht hi hz hsize hby v bs cs hs hown ad c hx hnews hb hB fun v' w' h2 h3 => hK _ _ (h v' w' h2 h3)

/-- At a step of a region that draws its order. -/
theorem step_app (w : World) {ops : Array Oper} {o : Oper} {a : Act} {K : Act → World → Prop} {Q : Exit → Act → World → Prop} {E : Prop} (hgd : o.guard = none) (s x : Operand) (t : TypeId)
    (ho : o.op = .call { callee := .builtin .append, args := #[s, x], argTypes := #[t, t] })
    (B : Nat) (i : TypeInfo) (ht : P.underlying t = some (.slice 5)) (hi : P.info? 5 = some i) (hz : i.zero = some (.int .u8 0)) (hsize : i.size = 1) (hby : i.bytes = 1)
    (v : Value) (bs cs : By) (hs : a.eval s = v) (hown : OwnB B w v bs) (ad : Addr) (c : Nat) (hx : a.eval x = .slice (some ad) cs.length c) (hnews : ∀ j u, (Lib.byteCells cs)[j]? = some u → w.cell? (ad.add j) = some u)
    (hb : bs.length + cs.length ≤ 140737488355328) (hB : B ≤ w.heap.size)
    (h : ∀ g m cap w', OwnB B w' (.slice (some ⟨g, 0, none⟩) m cap) (bs ++ cs) → w.grownBy w' v.ownBlock → K (a.put o.dst (.slice (some ⟨g, 0, none⟩) m cap)) w') :
    if Region.wanted o (yielded ops a.tmps) = true then Oper.wp P o a w K Q else E := by
  have hw : Region.wanted o (yielded ops a.tmps) = true := by simp [Region.wanted, hgd]
  rw [if_pos hw]
  refine wp_app w s x t ho B i ht hi hz hsize hby v bs cs hs hown ad c hx hnews hb hB fun v' w' h2 h3 => ?_
  obtain ⟨g, cap, rfl⟩ := h2.form
  exact h g _ cap w' h2 h3

theorem wpl_app_str (w : World) {ops : Array Oper} {rest : List Oper} {o : Oper} {a : Act} {Q : Exit → Act → World → Prop} (hgd : o.guard = none) (s x : Operand) (t u : TypeId)
    (ho : o.op = .call { callee := .builtin .append, args := #[s, x], argTypes := #[t, u] })
    (B : Nat) (i : TypeInfo) (ht : P.underlying t = some (.slice 5)) (hu : P.underlying u = some .string) (hi : P.info? 5 = some i) (hz : i.zero = some (.int .u8 0)) (hsize : i.size = 1) (hby : i.bytes = 1)
    (v : Value) (bs cs : By) (hs : a.eval s = v) (hown : OwnB B w v bs) (hx : a.eval x = .string ⟨cs.toArray⟩)
    (hb : bs.length + cs.length ≤ 140737488355328) (hB : B ≤ w.heap.size)
    (h : ∀ v' w', OwnB B w' v' (bs ++ cs) → w.grownBy w' v.ownBlock → wpList P ops Q rest (a.put o.dst v') w') : wpList P ops Q (o :: rest) a w :=
  wpList_plain hgd fun _ hK => by
    obtain ⟨v', w', hr, h2, h3⟩ := run_app_str (P := P) w B t u o.type i ht hu hi hz hsize hby v bs cs hown hb hB
    unfold Oper.wp execOp
    simp only [ho, resolve, invoke, builtin, Sem.run_bind, Sem.run_pure, Result.andThen_ok, List.map_toArray, List.map_cons, List.map_nil, hs, hx, hr]
    exact hK _ _ (h v' w' h2 h3)
end
end Go.Proofs.YtjjjdplgdlaihaaGreatDoor
