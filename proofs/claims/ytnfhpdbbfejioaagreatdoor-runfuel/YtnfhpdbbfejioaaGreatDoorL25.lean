/- Package run, walked: expressions: numbers, names, what is given, arrays made, how many. Package run, walked: expressions: arrays made, how many, marks of one. Package run, walked: expressions of two parts: an item. -/
import Derived.Test.YtnfhpdbbfejioaaGreatDoorL24
namespace Go.Proofs.YtnfhpdbbfejioaaGreatDoor
set_option linter.unusedVariables false
set_option linter.unusedSimpArgs false
open Go Go.RowKit
theorem gb_ne {α β : Type} {x : Go1 α} {f : α → Go1 β} {s : Sg} (h : ∀ out, gb x f s ≠ .error (99, out)) : (∀ out, x s ≠ .error (99, out)) ∧ ∀ a s1, x s = .ok (a, s1) → ∀ out, f a s1 ≠ .error (99, out) := by
  refine ⟨fun out e => h out ?_, fun a s1 e out e2 => h out ?_⟩
  · unfold gb; rw [e]
  · unfold gb; rw [e]; exact e2
theorem gb_o {α β : Type} {x : Go1 α} {f : α → Go1 β} {s s1 : Sg} {a : α} (h : x s = .ok (a, s1)) : gb x f s = f a s1 := by unfold gb; rw [h]
theorem gb_e {α β : Type} {x : Go1 α} {f : α → Go1 β} {s : Sg} {e : Int × List Int} (h : x s = .error e) : gb x f s = .error e := by unfold gb; rw [h]
theorem St.newX {w0 : World} {P : Nat} {fv : Value} {w : World} {r : Rs} {d : Nat} (h : St w0 P fv w r d) {b : Nat} (hb : w.heap.size ≤ b) : ¬ Xs P r b := by
  intro hx
  rcases hx with rfl | hx | hx
  · have := h.ltP; omega
  · obtain ⟨p, hp, rfl⟩ := List.mem_map.1 hx
    obtain ⟨j, hj⟩ := List.getElem?_of_mem hp
    obtain ⟨l, _, _, _, a4⟩ := h.arr j p.1 p.2 hj
    have := (Array.getElem?_eq_some_iff.1 a4).1
    omega
  · have := (h.out.lt b hx).2
    omega
theorem St.setL {w0 : World} {P : Nat} {fv : Value} {w : World} {r : Rs} {d : Nat} (h : St w0 P fv w r d) {B i : Nat} {v : Value} (hB : ¬ Xs P r B) (hB0 : w0.heap.size ≤ B) : St w0 P fv (w.setCell ⟨B, i, none⟩ v) r d := by
  have ho : ∀ b, b ≠ B → (w.setCell ⟨B, i, none⟩ v).heap[b]? = w.heap[b]? := fun b hb => heap_setCell_other _ _ _ _ hb
  have hsz : (w.setCell ⟨B, i, none⟩ v).heap.size = w.heap.size := by simp
  refine ⟨h.lt, by rw [hsz]; exact h.le, fun b h1 h2 => ?_, ?_, h.inp, own_at h.out (fun k hk => ho k (fun e => hB (.inr (.inr (e ▸ hk))))), h.apart, h.alen, fun k b n hk => ?_, h.lo, h.nd, h.few, h.told, h.deep⟩
  · rw [ho b (by omega)]; exact h.kp b h1 h2
  · rw [ho P (fun e => hB (.inl e.symm))]; exact h.pb
  · obtain ⟨l, a1, a2, a3, a4⟩ := h.arr k b n hk
    refine ⟨l, a1, a2, a3, ?_⟩
    rw [ho b (fun e => hB (.inr (.inl (e ▸ List.mem_map.2 ⟨(b, n), List.mem_of_getElem? hk, rfl⟩))))]
    exact a4
theorem Fz.setL {P : Nat} {E : Nat → Prop} {w w1 : World} {r r1 : Rs} (h : Fz P E w r w1 r1) {B i : Nat} {v : Value} (hB : w.heap.size ≤ B) : Fz P E w r (w1.setCell ⟨B, i, none⟩ v) r1 :=
  ⟨h.os, h.tape, h.output, by simp; exact h.size, fun b hb hx he => by rw [heap_setCell_other _ _ _ _ (by show b ≠ B; omega)]; exact h.blk b hb hx he, h.pre, h.new⟩
theorem EP.after {X : Cx} {w w1 : World} {r r1 : Rs} {d : Nat} {x : Except (Int × List Int) (Vl × Sg)} {e : Ending} {w' : World} (hf : Fz X.P NoE w r w1 r1) (h : EP X w1 r1 d x e w') : EP X w r d x e w' := by
  obtain ⟨r', h1, h2, h3⟩ := h
  exact ⟨r', h1, hf.trans h2, h3⟩
theorem ep_end {X : Cx} {w : World} {r : Rs} {d : Nat} {k : Int} (h : St X.w0 X.P X.fv w r d) : EP X w r d (.error (k, r.s.out)) (endE k) w := ⟨r, h, Fz.refl _ _ _ _, .inr ⟨k, _, rfl, rfl, [], rfl, fun z hz => by cases hz⟩⟩
/-- The program's block, when it was made ready. -/
def PbO (X : Cx) : Prop := ∃ ds, X.w0.heap[X.P]? = some (.cells ds 60)
theorem blk_on {w w' : World} {b : Nat} {o : Obj} (hb : Below w.heap.size w w') (h : w.heap[b]? = some o) : w'.heap[b]? = some o := by
  rw [hb.block b (Array.getElem?_eq_some_iff.1 h).1]; exact h
abbrev R0 : Obj := .cells #[.int .i64 0, .slice none 0 0] 248
theorem res248 {fn : Func} {p : Tmp} (h : fn.results = #[.cell p 248]) (tmps : Array Value) (w : World) (g : Nat) (a0 a1 : Value) (hp : tmps.getD p undef = .pointer (some ⟨g, 0, none⟩)) (hg : w.heap[g]? = some (.cells #[a0, a1] 248)) :
    (results fn tmps).run Tryz.prog w = .ok (.agg #[a0, a1]) w := by
  have h1 : (loadVar 248 ⟨g, 0, none⟩).run Tryz.prog w = .ok (.agg #[a0, a1]) w := run_loadVar_row w g 248 248 _ (0, 0) _ hg Tryz.underlying248 rfl (by kernel_rfl)
  rw [results_cell1 h, hp]
  simp [asAddr]
  exact h1
theorem set2 {w : World} {B : Nat} {a0 a1 x z : Value} (h : w.heap[B]? = some (.cells #[a0, a1] 248)) : ((w.setCell ⟨B, 0, none⟩ x).setCell ⟨B, 1, none⟩ z).heap[B]? = some (.cells #[x, z] 248) := heap_setCell_same _ _ _ _ _ _ (heap_setCell_same _ _ _ _ _ _ h)
/-- The result's cells stand. -/
theorem r0_kept {X : Cx} {w : World} {r : Rs} {d : Nat} {w1 : World} {r1 : Rs} (hs : St X.w0 X.P X.fv w r d) (hf : Fz X.P NoE (w.alloc R0) r w1 r1) : w1.heap[w.heap.size]? = some R0 ∧ ¬ Xs X.P r1 w.heap.size := by
  have hx := hs.newX (Nat.le_refl w.heap.size)
  refine ⟨by rw [hf.blk w.heap.size (by simp) hx (fun e => e)]; exact heap_alloc_last _ _, fun h => ?_⟩
  have := hf.new _ h hx
  simp at this
  omega
theorem fz_in {X : Cx} {w : World} {r : Rs} {w1 : World} {r1 : Rs} {A : Obj} (hf : Fz X.P NoE (w.alloc A) r w1 r1) : Fz X.P NoE w r w1 r1 := (Fz.below ((Below.refl _ _).alloc (Nat.le_refl _) A)).trans hf
/-- What is told is stored. -/
theorem ep_fin {X : Cx} {w : World} {r : Rs} {d : Nat} {w1 : World} {r1 : Rs} {y : Vl} {p : Option Addr} {l c : Nat} (hs : St X.w0 X.P X.fv w r d) (h1 : St X.w0 X.P X.fv w1 r1 d) (hf : Fz X.P NoE (w.alloc R0) r w1 r1) (hq : QvS r1.ab y.2 (.slice p l c)) :
    ((w1.setCell ⟨w.heap.size, 0, none⟩ (.int .i64 y.1)).setCell ⟨w.heap.size, 1, none⟩ (.slice p l c)).heap[w.heap.size]? = some (.cells #[.int .i64 y.1, .slice p l c] 248) ∧ EP X w r d (.ok (y, r1.s)) (.returned (vlA y.1 (.slice p l c))) ((w1.setCell ⟨w.heap.size, 0, none⟩ (.int .i64 y.1)).setCell ⟨w.heap.size, 1, none⟩ (.slice p l c)) := by
  obtain ⟨h2, h3⟩ := r0_kept hs hf
  refine ⟨set2 h2, r1, (h1.setL h3 hs.le).setL h3 hs.le, ?_, .inl ⟨y, p, l, c, rfl, rfl, hq⟩⟩
  exact ((fz_in hf).setL (Nat.le_refl _)).setL (Nat.le_refl _)
/-- A part ended the program. -/
theorem ep_err {X : Cx} {w : World} {r : Rs} {d : Nat} {w1 : World} {r1 : Rs} {k : Int} {out : List Int} {e : Ending} (h1 : St X.w0 X.P X.fv w1 r1 d) (hf : Fz X.P NoE (w.alloc R0) r w1 r1) (he : Ends9 r1 out k e) : EP X w r d (.error (k, out)) e w1 := ⟨r1, h1, fz_in hf, .inr ⟨k, out, rfl, he⟩⟩
theorem ev_1 (fs : By → Option Fun) (g d : Nat) (o : Own) (a n : Int) (nm op : By) (l r xs : Tr) : evE fs (g + 1) d o (nd 1 a n nm op l r xs) = gp (n, none) := by rw [evE_1]; simp
theorem ev_2 (fs : By → Option Fun) (g d : Nat) (o : Own) (a n : Int) (nm op : By) (l r xs : Tr) : evE fs (g + 1) d o (nd 2 a n nm op l r xs) = gp (own1 o nm) := by rw [evE_1]; simp
theorem ev_6 (fs : By → Option Fun) (g d : Nat) (o : Own) (a n : Int) (nm op : By) (l r xs : Tr) : evE fs (g + 1) d o (nd 6 a n nm op l r xs) = gb (evE fs g d o l) fun x => newG x.1 := by rw [evE_1]; simp
theorem ev_7 (fs : By → Option Fun) (g d : Nat) (o : Own) (a n : Int) (nm op : By) (l r xs : Tr) : evE fs (g + 1) d o (nd 7 a n nm op l r xs) = gb (evE fs g d o l) fun x => gb (lenG x.2) fun n => gp (n, none) := by rw [evE_1]; simp
theorem ev_9 (fs : By → Option Fun) (g d : Nat) (o : Own) (a n : Int) (nm op : By) (l r xs : Tr) : evE fs (g + 1) d o (nd 9 a n nm op l r xs) = gb takeG fun n => gp (n, none) := by rw [evE_1]; simp
set_option maxRecDepth 100000 in
set_option maxHeartbeats 1000000 in
theorem go_num {X : Cx} (hP : PbO X) {g bx : Nat} {a n : Int} {nm op : By} {l r xs : Tr} (hn : NodeC X.w0 bx 1 a n nm op) : GoE X (g + 1) (nd 1 a n nm op l r xs) (.func (.func 200) #[] #[ptr bx]) := by
  intro w r0 d M m o hs ho hne
  rw [ev_1]
  obtain ⟨b, vl, vr, vg, hb1, hb2⟩ := hn
  have h1 := hs.old hb1 hP (by decide)
  have h2 := hs.old hb2 hP (by decide)
  have c1 := cell_at (i := 0) h1 rfl
  have c2 := cell_at (i := 2) h2 rfl
  have HS : Hid (St X.w0 X.P X.fv w r0 d) := hs
  have z1 : bx < w.heap.size := (Array.getElem?_eq_some_iff.1 h1).1
  have z2 : b < w.heap.size := (Array.getElem?_eq_some_iff.1 h2).1
  refine ⟨200, _, rfl, ent200, ?_⟩
  show Calls Tryz.prog 200 #[.map (some M), ptr bx] w _
  generalize hG : EP X w r0 d (gp (n, none) r0.s) = G
  have HG : Hid (EP X w r0 d (gp (n, none) r0.s) = G) := hG
  clear hs ho hne hb1 hb2 h1 h2 hG
  go_enter Tryz.func200, Tryz.ntmps200
  go_wp2_with (go_at_call 196; refine (number_any _ _).mono ?_; rintro e w1 ⟨rfl, hb1⟩; have hcc := fun b o h => hb1.cell (p := ⟨b, o, none⟩) h; have hff := fun b o h => hb1.frozen (p := ⟨b, o, none⟩) h)
  obtain ⟨e1, e2⟩ := ep_fin (y := (n, none)) (p := none) (l := 0) (c := 0) HS.out ((HS.out.below ((Below.refl _ _).alloc (Nat.le_refl _) R0)).below hb1) (Fz.below hb1) rfl
  exact bodyPost_ret (res248 Tryz.results200 _ _ w.heap.size _ _ rfl e1) rfl (by rw [← HG.out]; exact e2)
theorem und71 : Tryz.prog.underlying 71 = some (.map 9 248) := by kernel_rfl
theorem zero248 (w : World) : (zeroValue 248).run Tryz.prog w = .ok (vlA 0 (.slice none 0 0)) w := by kernel_rfl
theorem QvS.form {ab : List (Nat × Nat)} {q : Option Nat} {v : Value} (h : QvS ab q v) : ∃ p l c, v = .slice p l c := by
  cases q with
  | none => exact ⟨_, _, _, h⟩
  | some i => obtain ⟨b, n, _, h2⟩ := h; exact ⟨_, _, _, h2⟩
theorem own_look {w : World} {M n : Nat} {ab : List (Nat × Nat)} {o : Own} (h : OwS w M n ab o) (nm : By) (hn : nm.length ≤ 1000000) : ∃ p l c, (Instr.lookup 71 (.map (some M)) (.string ⟨nm.toArray⟩) false).run Tryz.prog w = .ok (vlA (own1 o nm).1 (.slice p l c)) w ∧ QvS ab (own1 o nm).2 (.slice p l c) := by
  obtain ⟨f, h1, h2⟩ := h
  obtain ⟨q, e, hq⟩ := h2 nm
  obtain ⟨p, l, c, rfl⟩ := hq.form
  have := h1.look und71 (zero248 w) ⟨nm.toArray⟩ (by simpa [ByteArray.size] using hn)
  refine ⟨p, l, c, ?_, hq⟩
  rw [this]
  have e2 : (⟨nm.toArray⟩ : ByteArray).data.toList = nm := by simp
  rw [e2, e]
set_option maxRecDepth 100000 in
set_option maxHeartbeats 1000000 in
theorem go_name {X : Cx} (hP : PbO X) {g bx : Nat} {a n : Int} {nm op : By} {l r xs : Tr} (hn : NodeC X.w0 bx 2 a n nm op) (hnm : nm.length ≤ 1000000) : GoE X (g + 1) (nd 2 a n nm op l r xs) (.func (.func 189) #[] #[ptr bx]) := by
  intro w r0 d M m o hs ho hne
  rw [ev_2]
  obtain ⟨b, vl, vr, vg, hb1, hb2⟩ := hn
  have h1 := hs.old hb1 hP (by decide)
  have h2 := hs.old hb2 hP (by decide)
  have c1 := cell_at (i := 0) h1 rfl
  have c2 := cell_at (i := 3) h2 rfl
  have HS : Hid (St X.w0 X.P X.fv w r0 d) := hs
  have z1 : bx < w.heap.size := (Array.getElem?_eq_some_iff.1 h1).1
  have z2 : b < w.heap.size := (Array.getElem?_eq_some_iff.1 h2).1
  obtain ⟨f, hf1, hf2⟩ := ho
  obtain ⟨p, ll, c, hlk, hq⟩ := own_look ⟨f, hf1.kept (w' := w.alloc R0) (row_eq_alloc hf1.lt), hf2⟩ nm hnm
  obtain ⟨y, hy⟩ : ∃ y, y = own1 o nm := ⟨_, rfl⟩
  have HQ : Hid (QvS r0.ab y.2 (.slice p ll c)) := by rw [hy]; exact hq
  have HY : Hid (y = own1 o nm) := hy
  rw [← hy] at hlk
  refine ⟨189, _, rfl, ent189, ?_⟩
  show Calls Tryz.prog 189 #[.map (some M), ptr bx] w _
  generalize hG : EP X w r0 d (gp (own1 o nm) r0.s) = G
  have HG : Hid (EP X w r0 d (gp (own1 o nm) r0.s) = G) := hG
  obtain ⟨ys, hys⟩ : ∃ ys : ByteArray, ys = ⟨nm.toArray⟩ := ⟨_, rfl⟩
  have c2' : w.cell? ⟨b, 3, none⟩ = some (.string ys) := by rw [c2, hys]; rfl
  rw [← hys] at hlk
  clear hs hne hb1 hb2 h1 h2 hG hf1 hf2 hq hy c2 hys
  go_enter Tryz.func189, Tryz.ntmps189
  go_wp2
  refine bodyPost_ret (res248 Tryz.results189 _ _ w.heap.size _ _ rfl (heap_alloc_last _ _)) rfl ?_
  have hb : Below w.heap.size w (w.alloc (.cells #[.int .i64 y.1, .slice p ll c] 248)) := (Below.refl _ _).alloc (Nat.le_refl _) _
  rw [← HG.out]
  exact ⟨r0, HS.out.below hb, Fz.below hb, .inl ⟨y, p, ll, c, by rw [HY.out]; rfl, rfl, HQ.out⟩⟩
set_option maxRecDepth 100000 in
set_option maxHeartbeats 1000000 in
theorem go_input {X : Cx} (hP : PbO X) {g bp : Nat} {a n : Int} {nm op : By} {l r xs : Tr} (hb : X.w0.heap[bp]? = some (.cells #[ptr X.P] 57)) : GoE X (g + 1) (nd 9 a n nm op l r xs) (.func (.func 198) #[] #[ptr bp]) := by
  intro w r0 d M m o hs ho hne
  rw [ev_9]
  have h1 := hs.old hb hP (by decide)
  have c1 := cell_at (i := 0) h1 rfl
  have HS : Hid (St X.w0 X.P X.fv w r0 d) := hs
  have z1 : bp < w.heap.size := (Array.getElem?_eq_some_iff.1 h1).1
  refine ⟨198, _, rfl, ent198, ?_⟩
  show Calls Tryz.prog 198 #[.map (some M), ptr bp] w _
  generalize hG : EP X w r0 d (gb takeG (fun n => gp (n, none)) r0.s) = G
  have HG : Hid (EP X w r0 d (gb takeG (fun n => gp (n, none)) r0.s) = G) := hG
  clear hs ho hne hb h1 hG
  go_enter Tryz.func198, Tryz.ntmps198
  go_wp2_with (go_at_call 199; fail)
  refine (take_any X _ r0 d (HS.out.below ((Below.refl _ _).alloc (Nat.le_refl _) R0))).mono ?_
  obtain ⟨z, hz⟩ : ∃ z, z = r0.s.inp.headD 0 := ⟨_, rfl⟩
  have HZ : Hid (z = r0.s.inp.headD 0) := hz
  rintro e w1 ⟨iv, he, h1, hf⟩
  rw [← hz] at he
  subst he
  clear hz
  have HF : Hid (St X.w0 X.P X.fv w1 (r0.take1 iv) d ∧ Fz X.P NoE (w.alloc R0) r0 w1 (r0.take1 iv)) := ⟨h1, hf⟩
  have hk := (r0_kept HS.out hf).1
  clear h1 hf
  go_wp2_with (go_at_call 196; fail)
  refine (number_any _ _).mono ?_
  rintro e w2 ⟨rfl, hb2⟩
  have hk2 := blk_on hb2 hk
  have a1 := cell_at (i := 0) hk2 rfl
  have a2 := cell_at (i := 1) hk2 rfl
  have a3 := row_free hk2 0
  have a4 := row_free hk2 1
  have HF2 : Hid (St X.w0 X.P X.fv w2 (r0.take1 iv) d ∧ Fz X.P NoE (w.alloc R0) r0 w2 (r0.take1 iv)) := ⟨HF.out.1.below hb2, HF.out.2.trans (Fz.below hb2)⟩
  clear hk hb2 hk2
  go_wp2
  obtain ⟨e1, e2⟩ := ep_fin (y := (z, none)) (p := none) (l := 0) (c := 0) HS.out HF2.out.1 HF2.out.2 rfl
  refine bodyPost_ret (res248 Tryz.results198 _ _ w.heap.size _ _ rfl e1) rfl ?_
  rw [← HG.out]
  have : gb takeG (fun n => gp ((n, none) : Vl)) r0.s = .ok ((z, none), (r0.take1 iv).s) := by rw [HZ.out]; rfl
  rw [this]
  exact e2
theorem fv0 (n : Int) (p : Option Addr) (l c : Nat) (W : World) : (Instr.field 248 (vlA n (.slice p l c)) 0).run Tryz.prog W = .ok (.int .i64 n) W := by kernel_rfl
theorem fv1 (n : Int) (p : Option Addr) (l c : Nat) (W : World) : (Instr.field 248 (vlA n (.slice p l c)) 1).run Tryz.prog W = .ok (.slice p l c) W := by kernel_rfl
theorem al_bel (w : World) (A : Obj) : Below w.heap.size w (w.alloc A) := (Below.refl _ _).alloc (Nat.le_refl _) A
theorem OwS.below {w w' : World} {M n : Nat} {ab : List (Nat × Nat)} {o : Own} (h : OwS w M n ab o) (hb : Below w.heap.size w w') : OwS w' M n ab o := by
  obtain ⟨f, h1, h2⟩ := h
  exact ⟨f, h1.kept (hb.block M h1.lt), h2⟩
/-- A part is reckoned behind the result's cells were laid. -/
theorem sub_in {X : Cx} {g : Nat} {t : Tr} {v : Value} {w : World} {r : Rs} {d M n : Nat} {o : Own} (hE : GoE X g t v) (hs : St X.w0 X.P X.fv w r d) (ho : OwS w M n r.ab o) (hne : ∀ out, evE X.fs g d o t r.s ≠ .error (99, out)) : Cal v M (w.alloc R0) (EP X (w.alloc R0) r d (evE X.fs g d o t r.s)) := hE _ r d M n o (hs.below (al_bel w R0)) (ho.below (al_bel w R0)) hne
/-- An array is made. -/
def Rs.new1 (r : Rs) (b : Nat) (n : Nat) : Rs := { r with ab := r.ab ++ [(b, n)], s := { r.s with hp := r.s.hp ++ [List.replicate n 0] } }
theorem St.newA {w0 : World} {P : Nat} {fv : Value} {w : World} {r : Rs} {d : Nat} (h : St w0 P fv w r d) {n : Nat} (hn : n ≤ 40) : St w0 P fv (w.alloc (.cells (ints (List.replicate n 0)).toArray 2)) (r.new1 w.heap.size n) d ∧ Fz P NoE w r (w.alloc (.cells (ints (List.replicate n 0)).toArray 2)) (r.new1 w.heap.size n) := by
  have hb := al_bel w (.cells (ints (List.replicate n 0)).toArray 2)
  have h' := h.below hb
  have hX := h.newX (Nat.le_refl w.heap.size)
  have hmap : (r.new1 w.heap.size n).ab.map (·.1) = r.ab.map (·.1) ++ [w.heap.size] := by simp [Rs.new1]
  refine ⟨⟨h'.lt, h'.le, h'.kp, h'.pb, h'.inp, h'.out, ?_, ?_, ?_, ?_, ?_, h'.few, h'.told, h'.deep⟩, ⟨hb.os, hb.tape, hb.output, hb.size, fun b h1 _ _ => hb.block b h1, ⟨[(w.heap.size, n)], rfl⟩, ?_⟩⟩
  · intro i hi hm
    rw [hmap] at hm
    rcases List.mem_append.1 hm with hm | hm
    · exact h.apart i hi hm
    · rw [List.mem_singleton] at hm
      subst hm
      exact hX (.inr (.inr hi))
  · show (r.ab ++ _).length = (r.s.hp ++ _).length
    simp [h.alen]
  · intro i b k hi
    have hi' : (r.ab ++ [(w.heap.size, n)])[i]? = some (b, k) := hi
    show ∃ l, (r.s.hp ++ [List.replicate n 0])[i]? = some l ∧ _
    rcases Nat.lt_or_ge i r.ab.length with hlt | hge
    · rw [List.getElem?_append_left hlt] at hi'
      obtain ⟨l, a1, a2, a3, a4⟩ := h'.arr i b k hi'
      exact ⟨l, by rw [List.getElem?_append_left (by rw [← h.alen]; exact hlt)]; exact a1, a2, a3, a4⟩
    · rw [List.getElem?_append_right hge] at hi'
      have e0 : i - r.ab.length = 0 := by
        rcases Nat.eq_zero_or_pos (i - r.ab.length) with e | e
        · exact e
        · rw [List.getElem?_eq_none (by simp; omega)] at hi'; cases hi'
      rw [e0] at hi'
      have e1 : (w.heap.size, n) = (b, k) := by simpa using hi'
      injection e1 with e1 e2
      subst e1
      subst e2
      refine ⟨List.replicate n 0, ?_, by simp, hn, heap_alloc_last _ _⟩
      rw [List.getElem?_append_right (by rw [← h.alen]; exact hge), ← h.alen, e0]
      rfl
  · intro b hm
    rw [hmap] at hm
    rcases List.mem_append.1 hm with hm | hm
    · exact h.lo b hm
    · rw [List.mem_singleton] at hm
      subst hm
      exact h.le
  · rw [hmap]
    refine List.nodup_append.2 ⟨h.nd, by simp, fun a ha b hb e => ?_⟩
    rw [List.mem_singleton] at hb
    subst hb
    subst e
    exact hX (.inr (.inl ha))
  · intro b hx hnx
    rcases hx with hx | hx | hx
    · exact absurd (.inl hx) hnx
    · rw [hmap] at hx
      rcases List.mem_append.1 hx with hx | hx
      · exact absurd (.inr (.inl hx)) hnx
      · rw [List.mem_singleton] at hx
        omega
    · exact absurd (.inr (.inr hx)) hnx
theorem new_er {n : Int} {s : Sg} (h : n < 0 ∨ 40 < n) : newG n s = .error (4, s.out) := if_pos h
theorem new_ok {n : Int} {s : Sg} (h : 0 ≤ n ∧ n ≤ 40) : newG n s = .ok ((0, some s.hp.length), { s with hp := s.hp ++ [List.replicate n.toNat 0] }) := if_neg (by omega)
set_option maxRecDepth 100000 in
set_option maxHeartbeats 1000000 in
theorem go_new {X : Cx} (hP : PbO X) {g bl : Nat} {a n : Int} {nm op : By} {l r xs : Tr} {vl : Value} (hb : X.w0.heap[bl]? = some (.cells #[vl] 245)) (hl : GoE X g l vl) : GoE X (g + 1) (nd 6 a n nm op l r xs) (.func (.func 193) #[] #[ptr bl]) := by
  intro w r0 d M m o hs ho hne
  rw [ev_6] at hne ⊢
  have h1 := hs.old hb hP (by decide)
  have c1 := cell_at (i := 0) h1 rfl
  have HS : Hid (St X.w0 X.P X.fv w r0 d) := hs
  have z1 : bl < w.heap.size := (Array.getElem?_eq_some_iff.1 h1).1
  obtain ⟨k, cap, rfl, hen, hc⟩ := sub_in hl hs ho (gb_ne hne).1
  have HC : Hid (Calls Tryz.prog k (#[.map (some M)] ++ cap) (w.alloc R0) (EP X (w.alloc R0) r0 d (evE X.fs g d o l r0.s))) := hc
  have hen' : ∀ (args : Array Value) (w : World), (callFunc k args).run Tryz.prog w = .ok (.enter k args) w := hen
  refine ⟨193, _, rfl, ent193, ?_⟩
  show Calls Tryz.prog 193 #[.map (some M), ptr bl] w _
  generalize hG : EP X w r0 d (gb (evE X.fs g d o l) (fun x => newG x.1) r0.s) = G
  have HG : Hid (EP X w r0 d (gb (evE X.fs g d o l) (fun x => newG x.1) r0.s) = G) := hG
  clear hs ho hne hb h1 hG hc hl hen
  have hf0 := fv0
  go_enter Tryz.func193, Tryz.ntmps193
  go_wp2
  refine HC.out.mono ?_
  rintro e w1 ⟨r1, h1, hf, ⟨y, p, ll, c, hx, rfl, hq⟩ | ⟨k9, out, hx, he9⟩⟩
  rotate_left
  · obtain ⟨_, older, rfl, _⟩ := id he9
    refine ⟨rfl, ?_⟩
    rw [← HG.out, gb_e hx]
    exact ep_err h1 hf he9
  have HF : Hid (St X.w0 X.P X.fv w1 r1 d ∧ Fz X.P NoE (w.alloc R0) r0 w1 r1) := ⟨h1, hf⟩
  have HX : Hid (evE X.fs g d o l r0.s = .ok (y, r1.s)) := hx
  clear h1 hf hx hq
  go_wp2_with (go_at_call 194; fail)
  refine (array_any _ _).mono ?_
  rintro e w2 (⟨hn, rfl, rfl⟩ | ⟨hn1, hn2, rfl, hw2⟩)
  · refine ⟨rfl, ?_⟩
    rw [← HG.out, gb_o HX.out, new_er hn]
    exact EP.after (fz_in HF.out.2) (ep_end HF.out.1)
  · obtain ⟨a1, a2⟩ := HF.out.1.newA (n := y.1.toNat) (by omega)
    rw [← hw2] at a1 a2
    have HF2 : Hid (St X.w0 X.P X.fv w2 (r1.new1 w1.heap.size y.1.toNat) d ∧ Fz X.P NoE (w.alloc R0) r0 w2 (r1.new1 w1.heap.size y.1.toNat)) := ⟨a1, HF.out.2.trans a2⟩
    have hk2 := (r0_kept HS.out HF2.out.2).1
    have b1 := cell_at (i := 0) hk2 rfl
    have b2 := cell_at (i := 1) hk2 rfl
    have b3 := row_free hk2 0
    have b4 := row_free hk2 1
    have HY : Hid (0 ≤ y.1 ∧ y.1 ≤ 40) := ⟨hn1, hn2⟩
    obtain ⟨m2, hm2⟩ : ∃ m2, m2 = y.1.toNat := ⟨_, rfl⟩
    have HM2 : Hid (m2 = y.1.toNat) := hm2
    rw [← hm2]
    obtain ⟨B2, hB2⟩ : ∃ B2, B2 = w1.heap.size := ⟨_, rfl⟩
    have HB2 : Hid (B2 = w1.heap.size) := hB2
    rw [← hB2]
    clear a1 a2 hw2 hk2 hn1 hn2 hm2 hB2
    go_wp2
    have hal := HF.out.1.alen
    obtain ⟨e1, e2⟩ := ep_fin (y := (0, some r1.s.hp.length)) (p := some ⟨B2, 0, none⟩) (l := m2) (c := m2) HS.out HF2.out.1 HF2.out.2 ⟨w1.heap.size, y.1.toNat, by show (r1.ab ++ _)[r1.s.hp.length]? = _; rw [← hal]; simp, by rw [HM2.out, HB2.out]⟩
    refine bodyPost_ret (res248 Tryz.results193 _ _ w.heap.size _ _ rfl e1) rfl ?_
    rw [← HG.out, gb_o HX.out, new_ok HY.out]
    exact e2
theorem ev_4 (fs : By → Option Fun) (g d : Nat) (o : Own) (a n : Int) (nm op : By) (l r xs : Tr) : evE fs (g + 1) d o (nd 4 a n nm op l r xs) = gb (evE fs g d o l) fun x => gp (if op = [45] then wrap64 (-x.1) else tr01 (decide (x.1 = 0)), none) := by rw [evE_1]; simp
theorem truth_t (b : Bool) (w : World) : Calls Tryz.prog 223 #[.bool b] w fun e w' => e = .returned (.int .i64 (tr01 b)) ∧ w' = w := truth_any b w
theorem arr_len {w0 : World} {P : Nat} {fv : Value} {w : World} {r : Rs} {d : Nat} (h : St w0 P fv w r d) {q : Option Nat} {p : Option Addr} {l c : Nat} (hq : QvS r.ab q (.slice p l c)) : (arrOf r.s q).length = l := by
  cases q with
  | none =>
    injection hq with _ h2 _
    rw [h2]
    rfl
  | some i =>
    obtain ⟨b, n, h1, h2⟩ := hq
    injection h2 with _ h3 _
    obtain ⟨li, a1, a2, _, _⟩ := h.arr i b n h1
    show (r.s.hp.getD i []).length = l
    rw [List.getD_eq_getElem?_getD, a1, h3]
    exact a2
theorem arr_few {w0 : World} {P : Nat} {fv : Value} {w : World} {r : Rs} {d : Nat} (h : St w0 P fv w r d) {q : Option Nat} {p : Option Addr} {l c : Nat} (hq : QvS r.ab q (.slice p l c)) : l ≤ 40 := by
  cases q with
  | none =>
    injection hq with _ h2 _
    omega
  | some i =>
    obtain ⟨b, n, h1, h2⟩ := hq
    injection h2 with _ h3 _
    obtain ⟨li, _, _, a3, _⟩ := h.arr i b n h1
    omega
set_option maxRecDepth 100000 in
set_option maxHeartbeats 1000000 in
theorem go_len {X : Cx} (hP : PbO X) {g bl : Nat} {a n : Int} {nm op : By} {l r xs : Tr} {vl : Value} (hb : X.w0.heap[bl]? = some (.cells #[vl] 245)) (hl : GoE X g l vl) : GoE X (g + 1) (nd 7 a n nm op l r xs) (.func (.func 195) #[] #[ptr bl]) := by
  intro w r0 d M m o hs ho hne
  rw [ev_7] at hne ⊢
  have h1 := hs.old hb hP (by decide)
  have c1 := cell_at (i := 0) h1 rfl
  have HS : Hid (St X.w0 X.P X.fv w r0 d) := hs
  have z1 : bl < w.heap.size := (Array.getElem?_eq_some_iff.1 h1).1
  obtain ⟨k, cap, rfl, hen, hc⟩ := sub_in hl hs ho (gb_ne hne).1
  have HC : Hid (Calls Tryz.prog k (#[.map (some M)] ++ cap) (w.alloc R0) (EP X (w.alloc R0) r0 d (evE X.fs g d o l r0.s))) := hc
  have hen' : ∀ (args : Array Value) (w : World), (callFunc k args).run Tryz.prog w = .ok (.enter k args) w := hen
  refine ⟨195, _, rfl, ent195, ?_⟩
  show Calls Tryz.prog 195 #[.map (some M), ptr bl] w _
  generalize hG : EP X w r0 d (gb (evE X.fs g d o l) (fun x => gb (lenG x.2) fun n => gp (n, none)) r0.s) = G
  have HG : Hid (EP X w r0 d (gb (evE X.fs g d o l) (fun x => gb (lenG x.2) fun n => gp (n, none)) r0.s) = G) := hG
  clear hs ho hne hb h1 hG hc hl hen
  have hf0 := fv0
  have hf1 := fv1
  go_enter Tryz.func195, Tryz.ntmps195
  go_wp2
  refine HC.out.mono ?_
  rintro e w1 ⟨r1, h1, hf, ⟨y, p, ll, c, hx, rfl, hq⟩ | ⟨k9, out, hx, he9⟩⟩
  rotate_left
  · obtain ⟨_, older, rfl, _⟩ := id he9
    refine ⟨rfl, ?_⟩
    rw [← HG.out, gb_e hx]
    exact ep_err h1 hf he9
  have HF : Hid (St X.w0 X.P X.fv w1 r1 d ∧ Fz X.P NoE (w.alloc R0) r0 w1 r1) := ⟨h1, hf⟩
  have HX : Hid (evE X.fs g d o l r0.s = .ok (y, r1.s)) := hx
  have HQ : Hid (QvS r1.ab y.2 (.slice p ll c)) := hq
  have hk := (r0_kept HS.out hf).1
  clear h1 hf hx hq
  have hlen := arr_len HF.out.1 HQ.out
  have h40 := arr_few HF.out.1 HQ.out
  have HL : Hid ((arrOf r1.s y.2).length = ll) := hlen
  clear hlen
  go_wp2_with (go_at_call 196; fail)
  refine (number_any _ _).mono ?_
  rintro e w2 ⟨rfl, hb2⟩
  have hk2 := blk_on hb2 hk
  have b1 := cell_at (i := 0) hk2 rfl
  have b2 := cell_at (i := 1) hk2 rfl
  have b3 := row_free hk2 0
  have b4 := row_free hk2 1
  have HF2 : Hid (St X.w0 X.P X.fv w2 r1 d ∧ Fz X.P NoE (w.alloc R0) r0 w2 r1) := ⟨HF.out.1.below hb2, HF.out.2.trans (Fz.below hb2)⟩
  clear hk hb2 hk2
  go_wp2
  obtain ⟨e1, e2⟩ := ep_fin (y := ((ll : Int), none)) (p := none) (l := 0) (c := 0) HS.out HF2.out.1 HF2.out.2 rfl
  refine bodyPost_ret (res248 Tryz.results195 _ _ w.heap.size _ _ rfl e1) rfl ?_
  rw [← HG.out, gb_o HX.out]
  have : gb (lenG y.2) (fun n => gp ((n, none) : Vl)) r1.s = .ok (((ll : Int), none), r1.s) := by
    show Except.ok ((((arrOf r1.s y.2).length : Int), none), r1.s) = _
    rw [HL.out]
  rw [this]
  exact e2
set_option maxRecDepth 100000 in
set_option maxHeartbeats 1000000 in
theorem go_neg {X : Cx} (hP : PbO X) {g bl : Nat} {a n : Int} {nm op : By} {l r xs : Tr} {vl : Value} (hop : op = [45]) (hb : X.w0.heap[bl]? = some (.cells #[vl] 245)) (hl : GoE X g l vl) : GoE X (g + 1) (nd 4 a n nm op l r xs) (.func (.func 227) #[] #[ptr bl]) := by
  intro w r0 d M m o hs ho hne
  rw [ev_4] at hne ⊢
  have h1 := hs.old hb hP (by decide)
  have c1 := cell_at (i := 0) h1 rfl
  have HS : Hid (St X.w0 X.P X.fv w r0 d) := hs
  have z1 : bl < w.heap.size := (Array.getElem?_eq_some_iff.1 h1).1
  obtain ⟨k, cap, rfl, hen, hc⟩ := sub_in hl hs ho (gb_ne hne).1
  have HC : Hid (Calls Tryz.prog k (#[.map (some M)] ++ cap) (w.alloc R0) (EP X (w.alloc R0) r0 d (evE X.fs g d o l r0.s))) := hc
  have hen' : ∀ (args : Array Value) (w : World), (callFunc k args).run Tryz.prog w = .ok (.enter k args) w := hen
  refine ⟨227, _, rfl, ent227, ?_⟩
  show Calls Tryz.prog 227 #[.map (some M), ptr bl] w _
  generalize hG : EP X w r0 d (gb (evE X.fs g d o l) (fun x => gp (if op = [45] then wrap64 (-x.1) else tr01 (decide (x.1 = 0)), none)) r0.s) = G
  have HG : Hid (EP X w r0 d (gb (evE X.fs g d o l) (fun x => gp (if op = [45] then wrap64 (-x.1) else tr01 (decide (x.1 = 0)), none)) r0.s) = G) := hG
  clear hs ho hne hb h1 hG hc hl hen
  have hf0 := fv0
  have hf1 := fv1
  go_enter Tryz.func227, Tryz.ntmps227
  go_wp2
  refine HC.out.mono ?_
  rintro e w1 ⟨r1, h1, hf, ⟨y, p, ll, c, hx, rfl, hq⟩ | ⟨k9, out, hx, he9⟩⟩
  rotate_left
  · obtain ⟨_, older, rfl, _⟩ := id he9
    refine ⟨rfl, ?_⟩
    rw [← HG.out, gb_e hx]
    exact ep_err h1 hf he9
  have HF : Hid (St X.w0 X.P X.fv w1 r1 d ∧ Fz X.P NoE (w.alloc R0) r0 w1 r1) := ⟨h1, hf⟩
  have HX : Hid (evE X.fs g d o l r0.s = .ok (y, r1.s)) := hx
  have HQ : Hid (QvS r1.ab y.2 (.slice p ll c)) := hq
  have hk := (r0_kept HS.out hf).1
  clear h1 hf hx hq
  go_wp2_with (go_at_call 196; fail)
  refine (number_any _ _).mono ?_
  rintro e w2 ⟨rfl, hb2⟩
  have hk2 := blk_on hb2 hk
  have b1 := cell_at (i := 0) hk2 rfl
  have b2 := cell_at (i := 1) hk2 rfl
  have b3 := row_free hk2 0
  have b4 := row_free hk2 1
  have HF2 : Hid (St X.w0 X.P X.fv w2 r1 d ∧ Fz X.P NoE (w.alloc R0) r0 w2 r1) := ⟨HF.out.1.below hb2, HF.out.2.trans (Fz.below hb2)⟩
  clear hk hb2 hk2
  go_wp2
  obtain ⟨e1, e2⟩ := ep_fin (y := (wrap64 (-y.1), none)) (p := none) (l := 0) (c := 0) HS.out HF2.out.1 HF2.out.2 rfl
  refine bodyPost_ret (res248 Tryz.results227 _ _ w.heap.size _ _ rfl e1) rfl ?_
  rw [← HG.out, gb_o HX.out]
  rw [if_pos hop]
  exact e2
set_option maxRecDepth 100000 in
set_option maxHeartbeats 1000000 in
theorem go_not {X : Cx} (hP : PbO X) {g bl : Nat} {a n : Int} {nm op : By} {l r xs : Tr} {vl : Value} (hop : op ≠ [45]) (hb : X.w0.heap[bl]? = some (.cells #[vl] 245)) (hl : GoE X g l vl) : GoE X (g + 1) (nd 4 a n nm op l r xs) (.func (.func 228) #[] #[ptr bl]) := by
  intro w r0 d M m o hs ho hne
  rw [ev_4] at hne ⊢
  have h1 := hs.old hb hP (by decide)
  have c1 := cell_at (i := 0) h1 rfl
  have HS : Hid (St X.w0 X.P X.fv w r0 d) := hs
  have z1 : bl < w.heap.size := (Array.getElem?_eq_some_iff.1 h1).1
  obtain ⟨k, cap, rfl, hen, hc⟩ := sub_in hl hs ho (gb_ne hne).1
  have HC : Hid (Calls Tryz.prog k (#[.map (some M)] ++ cap) (w.alloc R0) (EP X (w.alloc R0) r0 d (evE X.fs g d o l r0.s))) := hc
  have hen' : ∀ (args : Array Value) (w : World), (callFunc k args).run Tryz.prog w = .ok (.enter k args) w := hen
  refine ⟨228, _, rfl, ent228, ?_⟩
  show Calls Tryz.prog 228 #[.map (some M), ptr bl] w _
  generalize hG : EP X w r0 d (gb (evE X.fs g d o l) (fun x => gp (if op = [45] then wrap64 (-x.1) else tr01 (decide (x.1 = 0)), none)) r0.s) = G
  have HG : Hid (EP X w r0 d (gb (evE X.fs g d o l) (fun x => gp (if op = [45] then wrap64 (-x.1) else tr01 (decide (x.1 = 0)), none)) r0.s) = G) := hG
  clear hs ho hne hb h1 hG hc hl hen
  have hf0 := fv0
  have hf1 := fv1
  go_enter Tryz.func228, Tryz.ntmps228
  go_wp2
  refine HC.out.mono ?_
  rintro e w1 ⟨r1, h1, hf, ⟨y, p, ll, c, hx, rfl, hq⟩ | ⟨k9, out, hx, he9⟩⟩
  rotate_left
  · obtain ⟨_, older, rfl, _⟩ := id he9
    refine ⟨rfl, ?_⟩
    rw [← HG.out, gb_e hx]
    exact ep_err h1 hf he9
  have HF : Hid (St X.w0 X.P X.fv w1 r1 d ∧ Fz X.P NoE (w.alloc R0) r0 w1 r1) := ⟨h1, hf⟩
  have HX : Hid (evE X.fs g d o l r0.s = .ok (y, r1.s)) := hx
  have HQ : Hid (QvS r1.ab y.2 (.slice p ll c)) := hq
  have hk := (r0_kept HS.out hf).1
  clear h1 hf hx hq
  go_wp2_with (go_at_call 223; fail)
  refine (truth_t _ _).mono ?_
  rintro e w' ⟨rfl, rfl⟩
  go_wp2_with (go_at_call 196; fail)
  refine (number_any _ _).mono ?_
  rintro e w2 ⟨rfl, hb2⟩
  have hk2 := blk_on hb2 hk
  have b1 := cell_at (i := 0) hk2 rfl
  have b2 := cell_at (i := 1) hk2 rfl
  have b3 := row_free hk2 0
  have b4 := row_free hk2 1
  have HF2 : Hid (St X.w0 X.P X.fv w2 r1 d ∧ Fz X.P NoE (w.alloc R0) r0 w2 r1) := ⟨HF.out.1.below hb2, HF.out.2.trans (Fz.below hb2)⟩
  clear hk hb2 hk2
  go_wp2
  obtain ⟨e1, e2⟩ := ep_fin (y := (tr01 (y.1 == 0), none)) (p := none) (l := 0) (c := 0) HS.out HF2.out.1 HF2.out.2 rfl
  refine bodyPost_ret (res248 Tryz.results228 _ _ w.heap.size _ _ rfl e1) rfl ?_
  rw [← HG.out, gb_o HX.out]
  rw [if_neg hop, show decide (y.1 = 0) = (y.1 == 0) by simp [Bool.beq_eq_decide_eq]]
  exact e2
theorem ev_8 (fs : By → Option Fun) (g d : Nat) (o : Own) (a n : Int) (nm op : By) (l r xs : Tr) : evE fs (g + 1) d o (nd 8 a n nm op l r xs) = gb (evE fs g d o l) fun x => gb (evE fs g d o r) fun y => gb (itemG x.2 y.1) fun n => gp (n, none) := by rw [evE_1]; simp
theorem ev_3a (fs : By → Option Fun) (g d : Nat) (o : Own) (a n : Int) (nm op : By) (l r xs : Tr) (h : op = [38, 38]) : evE fs (g + 1) d o (nd 3 a n nm op l r xs) = gb (evE fs g d o l) fun x => if x.1 = 0 then gp (0, none) else gb (evE fs g d o r) fun y => gp (tr01 (decide (y.1 ≠ 0)), none) := by rw [evE_1]; simp [h]
theorem ev_3o (fs : By → Option Fun) (g d : Nat) (o : Own) (a n : Int) (nm op : By) (l r xs : Tr) (h : op = [124, 124]) : evE fs (g + 1) d o (nd 3 a n nm op l r xs) = gb (evE fs g d o l) fun x => if x.1 ≠ 0 then gp (1, none) else gb (evE fs g d o r) fun y => gp (tr01 (decide (y.1 ≠ 0)), none) := by rw [evE_1]; simp [h]
theorem ev_3 (fs : By → Option Fun) (g d : Nat) (o : Own) (a n : Int) (nm op : By) (l r xs : Tr) (h1 : op ≠ [38, 38]) (h2 : op ≠ [124, 124]) : evE fs (g + 1) d o (nd 3 a n nm op l r xs) = gb (evE fs g d o l) fun x => gb (evE fs g d o r) fun y => gb (bothG op x.1 y.1) fun z => gp (z, none) := by rw [evE_1]; simp [h1, h2]
set_option maxRecDepth 100000 in
set_option maxHeartbeats 2000000 in
theorem go_item {X : Cx} (hP : PbO X) {g bl br : Nat} {a n : Int} {nm op : By} {l r xs : Tr} {vl vr : Value} (hb : X.w0.heap[bl]? = some (.cells #[vl] 245)) (hb' : X.w0.heap[br]? = some (.cells #[vr] 245)) (hl : GoE X g l vl) (hr : GoE X g r vr) : GoE X (g + 1) (nd 8 a n nm op l r xs) (.func (.func 197) #[] #[ptr bl, ptr br]) := by
  intro w r0 d M m o hs ho hne
  rw [ev_8] at hne ⊢
  have h1 := hs.old hb hP (by decide)
  have c1 := cell_at (i := 0) h1 rfl
  have HS : Hid (St X.w0 X.P X.fv w r0 d) := hs
  have HO : Hid (OwS (w.alloc R0) M m r0.ab o) := ho.below (al_bel w R0)
  have z1 : bl < w.heap.size := (Array.getElem?_eq_some_iff.1 h1).1
  have HNe : Hid (∀ y s1, evE X.fs g d o l r0.s = .ok (y, s1) → ∀ out, (fun x => gb (evE X.fs g d o r) fun y => gb (itemG x.2 y.1) fun n => gp (n, none)) y s1 ≠ .error (99, out)) := (gb_ne hne).2
  have HP : Hid (PbO X) := hP
  have HBr : Hid (X.w0.heap[br]? = some (.cells #[vr] 245)) := hb'
  have HR : Hid (GoE X g r vr) := hr
  obtain ⟨k, cap, rfl, hen, hc⟩ := sub_in hl hs ho (gb_ne hne).1
  have HC : Hid (Calls Tryz.prog k (#[.map (some M)] ++ cap) (w.alloc R0) (EP X (w.alloc R0) r0 d (evE X.fs g d o l r0.s))) := hc
  have hen' : ∀ (args : Array Value) (w : World), (callFunc k args).run Tryz.prog w = .ok (.enter k args) w := hen
  refine ⟨197, _, rfl, ent197, ?_⟩
  show Calls Tryz.prog 197 #[.map (some M), ptr bl, ptr br] w _
  generalize hG : EP X w r0 d (gb (evE X.fs g d o l) (fun x => gb (evE X.fs g d o r) fun y => gb (itemG x.2 y.1) fun n => gp (n, none)) r0.s) = G
  have HG : Hid (EP X w r0 d (gb (evE X.fs g d o l) (fun x => gb (evE X.fs g d o r) fun y => gb (itemG x.2 y.1) fun n => gp (n, none)) r0.s) = G) := hG
  clear hs ho hne hb h1 hG hc hl hen hb' hr hP
  have hf0 := fv0
  have hf1 := fv1
  go_enter Tryz.func197, Tryz.ntmps197
  go_wp2
  refine HC.out.mono ?_
  rintro e w1 ⟨r1, h1, hf, ⟨y, p, ll, c, hx, rfl, hq⟩ | ⟨k9, out, hx, he9⟩⟩
  rotate_left
  · obtain ⟨_, older, rfl, _⟩ := id he9
    refine ⟨rfl, ?_⟩
    rw [← HG.out, gb_e hx]
    exact ep_err h1 hf he9
  have HF : Hid (St X.w0 X.P X.fv w1 r1 d ∧ Fz X.P NoE (w.alloc R0) r0 w1 r1) := ⟨h1, hf⟩
  have HX : Hid (evE X.fs g d o l r0.s = .ok (y, r1.s)) := hx
  have HQ : Hid (QvS r1.ab y.2 (.slice p ll c)) := hq
  have HO1 : Hid (OwS w1 M m r1.ab o) := HO.out.keeps (HS.out.below (al_bel w R0)) hf
  have c2 : w1.cell? ⟨br, 0, none⟩ = some vr := cell_at (i := 0) (h1.old HBr.out HP.out (by decide)) rfl
  have hk := (r0_kept HS.out hf).1
  have hN := HNe.out y r1.s hx
  clear h1 hf hx hq hen' c1 z1
  obtain ⟨k2, cap2, rfl, hen2, hc2⟩ := HR.out w1 r1 d M m o HF.out.1 HO1.out (gb_ne hN).1
  have HC2 : Hid (Calls Tryz.prog k2 (#[.map (some M)] ++ cap2) w1 (EP X w1 r1 d (evE X.fs g d o r r1.s))) := hc2
  have hen' : ∀ (args : Array Value) (w : World), (callFunc k2 args).run Tryz.prog w = .ok (.enter k2 args) w := hen2
  clear hN hc2 hen2
  go_wp2
  refine HC2.out.mono ?_
  rintro e w2 ⟨r2, h1, hf, ⟨z, p2, l2, c3, hx, rfl, hq⟩ | ⟨k9, out, hx, he9⟩⟩
  rotate_left
  · obtain ⟨_, older, rfl, _⟩ := id he9
    refine ⟨rfl, ?_⟩
    rw [← HG.out, gb_o HX.out, gb_e hx]
    exact ep_err h1 (HF.out.2.trans hf) he9
  have HF2 : Hid (St X.w0 X.P X.fv w2 r2 d ∧ Fz X.P NoE (w.alloc R0) r0 w2 r2) := ⟨h1, HF.out.2.trans hf⟩
  have HX2 : Hid (evE X.fs g d o r r1.s = .ok (z, r2.s)) := hx
  have HPre : Hid (r1.ab <+: r2.ab) := hf.pre
  have hk2 := (r0_kept HS.out HF2.out.2).1
  clear h1 hf hx hq hk c2 hen'
  cases hy2 : y.2 with
  | none =>
    have hq := HQ.out
    rw [hy2] at hq
    injection hq with q1 q2 q3
    subst q1 q2 q3
    have HB : Hid (itemG y.2 z.1 r2.s = .error (3, r2.s.out)) := if_pos (by rw [hy2]; show z.1 < 0 ∨ (0 : Int) ≤ z.1; omega)
    clear hy2
    go_wp2_with (go_at_call 186; fail)
    refine (item_nil _ _).mono ?_
    rintro e w3 ⟨rfl, rfl⟩
    refine ⟨rfl, ?_⟩
    rw [← HG.out, gb_o HX.out, gb_o HX2.out, gb_e HB.out]
    exact EP.after (fz_in HF2.out.2) (ep_end HF2.out.1)
  | some i =>
    have hq := HQ.out.mono HPre.out
    rw [hy2] at hq
    obtain ⟨b, nb, hi, he⟩ := hq
    injection he with q1 q2 q3
    subst q1 q2 q3
    obtain ⟨li, a1, a2, a3, a4⟩ := HF2.out.1.arr i b c hi
    have HA : Hid (arrOf r2.s y.2 = li) := by
      show arrOf r2.s y.2 = li
      rw [hy2]
      show r2.s.hp.getD i [] = li
      rw [List.getD_eq_getElem?_getD, a1]
      rfl
    have HLn : Hid (li.length = c) := a2
    have HB4 : Hid (w2.heap[b]? = some (.cells (ints li).toArray 2)) := a4
    clear hy2 hi a1 a2 a4
    go_wp2_with (go_at_call 186; fail)
    refine (item_any _ _ _ _ _ a3).mono ?_
    rintro e w3 ⟨⟨hn, rfl⟩ | ⟨hn1, hn2, rfl⟩, rfl⟩
    · refine ⟨rfl, ?_⟩
      have HB : itemG y.2 z.1 r2.s = .error (3, r2.s.out) := if_pos (by rw [HA.out, HLn.out]; exact hn)
      rw [← HG.out, gb_o HX.out, gb_o HX2.out, gb_e HB]
      exact EP.after (fz_in HF2.out.2) (ep_end HF2.out.1)
    · obtain ⟨v, hv⟩ : ∃ v, li[z.1.toNat]? = some v := ⟨li[z.1.toNat]'(by have := HLn.out; omega), List.getElem?_eq_getElem (by have := HLn.out; omega)⟩
      have HB : Hid (itemG y.2 z.1 r2.s = .ok (v, r2.s)) := by
        show itemG y.2 z.1 r2.s = _
        unfold itemG
        rw [HA.out, HLn.out, if_neg (by omega), List.getD_eq_getElem?_getD, hv]
        rfl
      have cv : w3.cell? ⟨b, z.1.toNat, none⟩ = some (.int .i64 v) := cell_at HB4.out (by simp [ints, hv])
      obtain ⟨jz, hjz⟩ : ∃ jz, jz = z.1.toNat := ⟨_, rfl⟩
      rw [← hjz] at cv ⊢
      clear hv hn1 hn2 hjz
      go_wp2_with (go_at_call 196; fail)
      refine (number_any _ _).mono ?_
      rintro e w3 ⟨rfl, hb2⟩
      have hk3 := blk_on hb2 hk2
      have b1 := cell_at (i := 0) hk3 rfl
      have b2 := cell_at (i := 1) hk3 rfl
      have b3 := row_free hk3 0
      have b4 := row_free hk3 1
      have HF3 : Hid (St X.w0 X.P X.fv w3 r2 d ∧ Fz X.P NoE (w.alloc R0) r0 w3 r2) := ⟨HF2.out.1.below hb2, HF2.out.2.trans (Fz.below hb2)⟩
      clear hk2 hb2 hk3
      go_wp2
      obtain ⟨e1, e2⟩ := ep_fin (y := (v, none)) (p := none) (l := 0) (c := 0) HS.out HF3.out.1 HF3.out.2 rfl
      refine bodyPost_ret (res248 Tryz.results197 _ _ w.heap.size _ _ rfl e1) rfl ?_
      rw [← HG.out, gb_o HX.out, gb_o HX2.out, gb_o HB.out]
      exact e2
end Go.Proofs.YtnfhpdbbfejioaaGreatDoor
