/- QK QL -/
import Derived.Test.YtnfhpdbbfejioaaGreatDoorE36
namespace Go.Proofs.YtnfhpdbbfejioaaGreatDoor.Mid
set_option linter.unusedVariables false
set_option linter.unusedSimpArgs false
set_option maxRecDepth 100000
set_option maxHeartbeats 16000000
open Go Go.RowKit
def Ng {α : Type} (n : Nat) (x : Go1 α) : Prop := ∀ s, s.fuel.toNat < n → ∀ out, x s ≠ .error (99, out)
theorem ng_gp {α : Type} (n : Nat) (a : α) : Ng n (gp a) := fun s _ out h => by cases h
theorem ng_gt {α : Type} (n : Nat) {k : Int} (hk : k ≠ 99) : Ng n (gt k : Go1 α) := fun s _ out h => by injection h with h; injection h with h _; exact hk h
theorem ng_gb {α β : Type} {n : Nat} {x : Go1 α} {f : α → Go1 β} (hx : Ng n x) (hl : Fl x) (hf : ∀ a, Ng n (f a)) : Ng n (gb x f) := fun s hs out h => by
  unfold gb at h
  cases e : x s with
  | error k =>
    rw [e] at h
    injection h with h
    subst h
    exact hx s hs out e
  | ok p =>
    obtain ⟨a, s1⟩ := p
    rw [e] at h
    have := hl s a s1 e
    exact hf a s1 (by omega) out h
theorem ng_pay {β : Type} {n : Nat} {f : Unit → Go1 β} (hf : ∀ a, Ng n (f a)) : Ng (n + 1) (gb pay f) := fun s hs out h => by
  by_cases h0 : s.fuel ≤ 0
  · rw [gb_e (pay_no h0)] at h
    cases h
  · rw [gb_o (pay_yes h0)] at h
    exact hf () _ (by show (s.fuel - 1).toNat < n; omega) out h
theorem ng_if {α : Type} {n : Nat} {k : Int} (hk : k ≠ 99) {c : Sg → Prop} [∀ s, Decidable (c s)] {y : Sg → α × Sg} : Ng n (fun s => if c s then .error (k, s.out) else .ok (y s) : Go1 α) := fun s _ out h => by
  dsimp only at h
  split at h
  · injection h with h; injection h with h _; exact hk h
  · cases h
theorem ng_both (n : Nat) (op : By) (a b : Int) : Ng n (bothG op a b) := by
  unfold bothG
  split
  · refine ng_gt n ?_
    rename_i h
    intro e
    have : (bothV op a b).2 = 0 ∨ (bothV op a b).2 = 2 := by
      unfold bothV
      repeat' split
      all_goals simp
    omega
  · exact ng_gp n _
theorem ng_go (fs : By → Option Mf) : ∀ g d F k o, Ng g (goN fs g d F k o)
  | 0 => fun d F k o s hs => by omega
  | g + 1 => fun d F k o => by
    have ih := ng_go fs g
    rw [goN_1]
    refine ng_pay (fun _ => ?_)
    split
    · exact ng_gt g (by decide)
    · split
      · exact ng_gp g _
      split
      · exact ih _ _ _ _
      split
      · split <;> exact ih _ _ _ _
      split
      · exact ng_gb (by unfold tellG; exact ng_if (by decide)) (fl_tell _) (fun _ => ih _ _ _ _)
      split
      · exact ng_gb (by unfold putG; exact ng_if (by decide)) (fl_put _ _ _) (fun _ => ih _ _ _ _)
      split
      · exact ih _ _ _ _
      · refine ng_gb ?_ (fl_reck (fl_go fs g) _ _ _) (fun _ => ih _ _ _ _)
        unfold zp
        split
        · exact ng_gp g _
        split
        · exact ng_gb (ng_both g _ _ _) (fl_both _ _ _) (fun _ => ng_gp g _)
        split
        · split
          · exact ng_gt g (by decide)
          · split
            · exact ng_gt g (by decide)
            · exact ng_gb (ih _ _ _ _) (fl_go fs g _ _ _ _) (fun _ => ng_gp g _)
        split
        · unfold newG; exact ng_if (by decide)
        split
        · exact ng_gb (fun s _ out h => by cases h) (fl_len _) (fun _ => ng_gp g _)
        split
        · exact ng_gb (by unfold itemG; exact ng_if (by decide)) (fl_item _ _) (fun _ => ng_gp g _)
        split
        · exact ng_gb (fun s _ out h => by cases h) fl_take (fun _ => ng_gp g _)
        · exact ng_gp g _
theorem ng_call (fs : By → Option Mf) (g d : Nat) (F : Mf) (o : List Vl) : Ng g (qx fs g d F o) := by
  unfold qx
  split
  · exact ng_gt g (by decide)
  · exact ng_go fs g _ _ _ _
theorem is_in {F : Mf} {p k : Int} (h : isB F p k = true) : In F p := by
  unfold isB at h
  simp at h
  exact h.1
theorem has_in {F : Mf} {p k : Int} (h : qF F p k = true) (hk : k ≠ 0) : In F p := by
  unfold qF at h
  simp [hk] at h
  exact is_in h
theorem fits_in {fs : By → Option Mf} {F : Mf} {nm : By} {l : List Int} (h : fitsB F (fs nm) l = true) (hp : ∀ nm G, fs nm = some G → zy G = true) : ∃ G, fs nm = some G ∧ (l.length : Int) = G.params ∧ l.length ≤ G.types.length ∧ ∀ x ∈ l, In F x := by
  cases hG : fs nm with
  | none => rw [hG] at h; cases h
  | some G =>
    rw [hG] at h
    have h2 := hp nm G hG
    unfold fitsB at h
    simp only [Bool.and_eq_true, decide_eq_true_eq] at h
    have hle : l.length ≤ G.types.length := by
      unfold zy at h2
      simp at h2
      omega
    refine ⟨G, rfl, h.1, hle, fun x hx => ?_⟩
    obtain ⟨j, hj⟩ := List.getElem?_of_mem hx
    have hj1 := (List.getElem?_eq_some_iff.1 hj).1
    have hz : (l.zip G.types)[j]? = some (x, G.types[j]) := by
      rw [List.getElem?_zip_eq_some]
      exact ⟨hj, List.getElem?_eq_getElem _⟩
    exact is_in (List.all_eq_true.1 h.2 _ (List.mem_of_getElem? hz))
theorem st_ok {fs : By → Option Mf} {F : Mf} {s : Ms} (h : qN fs F s = true) (hp : ∀ nm G, fs nm = some G → zy G = true) : StOk fs F s := by
  unfold qN allB at h
  simp only [Bool.and_eq_true, decide_eq_true_eq] at h
  obtain ⟨h1, ⟨hd, ha, hb, hc⟩, hg, hs⟩ := h
  unfold besB at hs
  refine ⟨h1, fun e => ?_, fun e => ?_, fun e => ?_, fun e => ?_, fun e => ?_, fun e => ?_⟩
  · rcases e with e | e | e | e | e | e | e | e
    · rw [e] at hd; exact has_in hd (by decide)
    · rw [if_pos e] at hs
      simp only [Bool.or_eq_true, Bool.and_eq_true] at hs
      rcases hs with hs | hs <;> exact is_in hs.1
    all_goals
      rw [e] at hd
      exact has_in hd (by decide)
  · rcases e with e | e | e | e | e | e | e | e | e
    · rw [if_pos e] at hs
      simp only [Bool.or_eq_true, Bool.and_eq_true] at hs
      rcases hs with hs | hs <;> exact is_in hs.2
    all_goals
      rw [e] at ha
      exact has_in ha (by decide)
  · rcases e with e | e | e
    all_goals
      rw [e] at hb
      exact has_in hb (by decide)
  · rw [e] at hc
    exact has_in hc (by decide)
  · have hg' : (zJ F.steps s.label).isSome = true := by
      rcases e with e | e
      all_goals
        rw [e] at hg
        simpa [frm] using hg
    exact Option.isSome_iff_exists.1 hg'
  · rw [if_neg (by omega), if_neg (by omega), if_pos e] at hs
    obtain ⟨G, a1, a2, a3, a4⟩ := fits_in hs hp
    exact ⟨G, a1, a3, a4⟩
structure RvE (L : List Mf) : Prop where
  le : L.length ≤ 12
  nd : (L.map (·.name)).Nodup
  mn : ∃ F, fsL L mainB = some F ∧ F.params = 0
  pl : ∀ F ∈ L, zy F = true
  rt : ∀ F ∈ L, zV (fsL L) F = true
theorem rv_e {L : List Mf} (h : zK L = true) : RvE L := by
  unfold zK namesB at h
  simp only [Bool.and_eq_true, decide_eq_true_eq] at h
  obtain ⟨h1, h2, h3, h4, h5⟩ := h
  refine ⟨h1, h2, ?_, List.all_eq_true.1 h4, List.all_eq_true.1 h5⟩
  unfold mainOk at h3
  split at h3
  · rename_i F hF
    exact ⟨F, hF, by simpa using h3⟩
  · cases h3
theorem fsL_mem {L : List Mf} {nm : By} {F : Mf} (h : fsL L nm = some F) : F ∈ L ∧ F.name = nm := ⟨List.mem_of_find?_eq_some h, by simpa using List.find?_some h⟩
theorem rb_e {fs : By → Option Mf} {F : Mf} (h : zV fs F = true) : (1 ≤ F.steps.length ∧ F.steps.length ≤ 6000) ∧ lastB F = true ∧ qA F.steps ∧ ∀ s ∈ F.steps, qN fs F s = true := by
  unfold zV labsB at h
  simp only [Bool.and_eq_true, decide_eq_true_eq] at h
  exact ⟨h.1, h.2.1, h.2.2.1, List.all_eq_true.1 h.2.2.2⟩
theorem lab_m {w : World} {mb k : Nat} {l : List Ms} (h : Mp 3 w mb (labF l) k) : LabM w mb l := fun W hW x hx => by
  have := (h.kept (hW mb h.lt)).look kdI und69 (zero3 W) (key_i x hx)
  rw [this]
  show Result.ok (((zJ l x).map fun (k : Nat) => Value.int .i64 (k : Int)).getD (.int .i64 0)) W = _
  cases zJ l x <;> rfl
theorem last_e {F : Mf} (h : lastB F = true) : ∃ s, F.steps[F.steps.length - 1]? = some s ∧ (s.code = 8 ∨ s.code = 4) := by
  unfold lastB at h
  split at h
  · rename_i s hs
    exact ⟨s, hs, by simpa using h⟩
  · cases h
theorem fns_ok {X : Mx} {cb g p c M m : Nat} {L : List Mf} {f : Lit → Option Value} (hr : RvE L) (hc : CodeAt X.wc cb (some ⟨g, p, none⟩) c L) (hfs : X.fs = fsL L) (hfv : X.fv = .map (some M)) (hm : Mp 9 X.wc M f m) (hf : ∀ nm F, fsL L nm = some F → ∃ j mb k, L[j]? = some F ∧ f (.string nm) = some (rtV g (p + j * 4) mb) ∧ Mp 3 X.wc mb (labF F.steps) k) : FnsOk X := by
  refine ⟨fun nm F hF => ?_⟩
  rw [hfs] at hF
  obtain ⟨j, mb, k, a1, a2, a3⟩ := hf nm F hF
  obtain ⟨b1, b2⟩ := fsL_mem hF
  have hFn : FnAt X.wc g (p + j * 4) F := by
    rcases hc.fn with h2 | ⟨g', p', e, h2⟩
    · rw [h2] at a1; simp at a1
    · injection e with e
      injection e with e1 e2
      subst e1 e2
      exact h2 j F a1
  obtain ⟨c1, c2, c3, c4⟩ := rb_e (hr.rt F b1)
  refine ⟨g, p + j * 4, mb, ⟨hFn, lab_m a3, fun s hs => ?_, last_e c2⟩, fun W hW => ?_⟩
  · rw [hfs]
    exact st_ok (c4 s hs) (fun nm G hG => hr.pl G (fsL_mem hG).1)
  · rw [hfv]
    have hk : keyOf Tryz.prog 9 (.string ⟨nm.toArray⟩) = some (.string nm) := by
      have := key_s ⟨nm.toArray⟩ (by have := hFn.i2.1; rw [b2] at this; simpa [ByteArray.size] using this)
      simpa using this
    have := (hm.kept (hW M hm.lt)).look kdS und73 (zero80 W) hk
    rw [this, a2]
    rfl
def zL (g : Nat) (L : List Mf) (inp : List Int) (fuel : Int) : Int × Int × List Int :=
  if zK L = true then (match fsL L mainB with
    | none => (9, 0, [])
    | some F => (match qx (fsL L) g 0 F (List.replicate F.types.length (0, none)) ⟨fuel, inp, [], []⟩ with
      | .error (w, out) => (w, 0, out)
      | .ok (z, s) => (1, z, s.out)))
  else (9, 0, [])
theorem as_nil77 (w : World) : (Instr.typeAssert .nilIface 20 116 true).run Tryz.prog w = .ok (.tuple #[.int .i64 0, .bool false]) w := by kernel_rfl
theorem as_end77 (k : Int) (w : World) : (Instr.typeAssert (.iface 116 (.int .i64 k)) 20 116 true).run Tryz.prog w = .ok (.tuple #[.int .i64 k, .bool true]) w := by kernel_rfl
theorem fr16 (a b : Value) : (#[a, b] : Array Value) ++ Array.replicate (16 - (#[a, b] : Array Value).size) undef = #[a, b, undef, undef, undef, undef, undef, undef, undef, undef, undef, undef, undef, undef, undef, undef] := by kernel_rfl
theorem run_idle (B7 B6 : Nat) (w : World) : CallsD Tryz.prog 49 #[ptr B7, ptr B6] .returning w fun e u' w' => e = .returned (.tuple #[]) ∧ u' = .returning ∧ w' = w := by
  have e1 := as_nil77
  refine callsD_of_wpS Tryz.func49 rfl fun c₀ cs hu => ?_
  rw [Tryz.ntmps49, fr16]
  apply wpS_seq
  apply wpS_region
  simp [wpOpsS, go_sem, recoverD, hu, Exit.thenS, e1]
  apply wpS_seq
  apply wpS_region
  simp [wpOpsS, go_sem, Exit.thenS]
  refine wpS_cond (t := false) (by simp [Act.eval]) ?_
  simp only [Bool.false_eq_true, if_false]
  refine wpS_of_wp (wp_skip ?_)
  cases c₀
  simp_all [bodyPostS, results, Tryz.results49, Exit.thenS]
theorem run_end (B7 B6 P : Nat) (k : Int) (older : List PanicEntry) (p : Option Addr) (l c : Nat) (w : World) (h1 : w.cell? ⟨B7, 0, none⟩ = some (ptr P)) (h2 : w.cell? ⟨P, 2, none⟩ = some (.slice p l c)) {x y z : Value} (h6 : w.heap[B6]? = some (.cells #[x, y, z] 29)) :
    CallsD Tryz.prog 49 #[ptr B7, ptr B6] (.panicking ({ v := .iface 116 (.int .i64 k), recovered := false } :: older)) w fun e u' w' => e = .returned (.tuple #[]) ∧ u' = .panicking ({ v := .iface 116 (.int .i64 k), recovered := true } :: older) ∧ w' = ((w.setCell ⟨B6, 0, none⟩ (.int .i64 k)).setCell ⟨B6, 1, none⟩ (.int .i64 0)).setCell ⟨B6, 2, none⟩ (.slice p l c) := by
  have e1 := as_end77
  have c0 := z_ (i := 0) h6 rfl
  have c1 := z_ (i := 1) h6 rfl
  have c2 := z_ (i := 2) h6 rfl
  have f0 := zb h6 0
  have f1 := zb h6 1
  have f2 := zb h6 2
  refine callsD_of_wpS Tryz.func49 rfl fun c₀ cs hu => ?_
  rw [Tryz.ntmps49, fr16]
  apply wpS_seq
  apply wpS_region
  simp [wpOpsS, go_sem, recoverD, hu, Exit.thenS, e1]
  apply wpS_seq
  apply wpS_region
  simp [wpOpsS, go_sem, Exit.thenS]
  refine wpS_cond (t := true) (by simp [Act.eval]) ?_
  simp only [if_true]
  refine wpS_of_wp ?_
  go_wp2
  simp_all [bodyPostS, results, Tryz.results49, Exit.thenS]
def InW (w : World) (iv : Value) (l : List Int) : Prop := ∃ q c, iv = .slice q l.length c ∧ (l = [] ∨ ∃ g o, q = some ⟨g, o, none⟩ ∧ g < w.heap.size ∧ l.length ≤ c ∧ ∀ j x, l[j]? = some x → w.cell? ⟨g, o + j, none⟩ = some (.int .i64 x))
theorem InW.below {w w' : World} {iv : Value} {l : List Int} (h : InW w iv l) (hb : Below w.heap.size w w') : InW w' iv l := by
  obtain ⟨q, c, e, h⟩ := h
  refine ⟨q, c, e, ?_⟩
  rcases h with h | ⟨g, o, e1, h1, h2, h3⟩
  · exact .inl h
  · exact .inr ⟨g, o, e1, Nat.lt_of_lt_of_le h1 hb.size, h2, fun j x hx => by rw [hb.cell (p := ⟨g, o + j, none⟩) h1]; exact h3 j x hx⟩
def RnP (r : Int × Int × List Int) (w : World) (e : Ending) (w' : World) : Prop := ∃ p c, e = .returned (.agg #[.int .i64 r.1, .int .i64 r.2.1, .slice p r.2.2.length c]) ∧ w'.ownsRow w.heap.size 2 1 (.slice p r.2.2.length c) r.2.2.length (q_ r.2.2) ∧ Below w.heap.size w w'
theorem res12 (tmps : Array Value) (w : World) (g : Nat) (a b c : Value) (hp : tmps.getD 6 undef = .pointer (some ⟨g, 0, none⟩)) (hg : w.heap[g]? = some (.cells #[a, b, c] 29)) :
    (results Tryz.f24 tmps).run Tryz.prog w = .ok (.agg #[a, b, c]) w :=
  results_cell_row (p := 6) (ty := 29) Tryz.results24 _ _ g 29 _ (0, 0) _ hp hg Tryz.underlying29 rfl (by kernel_rfl)
theorem set3 {w : World} {b : Nat} {x y z x' y' z' : Value} {t : TypeId} (h : w.heap[b]? = some (.cells #[x, y, z] t)) : (((w.setCell ⟨b, 0, none⟩ x').setCell ⟨b, 1, none⟩ y').setCell ⟨b, 2, none⟩ z').heap[b]? = some (.cells #[x', y', z'] t) :=
  heap_setCell_same _ _ _ _ _ _ (heap_setCell_same _ _ _ _ _ _ (heap_setCell_same _ _ _ _ _ _ h))
theorem own_mono {w : World} {B B' e z n : Nat} {v : Value} {l : List Value} (h : w.ownsRow B e z v n l) (hle : B' ≤ B) : w.ownsRow B' e z v n l := by
  refine ⟨h.1, ?_⟩
  rcases h.2 with hh | ⟨g, cap, cur, hv, hb, rest⟩
  · exact .inl hh
  · exact .inr ⟨g, cap, cur, hv, Nat.le_trans hle hb, rest⟩
theorem told_end {w w5 : World} {out : List Int} {ov : Value} {way code : Int} (hb : Below w.heap.size w w5) (ho : w5.ownsRow w.heap.size 2 1 ov out.length (q_ out)) (hk : ∀ k, ov.ownBlock = some k → w.heap.size + 1 ≤ k) :
    RnP (way, code, out) w (.returned (.agg #[.int .i64 way, .int .i64 code, ov])) (((w5.setCell ⟨w.heap.size, 0, none⟩ (.int .i64 way)).setCell ⟨w.heap.size, 1, none⟩ (.int .i64 code)).setCell ⟨w.heap.size, 2, none⟩ ov) := by
  obtain ⟨p, c, rfl⟩ := zd ho
  refine ⟨p, c, rfl, qr ho (fun i hi => ?_), ((hb.setCell (p := ⟨w.heap.size, 0, none⟩) (Nat.le_refl _) _).setCell (p := ⟨w.heap.size, 1, none⟩) (Nat.le_refl _) _).setCell (p := ⟨w.heap.size, 2, none⟩) (Nat.le_refl _) _⟩
  have := hk i hi
  rw [heap_setCell_other _ _ _ _ (by show i ≠ w.heap.size; omega), heap_setCell_other _ _ _ _ (by show i ≠ w.heap.size; omega), heap_setCell_other _ _ _ _ (by show i ≠ w.heap.size; omega)]
def Pan12 (B6 : Nat) (ds : List Deferred) (W : List PanicEntry → World → Prop) (Q : Exit → Act → World → Prop) : Exit → Act → World → Prop
  | .panic c, a, w => a.defers = ds ∧ a.tmps.getD 6 undef = ptr B6 ∧ W c w
  | e, a, w => Q e a w
theorem pan_imp {B6 : Nat} {ds : List Deferred} {W : List PanicEntry → World → Prop} {Q : Exit → Act → World → Prop} (h : ∀ c a w, a.defers = ds → a.tmps.getD 6 undef = ptr B6 → W c w → Q (.panic c) a w) : ∀ e a w, Pan12 B6 ds W Q e a w → Q e a w := fun e a w hp => by
  cases e <;> first | exact hp | exact h _ _ _ hp.1 hp.2.1 hp.2.2
theorem pan_put {B6 : Nat} {ds : List Deferred} {W : List PanicEntry → World → Prop} {Q : Exit → Act → World → Prop} {c : List PanicEntry} {a : Act} {w : World} {d : Nat} {v : Value} (hd : d ≠ 6) (h : Pan12 B6 ds W Q (.panic c) (a.put (some d) v) w) : Pan12 B6 ds W Q (.panic c) a w := by
  obtain ⟨h1, h2, h3⟩ := h
  refine ⟨h1, ?_, h3⟩
  have e : (a.put (some d) v).tmps.getD 6 undef = a.tmps.getD 6 undef := by
    simp only [Act.put, Array.getD_eq_getD_getElem?, Array.getElem?_setIfInBounds]
    rw [if_neg hd]
  rw [← e]
  exact h2
theorem settle_all {x : PanicEntry} {older : List PanicEntry} (hx : x.recovered = true) (h : ∀ z ∈ older, z.goexit = false) : settle (.panicking (x :: older)) = .returning := by
  have e : older.dropWhile (!·.goexit) = [] := by
    induction older with
    | nil => rfl
    | cons y ys ih => rw [List.dropWhile_cons, h y (by simp)]; simpa using ih fun z hz => h z (by simp [hz])
  obtain ⟨v, r, g⟩ := x
  simp only at hx
  subst hx
  simp only [settle, e]
abbrev mx (w2 W4 : World) (M : Nat) (L : List Mf) : Mx := { w0 := W4, P := w2.heap.size, fv := .map (some M), wc := w2, fs := fsL L }
structure R4 (w w2 W4 : World) (iv : Value) (fuel : Int) (fb fo mb M : Nat) : Prop where
  bel : Below w.heap.size w w2
  lt : w.heap.size < w2.heap.size
  z : W4.heap.size = w2.heap.size + 3
  b2 : Below w2.heap.size w2 W4
  k6 : W4.heap[w.heap.size]? = some (.cells #[.int .i64 0, .int .i64 0, .slice none 0 0] 29)
  kP : W4.heap[w2.heap.size]? = some (.cells #[.map (some M), iv, .slice none 0 0, .int .i64 fuel, .int .i64 0] 115)
  k7 : W4.heap[w2.heap.size + 1]? = some (.cells #[ptr w2.heap.size] 111)
  k8 : W4.heap[w2.heap.size + 2]? = some (.cells #[.pointer (some ⟨fb, fo, none⟩), .map (some mb)] 120)
theorem sm_of {w w2 W4 w' : World} {iv : Value} {fuel : Int} {fb fo mb M : Nat} {inp : List Int} (h : R4 w w2 W4 iv fuel fb fo mb M) (hin : InW w iv inp) (hf : -9223372036854775808 ≤ fuel ∧ fuel ≤ 10000000) (hb : Below W4.heap.size W4 w') : Sm W4 w2.heap.size (.map (some M)) w' ⟨[], iv, .slice none 0 0, ⟨fuel, inp, [], []⟩⟩ 0 := by
  have hz := h.z
  refine ⟨by omega, hb.size, fun b hb1 _ => hb.block b hb1, ?_, ?_, World.ownsRow_nil _ _ _ _, fun i hi => (by cases hi), rfl, fun i b n hi => (by simp at hi), fun b hb => (by simp at hb), (by simp), hf, (by simp), by omega⟩
  · rw [hb.block _ (by omega)]; exact h.kP
  · obtain ⟨q, c, e, hq⟩ := hin
    refine ⟨q, c, e, ?_⟩
    rcases hq with hq | ⟨g, o, e1, h1, h2, h3⟩
    · exact .inl hq
    · have hl := h.lt
      exact .inr ⟨g, o, e1, by omega, by omega, h2, fun j x hx => by rw [h.b2.cell (p := ⟨g, o + j, none⟩) (by show g < _; omega), h.bel.cell (p := ⟨g, o + j, none⟩) h1]; exact h3 j x hx⟩
theorem gone {w w2 W4 w5 : World} {iv : Value} {fuel : Int} {fb fo mb M : Nat} {r' : Rs} {d : Nat} (h : R4 w w2 W4 iv fuel fb fo mb M) (hs : Sm W4 w2.heap.size (.map (some M)) w5 r' d) {w4 : World} {r : Rs} {E : Nat → Prop} (hb : Below W4.heap.size W4 w4) (hf : Fz w2.heap.size E w4 r w5 r') :
    Below w.heap.size w w5 ∧ w5.heap[w.heap.size]? = some (.cells #[.int .i64 0, .int .i64 0, .slice none 0 0] 29) ∧ w5.heap[w2.heap.size + 1]? = some (.cells #[ptr w2.heap.size] 111) ∧ w5.heap[w2.heap.size + 2]? = some (.cells #[.pointer (some ⟨fb, fo, none⟩), .map (some mb)] 120) ∧ w5.cell? ⟨w2.heap.size, 2, none⟩ = some r'.ov ∧ w5.ownsRow w.heap.size 2 1 r'.ov r'.s.out.length (q_ r'.s.out) ∧ ∀ k, r'.ov.ownBlock = some k → w.heap.size + 1 ≤ k := by
  have hz := h.z
  have hl := h.lt
  refine ⟨⟨hf.os.trans (hb.os.trans (h.b2.os.trans h.bel.os)), hf.tape.trans (hb.tape.trans (h.b2.tape.trans h.bel.tape)), hf.output.trans (hb.output.trans (h.b2.output.trans h.bel.output)), by have := hs.le; omega, fun b hb => ?_⟩, ?_, ?_, ?_, z_ (i := 2) hs.pb rfl, own_mono hs.out (by omega), fun k hk => ?_⟩
  · rw [hs.kp b (by omega) (by omega), h.b2.block b (by omega)]; exact h.bel.block b hb
  · rw [hs.kp _ (by omega) (by omega)]; exact h.k6
  · rw [hs.kp _ (by omega) (by omega)]; exact h.k7
  · rw [hs.kp _ (by omega) (by omega)]; exact h.k8
  · have := (hs.out.lt k hk).1
    omega
theorem Run_any (w : World) (cb : Nat) (q : Option Addr) (c : Nat) (L : List Mf) (iv : Value) (inp : List Int) (fuel : Int) (g : Nat) (h : CodeAt w cb q c L) (hfm : FmE w) (hmk : MkE w) (hin : InW w iv inp) (hf : -9223372036854775808 ≤ fuel ∧ fuel ≤ 10000000) (hg : fuel.toNat < g) :
    Calls Tryz.prog 24 #[ptr cb, iv, .int .i64 fuel] w (RnP (zL g L inp fuel) w) := by
  obtain ⟨qi, ci, rfl, hin'⟩ := id hin
  obtain ⟨ni, hni⟩ : ∃ ni, ni = inp.length := ⟨_, rfl⟩
  rw [← hni] at hin ⊢
  generalize hG : RnP (zL g L inp fuel) w = G
  have HG : Hid (RnP (zL g L inp fuel) w = G) := hG
  have HC : Hid (CodeAt w cb q c L ∧ FmE w ∧ MkE w) := ⟨h, hfm, hmk⟩
  have HIn : Hid (InW w (.slice qi ni ci) inp) := hin
  have HFu : Hid ((-9223372036854775808 ≤ fuel ∧ fuel ≤ 10000000) ∧ fuel.toNat < g) := ⟨hf, hg⟩
  obtain ⟨W1, hW1⟩ : ∃ W1, W1 = w.alloc (.cells #[.int .i64 0, .int .i64 0, .slice none 0 0] 29) := ⟨_, rfl⟩
  have HB1 : Hid (Below w.heap.size w W1) := by rw [hW1]; exact qC _ _
  have HK1 : Hid (W1.heap[w.heap.size]? = some (.cells #[.int .i64 0, .int .i64 0, .slice none 0 0] 29) ∧ W1.heap.size = w.heap.size + 1) := ⟨by rw [hW1]; exact heap_alloc_last _ _, by rw [hW1]; simp⟩
  have HRt : Hid (Calls Tryz.prog 22 #[ptr cb] W1 (LkP (zK L) W1)) := Right_any W1 cb q c L (h.below HB1.out) (hfm.below HB1.out) (hmk.below HB1.out)
  clear h hfm hmk hin hin' hf hg hni hG
  go_enter_defers Tryz.func24, Tryz.ntmps24
  go_wp2_with (go_at_call 22; fail)
  rw [← hW1]
  clear hW1
  refine HRt.out.mono ?_
  rintro e w1 ⟨rfl, hb1⟩
  have HB2 : Hid (Below W1.heap.size W1 w1) := hb1
  have HK2 : Hid (w1.heap[w.heap.size]? = some (.cells #[.int .i64 0, .int .i64 0, .slice none 0 0] 29) ∧ w.heap.size + 1 ≤ w1.heap.size ∧ Below w.heap.size w w1) := ⟨by rw [hb1.block _ (by have := HK1.out.2; omega)]; exact HK1.out.1, by have := hb1.size; have := HK1.out.2; omega, HB1.out.trans (hb1.mono HB1.out.size)⟩
  clear hb1
  cases hrv : zK L with
  | false =>
    have m0 := z_ (i := 0) HK2.out.1 rfl
    have m1 := z_ (i := 1) HK2.out.1 rfl
    have m2 := z_ (i := 2) HK2.out.1 rfl
    have y0 := zb HK2.out.1 0
    have y1 := zb HK2.out.1 1
    have y2 := zb HK2.out.1 2
    have HRn : Hid (zL g L inp fuel = (9, 0, [])) := by show _ = _; unfold zL; rw [hrv]; rfl
    clear hrv
    go_wp2
    refine ⟨_, res12 _ _ w.heap.size _ _ _ rfl (set3 HK2.out.1), ?_⟩
    rw [← HG.out, HRn.out]
    exact told_end (out := []) HK2.out.2.2 (World.ownsRow_nil _ _ _ _) (fun k hk => by cases hk)
  | true =>
    have HR : Hid (RvE L) := rv_e hrv
    obtain ⟨Fm, hFm, hpm⟩ := HR.out.mn
    have HRn : Hid (zL g L inp fuel = (match qx (fsL L) g 0 Fm (List.replicate Fm.types.length (0, none)) ⟨fuel, inp, [], []⟩ with | .error (w, out) => (w, 0, out) | .ok (z, s) => (1, z, s.out))) := by show _ = _; unfold zL; rw [if_pos hrv, hFm] <;> rfl
    have hLne : L ≠ [] := fun e => by rw [e] at hFm; cases hFm
    obtain ⟨gg, pp, rfl⟩ : ∃ g p, q = some ⟨g, p, none⟩ := by
      rcases HC.out.1.fn with h2 | ⟨g', p', e, h2⟩
      · exact absurd h2 hLne
      · exact ⟨g', p', e⟩
    have HRo : Hid (Calls Tryz.prog 48 #[ptr cb] w1 (RoP L gg pp w1)) := routines_any w1 cb gg pp c L (HC.out.1.below HK2.out.2.2) HR.out.nd HR.out.le (fun F hF => (rb_e (HR.out.rt F hF)).2.2.1)
    have HFm : Hid (fsL L mainB = some Fm) := hFm
    clear hrv hFm hpm hLne
    go_wp2_with (go_at_call 48; fail)
    refine HRo.out.mono ?_
    rintro e w2 ⟨f, m, rfl, hb2, hmp, hrd⟩
    have HFo : Hid (∀ X : Mx, X.wc = w2 → X.fs = fsL L → X.fv = .map (some w1.heap.size) → FnsOk X) := fun X e1 e2 e3 => fns_ok (cb := cb) (g := gg) (p := pp) (c := c) HR.out (by rw [e1]; exact (HC.out.1.below HK2.out.2.2).below hb2) e2 e3 (by rw [e1]; exact hmp) (by rw [e1]; exact hrd)
    have HB3 : Hid (Below w.heap.size w w2) := HK2.out.2.2.trans (hb2.mono HK2.out.2.2.size)
    have HK3 : Hid (w2.heap[w.heap.size]? = some (.cells #[.int .i64 0, .int .i64 0, .slice none 0 0] 29) ∧ w.heap.size + 1 ≤ w2.heap.size) := ⟨by rw [hb2.block _ (by have := HK2.out.2.1; omega)]; exact HK2.out.1, by have := HK2.out.2.1; have := hb2.size; omega⟩
    obtain ⟨W3, hW3⟩ : ∃ W3, W3 = (w2.alloc (.cells #[.map (some w1.heap.size), .slice qi ni ci, .slice none 0 0, .int .i64 fuel, .int .i64 0] 115)).alloc (.cells #[ptr w2.heap.size] 111) := ⟨_, rfl⟩
    have hb3 : Below w2.heap.size w2 W3 := by rw [hW3]; exact (qC _ _).trans ((qC _ _).mono (by simp))
    obtain ⟨fb, fo, mb, hRout, hlk⟩ := (HFo.out (mx w2 W3 w1.heap.size L) rfl rfl rfl).look mainB Fm HFm.out
    have lk' : (Instr.lookup 112 (.map (some w1.heap.size)) (.string ⟨#[109, 97, 105, 110]⟩) false).run Tryz.prog W3 = .ok (.agg #[.pointer (some ⟨fb, fo, none⟩), .map (some mb)]) W3 := hlk W3 (fun b hb => hb3.block b hb)
    have hFAt : FnAt w2 fb fo Fm := hRout.fn
    have hz3 : W3.heap.size = w2.heap.size + 2 := by rw [hW3]; simp
    have kP : W3.heap[w2.heap.size]? = some (.cells #[.map (some w1.heap.size), .slice qi ni ci, .slice none 0 0, .int .i64 fuel, .int .i64 0] 115) := by rw [hW3, zc (by simp)]; exact heap_alloc_last _ _
    have k7 : W3.heap[w2.heap.size + 1]? = some (.cells #[ptr w2.heap.size] 111) := by
      rw [hW3]
      have := heap_alloc_last (w2.alloc (.cells #[.map (some w1.heap.size), .slice qi ni ci, .slice none 0 0, .int .i64 fuel, .int .i64 0] 115)) (.cells #[ptr w2.heap.size] 111)
      simpa using this
    obtain ⟨W4, hW4⟩ : ∃ W4, W4 = W3.alloc (.cells #[.pointer (some ⟨fb, fo, none⟩), .map (some mb)] 120) := ⟨_, rfl⟩
    have H4 : Hid (R4 w w2 W4 (.slice qi ni ci) fuel fb fo mb w1.heap.size) := by
      refine ⟨HB3.out, by have := HK3.out.2; omega, by rw [hW4]; simp; omega, by rw [hW4]; exact hb3.trans ((qC _ _).mono (by omega)), ?_, ?_, ?_, ?_⟩
      · have := HK3.out.2
        rw [hW4, zc (by omega), hb3.block _ (by omega)]
        exact HK3.out.1
      · rw [hW4, zc (by omega)]; exact kP
      · rw [hW4, zc (by omega)]; exact k7
      · rw [hW4, ← hz3]; exact heap_alloc_last _ _
    have HX : Hid (∀ g', CallC (mx w2 W4 w1.heap.size L) g') := fun g' => call_all ⟨Nat.le_refl _, fun b hb => H4.out.b2.block b hb⟩ (HFo.out _ rfl rfl rfl) g'
    have HRo2 : Hid (Rout (mx w2 W4 w1.heap.size L) Fm fb fo mb) := ⟨hRout.fn, hRout.lab, hRout.ok, hRout.last⟩
    have p7 : W3.cell? ⟨w2.heap.size + 1, 0, none⟩ = some (ptr w2.heap.size) := z_ (i := 0) k7 rfl
    have pP : W3.cell? ⟨w2.heap.size, 0, none⟩ = some (.map (some w1.heap.size)) := z_ (i := 0) kP rfl
    have HW4 : Hid (W4 = ((w2.alloc (.cells #[.map (some w1.heap.size), .slice qi ni ci, .slice none 0 0, .int .i64 fuel, .int .i64 0] 115)).alloc (.cells #[ptr w2.heap.size] 111)).alloc (.cells #[.pointer (some ⟨fb, fo, none⟩), .map (some mb)] 120)) := by show _ = _; rw [hW4, hW3]
    rw [hW3] at lk' p7 pP
    clear hb2 hmp hrd hb3 hRout hlk hFAt hz3 kP k7 hW4 hW3 HRo HFo HK3 HB2 HRt HK1
    go_upto_region 6 with fail
    rw [← HW4.out]
    clear lk' p7 pP HW4
    have d7 : W4.cell? ⟨w2.heap.size + 1, 0, none⟩ = some (ptr w2.heap.size) := z_ (i := 0) H4.out.k7 rfl
    have d8 : W4.cell? ⟨w2.heap.size + 2, 0, none⟩ = some (.pointer (some ⟨fb, fo, none⟩)) := z_ (i := 0) H4.out.k8 rfl
    have d9 : W4.cell? ⟨w2.heap.size + 2, 1, none⟩ = some (.map (some mb)) := z_ (i := 1) H4.out.k8 rfl
    obtain ⟨kt, hkt⟩ : ∃ kt, Fm.types.length = kt := ⟨_, rfl⟩
    have HKt : Hid (Fm.types.length = kt) := hkt
    have HFr : Hid (∀ W, Below W4.heap.size W4 W → Calls Tryz.prog 51 #[.agg #[.pointer (some ⟨fb, fo, none⟩), .map (some mb)]] W (FrP kt W)) := fun W hb => by
      obtain ⟨vt, ht, qt, ct, rfl, _⟩ := HRo2.out.fn.c2
      have hlt := zz ht
      have hz := H4.out.z
      have hb2 := H4.out.b2
      have hc : W.cell? ⟨fb, fo + 2, none⟩ = some (.slice qt Fm.types.length ct) := by
        rw [hb.cell (p := ⟨fb, fo + 2, none⟩) (by show fb < _; have := hb2.size; exact Nat.lt_of_lt_of_le hlt this), hb2.cell (p := ⟨fb, fo + 2, none⟩) hlt]
        exact ht
      have := fresh_any (F := Fm) (mv := .map (some mb)) W hc HRo2.out.fn.i2.2.1 mb rfl
      rw [HKt.out] at this
      exact this
    have HCl : Hid (∀ W5 tb, Below W4.heap.size W4 W5 → W4.heap.size ≤ tb → W5.heap[tb]? = some (.cells (zs kt).toArray 179) → Calls Tryz.prog 50 #[ptr w2.heap.size, .agg #[.pointer (some ⟨fb, fo, none⟩), .map (some mb)], .slice (some ⟨tb, 0, none⟩) kt kt] W5 (ClP (mx w2 W4 w1.heap.size L) W5 ⟨[], .slice qi ni ci, .slice none 0 0, ⟨fuel, inp, [], []⟩⟩ 0 tb (qx (fsL L) g 0 Fm (List.replicate Fm.types.length (0, none)) ⟨fuel, inp, [], []⟩))) := fun W5 tb hb htb hzs => by
      have h1 := HX.out g Fm fb fo mb HRo2.out W5 ⟨[], .slice qi ni ci, .slice none 0 0, ⟨fuel, inp, [], []⟩⟩ 0 tb (List.replicate kt (0, none)) (sm_of H4.out HIn.out HFu.out.1 hb) (zs_own W5 tb [] kt hzs) (by rw [HKt.out]; simp) htb (by
        have := ng_call (fsL L) g 0 Fm (List.replicate kt (0, none)) ⟨fuel, inp, [], []⟩ HFu.out.2
        exact this)
      rw [HKt.out]
      simpa using h1
    have HGo : Hid (∀ W5 w5 r' d tb, Below W4.heap.size W4 W5 → Sm W4 w2.heap.size (.map (some w1.heap.size)) w5 r' d → Fz w2.heap.size (fun b => b = tb) W5 ⟨[], .slice qi ni ci, .slice none 0 0, ⟨fuel, inp, [], []⟩⟩ w5 r' → Below w.heap.size w w5 ∧ w5.heap[w.heap.size]? = some (.cells #[.int .i64 0, .int .i64 0, .slice none 0 0] 29) ∧ w5.heap[w2.heap.size + 1]? = some (.cells #[ptr w2.heap.size] 111) ∧ w5.heap[w2.heap.size + 2]? = some (.cells #[.pointer (some ⟨fb, fo, none⟩), .map (some mb)] 120) ∧ w5.cell? ⟨w2.heap.size, 2, none⟩ = some r'.ov ∧ w5.ownsRow w.heap.size 2 1 r'.ov r'.s.out.length (q_ r'.s.out) ∧ ∀ k, r'.ov.ownBlock = some k → w.heap.size + 1 ≤ k) := fun W5 w5 r' d tb hb h1 h2 => gone H4.out h1 hb h2
    have HZ4 : Hid (W4.heap.size = w2.heap.size + 3) := H4.out.z
    clear hkt
    go_cut [9] from 10 to 36 (fun v9 wx => ∃ z p l c, v9 = .int .i64 z ∧ wx.cell? ⟨w2.heap.size + 1, 0, none⟩ = some (ptr w2.heap.size) ∧ wx.cell? ⟨w2.heap.size, 2, none⟩ = some (.slice p l c) ∧ Hid (wx.heap[w.heap.size]? = some (.cells #[.int .i64 0, .int .i64 0, .slice none 0 0] 29) ∧ G (.returned (.agg #[.int .i64 1, .int .i64 z, .slice p l c])) (((wx.setCell ⟨w.heap.size, 0, none⟩ (.int .i64 1)).setCell ⟨w.heap.size, 1, none⟩ (.int .i64 z)).setCell ⟨w.heap.size, 2, none⟩ (.slice p l c))))
    case first =>
      refine Code.wp_mono (pan_imp (B6 := w.heap.size) (ds := [{ target := Target.fn (Fn.func 49) #[ptr (w2.heap.size + 1), ptr w.heap.size], args := #[] }]) (W := fun c w5 => Hid (∃ k9 older p l c9, c = { v := .iface 116 (.int .i64 k9), recovered := false } :: older ∧ (∀ z ∈ older, z.goexit = false) ∧ w5.cell? ⟨w2.heap.size + 1, 0, none⟩ = some (ptr w2.heap.size) ∧ w5.cell? ⟨w2.heap.size, 2, none⟩ = some (.slice p l c9) ∧ w5.heap[w.heap.size]? = some (.cells #[.int .i64 0, .int .i64 0, .slice none 0 0] 29) ∧ G (.returned (.agg #[.int .i64 k9, .int .i64 0, .slice p l c9])) (((w5.setCell ⟨w.heap.size, 0, none⟩ (.int .i64 k9)).setCell ⟨w.heap.size, 1, none⟩ (.int .i64 0)).setCell ⟨w.heap.size, 2, none⟩ (.slice p l c9)))) ?pan) ?_
      case pan =>
        intro c a' w5 hd h6 hW
        obtain ⟨k9, older, p, l, c9, rfl, hold, g3, g4, g2, hg⟩ := hW.out
        show Leaves Tryz.prog Tryz.f24 a'.tmps G a'.defers _ w5
        rw [hd]
        refine leaves_cons (f := 49) (args := #[ptr (w2.heap.size + 1), ptr w.heap.size]) (by simp) (by simp [go_sem]) ?_
        refine (run_end (w2.heap.size + 1) w.heap.size w2.heap.size k9 older p l c9 w5 g3 g4 g2).mono ?_
        rintro e u' w6 ⟨rfl, rfl, rfl⟩
        show Leaves Tryz.prog Tryz.f24 a'.tmps G [] (settle _) _
        rw [settle_all rfl hold]
        exact ⟨_, res12 _ _ w.heap.size _ _ _ h6 (set3 g2), hg⟩
      refine wp_region_held_drew (S := fun w' => w'.cell? ⟨w2.heap.size + 1, 0, none⟩ = some (ptr w2.heap.size) ∧ w'.cell? ⟨w2.heap.size + 2, 0, none⟩ = some (.pointer (some ⟨fb, fo, none⟩)) ∧ w'.cell? ⟨w2.heap.size + 2, 1, none⟩ = some (.map (some mb))) (by kernel_rfl) ?_ (fun hHeld => ?_)
      · exact ⟨d7, d8, d9⟩
      refine wpAnyH_take (i := 0) (v := ?val0) rfl (by kernel_rfl) (by kernel_rfl) (by kernel_rfl) (fun _ _ _ h => pan_put (by decide) h) (Or.inl ⟨by rfl, ?hy0⟩) hHeld ?go0
      case hy0 => (intro w hSw; (try dsimp only at hSw); (try (obtain ⟨s1, s2, s3⟩ := hSw)); go_simp; try rfl)
      case go0 =>
      simp only [Act.put, List.setIfInBounds_toArray, List.set_cons_zero, List.set_cons_succ, List.getElem_toArray, List.getElem_cons_zero, List.getElem_cons_succ]
      refine wpAnyH_take (i := 1) (v := ?val1) rfl (by kernel_rfl) (by kernel_rfl) (by kernel_rfl) (fun _ _ _ h => pan_put (by decide) h) (Or.inl ⟨by rfl, ?hy1⟩) hHeld ?go1
      case hy1 => (intro w hSw; (try dsimp only at hSw); (try (obtain ⟨s1, s2, s3⟩ := hSw)); go_simp; try rfl)
      case go1 =>
      simp only [Act.put, List.setIfInBounds_toArray, List.set_cons_zero, List.set_cons_succ, List.getElem_toArray, List.getElem_cons_zero, List.getElem_cons_succ]
      refine wpAnyH_take (i := 2) (v := ?val2) rfl (by kernel_rfl) (by kernel_rfl) (by kernel_rfl) (fun _ _ _ h => pan_put (by decide) h) (Or.inl ⟨by rfl, ?hy2⟩) hHeld ?go2
      case hy2 => (intro w hSw; (try dsimp only at hSw); (try (obtain ⟨s1, s2, s3⟩ := hSw)); go_simp; try rfl)
      case go2 =>
      simp only [Act.put, List.setIfInBounds_toArray, List.set_cons_zero, List.set_cons_succ, List.getElem_toArray, List.getElem_cons_zero, List.getElem_cons_succ]
      refine wpAnyH_ready (rs := [3]) (by kernel_rfl) (by simp) ?_
      refine AllReadyH.cons (o := { dst := some 29, op := Op.call { callee := Callee.value (Operand.func 51), args := #[Operand.tmp 28], argTypes := #[120] }, type := 122, pos := "run.go:17", after := #[{ on := 2, ground := Ground.data }], guard := none }) rfl (fun K hK => ?_) AllReadyH.nil
      go_simp
      refine (HFr.out _ (Below.refl _ _).drew).mono ?_
      rintro e w5 ⟨A5, rfl, rfl⟩
      obtain ⟨W5, hW5⟩ : ∃ W5, W5 = (W4.drew.alloc A5).alloc (.cells (zs kt).toArray 179) := ⟨_, rfl⟩
      have hb5 : Below W4.heap.size W4 W5 := by rw [hW5]; exact ((Below.refl W4.heap.size W4).drew.trans (qC W4.drew A5)).trans ((qC _ _).mono (by simp))
      have hz5 : W5.heap[W4.heap.size + 1]? = some (.cells (zs kt).toArray 179) := by
        rw [hW5]
        have := heap_alloc_last (W4.drew.alloc A5) (.cells (zs kt).toArray 179)
        simpa using this
      have HC30 := HCl.out W5 (W4.heap.size + 1) hb5 (by omega) hz5
      have hS5 : W5.cell? ⟨w2.heap.size + 1, 0, none⟩ = some (ptr w2.heap.size) ∧ W5.cell? ⟨w2.heap.size + 2, 0, none⟩ = some (.pointer (some ⟨fb, fo, none⟩)) ∧ W5.cell? ⟨w2.heap.size + 2, 1, none⟩ = some (.map (some mb)) := ⟨by rw [hb5.cell (p := ⟨w2.heap.size + 1, 0, none⟩) (by have := HZ4.out; show w2.heap.size + 1 < _; omega)]; exact d7, by rw [hb5.cell (p := ⟨w2.heap.size + 2, 0, none⟩) (by have := HZ4.out; show w2.heap.size + 2 < _; omega)]; exact d8, by rw [hb5.cell (p := ⟨w2.heap.size + 2, 1, none⟩) (by have := HZ4.out; show w2.heap.size + 2 < _; omega)]; exact d9⟩
      rw [← hW5]
      have HB5 : Hid (Below W4.heap.size W4 W5) := hb5
      clear hW5 hb5 hz5
      refine hK _ _ hS5 (fun _ => ?_)
      clear hK K
      refine wpAnyH_ready (rs := [4]) (by kernel_rfl) (by simp) ?_
      refine AllReadyH.cons (o := { dst := some 30, op := Op.call { callee := Callee.value (Operand.func 50), args := #[Operand.tmp 26, Operand.tmp 27, Operand.tmp 29], argTypes := #[111, 120, 122] }, type := 2, pos := "run.go:17", after := #[{ on := 0, ground := Ground.data }, { on := 1, ground := Ground.data }, { on := 3, ground := Ground.data }, { on := 3, ground := Ground.chain }], guard := none }) rfl (fun K hK => ?_) AllReadyH.nil
      go_simp
      refine HC30.mono ?_
      rintro e w6 ⟨r', d', h', hf', ⟨n9, rfl, hx, rfl⟩ | ⟨k9, hx, rfl⟩⟩
      rotate_left
      · obtain ⟨g1, g2, g3, g4, g5, g6, g7⟩ := HGo.out W5 w6 r' d' _ HB5.out h' hf'
        obtain ⟨p, c9, hov⟩ := zd g6
        refine ⟨rfl, rfl, ?_⟩
        refine ⟨k9, [], rfl, fun z hz => (by cases hz), z_ (i := 0) g3 rfl, p, r'.s.out.length, c9, by rw [g5, hov], g2, ?_⟩
        have hr := HRn.out
        rw [hx] at hr
        rw [← HG.out, hr, ← hov]
        exact told_end g1 g6 g7
      · obtain ⟨g1, g2, g3, g4, g5, g6, g7⟩ := HGo.out W5 w6 r' _ _ HB5.out h' hf'
        obtain ⟨p, c9, hov⟩ := zd g6
        have HE : Hid (∃ p l c, w6.cell? ⟨w2.heap.size + 1, 0, none⟩ = some (ptr w2.heap.size) ∧ w6.cell? ⟨w2.heap.size, 2, none⟩ = some (.slice p l c) ∧ Hid (w6.heap[w.heap.size]? = some (.cells #[.int .i64 0, .int .i64 0, .slice none 0 0] 29) ∧ G (.returned (.agg #[.int .i64 1, .int .i64 n9, .slice p l c])) (((w6.setCell ⟨w.heap.size, 0, none⟩ (.int .i64 1)).setCell ⟨w.heap.size, 1, none⟩ (.int .i64 n9)).setCell ⟨w.heap.size, 2, none⟩ (.slice p l c)))) := by
          refine ⟨p, r'.s.out.length, c9, z_ (i := 0) g3 rfl, by rw [g5, hov], g2, ?_⟩
          have hr := HRn.out
          rw [hx] at hr
          rw [← HG.out, hr, ← hov]
          exact told_end g1 g6 g7
        have hS6 : w6.cell? ⟨w2.heap.size + 1, 0, none⟩ = some (ptr w2.heap.size) ∧ w6.cell? ⟨w2.heap.size + 2, 0, none⟩ = some (.pointer (some ⟨fb, fo, none⟩)) ∧ w6.cell? ⟨w2.heap.size + 2, 1, none⟩ = some (.map (some mb)) := ⟨z_ (i := 0) g3 rfl, z_ (i := 0) g4 rfl, z_ (i := 1) g4 rfl⟩
        refine hK _ _ hS6 (fun _ => ?_)
        clear hK K h' hf' hx g1 g2 g3 g4 g5 g6 g7 hov
        refine wpAnyH_ready (rs := [5]) (by kernel_rfl) (by simp) ?_
        refine AllReadyH.cons (o := { dst := some 9, op := Op.assign (Operand.tmp 30), type := 2, pos := "run.go:17", after := #[{ on := 4, ground := Ground.data }, { on := 4, ground := Ground.chain }, { on := 0, ground := Ground.phase }, { on := 1, ground := Ground.phase }, { on := 2, ground := Ground.phase }, { on := 3, ground := Ground.phase }, { on := 4, ground := Ground.phase }], guard := none }) rfl (fun K hK => ?_) AllReadyH.nil
        go_simp
        refine hK _ _ hS6 (fun _ => ?_)
        clear hK K hS6 hS5
        refine wpAnyH_done (by kernel_rfl) ?_ _
        simp only [Pan12]
        go_wp2_with fail
        go_meet
        obtain ⟨p, l, c, q1, q2, q3⟩ := HE.out
        exact ⟨n9, p, l, c, rfl, q1, q2, q3⟩
    case rest =>
      obtain ⟨z, p, l, c8, rfl, q1, q2, HF⟩ := hcut
      obtain ⟨w6, hw6⟩ : ∃ w6, w6 = wc := ⟨_, rfl⟩
      rw [← hw6] at q1 q2 HF ⊢
      clear hw6
      have r0 := z_ (i := 0) HF.out.1 rfl
      have r1 := z_ (i := 1) HF.out.1 rfl
      have r2 := z_ (i := 2) HF.out.1 rfl
      have y0 := zb HF.out.1 0
      have y1 := zb HF.out.1 1
      have y2 := zb HF.out.1 2
      clear d7 d8 d9
      go_wp2
      refine leaves_cons (f := 49) (args := #[ptr (w2.heap.size + 1), ptr w.heap.size]) (by simp) (by simp [go_sem]) ?_
      refine (run_idle (w2.heap.size + 1) w.heap.size _).mono ?_
      rintro e u' w7 ⟨rfl, rfl, rfl⟩
      exact ⟨_, res12 _ _ w.heap.size _ _ _ rfl (set3 HF.out.1), HF.out.2⟩
end Go.Proofs.YtnfhpdbbfejioaaGreatDoor.Mid
