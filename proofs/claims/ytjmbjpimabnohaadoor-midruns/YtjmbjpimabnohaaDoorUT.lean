/- The document's run of steps: code, walked. -/
import Derived.Test.YtjmbjpimabnohaaDoorUS
import Derived.Laws.CopyOwn
namespace Go.Proofs.YtjmbjpimabnohaaDoor.Mid
set_option linter.unusedVariables false
set_option linter.unusedSimpArgs false
open Go Go.RowKit

theorem cd_door {X : Qx} {w wr : World} {r r' : Rr} {d : Nat} {way z : Int} {x : Except (Int × List Int) (Int × Sg)} (h : Wm X.w0 X.P wr r' (d + 1) way) (hz : Wz X.P NoE w r wr r') (hB : wr.cell? ⟨w.heap.size, 0, none⟩ = some (ptr X.P)) (hx : (way = 0 ∧ x = .ok (z, r'.s)) ∨ (way ≠ 0 ∧ x = .error (way, r'.s.out))) :
    CallsD Tryd.prog 46 #[ptr w.heap.size] .returning wr (fun e u' w' => e = .returned (.tuple #[]) ∧ u' = .returning ∧ CdP X w r d x (.returned (.int .i64 z)) w') := by
  refine (code_leaves X wr r' d way w.heap.size h hB).mono ?_
  rintro e u' w' ⟨rfl, rfl, h1, h2⟩
  exact ⟨rfl, rfl, z, rfl, r', way, h1, hz.trans h2, hx⟩
theorem spl_get {nt : Nat} {vs : List Int} {cur : List Value} (hc : cur = List.replicate nt (Value.int .i64 0)) (hle : vs.length ≤ nt) {i : Nat} (hi : i < nt) : (splice cur 0 (ints vs))[i]? = some (.int .i64 (vs.getD i 0)) := by
  subst hc
  unfold splice
  rw [List.take_zero, List.nil_append, Nat.zero_add, List.getElem?_append, List.getD_eq_getElem?_getD]
  have hl : (ints vs).length = vs.length := by simp [ints]
  rw [hl]
  by_cases h : i < vs.length
  · rw [if_pos h, show (ints vs)[i]? = vs[i]?.map (fun x => Value.int .i64 x) from List.getElem?_map .., List.getElem?_eq_getElem h]
    rfl
  · rw [if_neg h, List.getElem?_drop, List.getElem?_replicate, if_pos (by omega), List.getElem?_eq_none (by omega)]
    rfl
/-- A step that goes on with the next one. -/
theorem stepG_do {fs : By → Option Mf} {g d : Nat} {F : Mf} {k : Nat} {o : List Vl} {s : Ms} (h8 : s.code ≠ 8) (h4 : s.code ≠ 4) (h5 : s.code = 5 → (pl o s.a).1 ≠ 0) : stepG fs g d F k o s = gb (doG fs g d s o) fun o' => goN fs g d F (k + 1) o' := by
  unfold stepG
  rw [if_neg h8, if_neg h4]
  unfold doG
  by_cases e5 : s.code = 5
  · rw [if_pos e5, if_neg (h5 e5), if_neg (by omega), if_neg (by omega), if_pos (.inl e5), gpb]
  rw [if_neg e5]
  by_cases e13 : s.code = 13
  · rw [if_pos e13, if_pos e13, gbb]
    rfl
  rw [if_neg e13, if_neg e13]
  by_cases e12 : s.code = 12
  · rw [if_pos e12, if_pos e12, gbb]
    rfl
  rw [if_neg e12, if_neg e12]
  by_cases e6 : s.code = 6
  · rw [if_pos e6, if_pos (.inr e6), gpb]
  rw [if_neg e6, if_neg (by omega), gbb]
  rfl
/-- Places, fresh, with the args in them. -/
theorem ow_new {P : Nat} {w4 : World} {r : Rr} {vb nt : Nat} {G : Mf} {o : List Vl} {vs : List Int} {cur : List Value} (ha : ArR r G o vs) (hn : G.types.length = nt) (hc : cur = List.replicate nt (Value.int .i64 0)) (h : w4.heap[vb]? = some (.cells (splice cur 0 (ints vs)).toArray 2)) (hx : ¬ Xw P r vb) : OwR P w4 r vb G o := by
  have hle : vs.length ≤ nt := by have := ha.le; have := ha.len; omega
  refine ⟨⟨_, h, ?_, fun i x t hx ht => ?_⟩, ha.len, hx⟩
  · rw [length_splice _ _ _ (by rw [hc]; simp [ints]; omega), hc, List.length_replicate, ha.len, hn]
  · have hi : i < nt := by have := (List.getElem?_eq_some_iff.1 ht).1; omega
    obtain ⟨a1, a2⟩ := ha.at' i x t hx ht
    rw [spl_get hc hle hi, a1]
    exact ⟨rfl, a2⟩
set_option maxRecDepth 100000 in
set_option maxHeartbeats 40000000 in
theorem code_step {X : Qx} {L : List Mf} {ql : Option Addr} {cl : Nat} (hE : CdE X L ql cl) {g : Nat} (hC : ∀ g', g' < g → CallR X L ql cl g') : CallR X L ql cl g := by
  intro nm G hG w r d o vs q n c hw hne
  obtain ⟨jj, hjj, hnm, hoth⟩ := fsL_at hG
  have hfn0 := hE.fn hjj
  obtain ⟨gl, pp, hql, hfn⟩ := hfn0
  have HFn : Hid (∀ i G, L[i]? = some G → FnAt X.w0 gl (pp + i * 4) G) := hfn
  have HE : Hid (CdE X L ql cl) := hE
  have HC : Hid (∀ g', g' < g → CallR X L ql cl g') := hC
  have HGn : Hid (fsL L nm = some G ∧ L[jj]? = some G ∧ G.name = nm ∧ ∀ (i : Nat) (F : Mf), i < jj → L[i]? = some F → F.name ≠ nm) := ⟨hG, hjj, hnm, hoth⟩
  have hjl : jj < L.length := (List.getElem?_eq_some_iff.1 hjj).1
  have hll : L.length ≤ 12 := hE.rv.le
  obtain ⟨W1, hW1⟩ : ∃ W1, W1 = w.alloc (.cells #[ptr X.P] 84) := ⟨_, rfl⟩
  have hb1 : Below w.heap.size w W1 := by rw [hW1]; exact al_bel _ _
  have H1 : Hid (Below w.heap.size w W1 ∧ W1.heap.size = w.heap.size + 1 ∧ W1.heap[w.heap.size]? = some (.cells #[ptr X.P] 84)) := ⟨hb1, by rw [hW1]; simp, by rw [hW1]; exact heap_alloc_last _ _⟩
  have HEn : Hid (Calls Tryd.prog 45 #[ptr X.P] W1 (NtP X W1 r d)) := enter_any X W1 r d (hw.wm.below hb1)
  have HW : Hid (CdW X w r d G o vs q n c) := hw
  have HNe : Hid (∀ out, callG (fsL L) g d G o r.s ≠ .error (99, out)) := hne
  have hmf : ∀ (fn : Fn) (first cap : Array Value) (w : World), (Instr.makeFunc fn first cap).run Tryd.prog w = .ok (.func fn first cap) w := fun _ _ _ _ => rfl
  generalize hGG : CdP X w r d (callG (fsL L) g d G o r.s) = GG
  have HG : Hid (CdP X w r d (callG (fsL L) g d G o r.s) = GG) := hGG
  obtain ⟨ll, hll2⟩ : ∃ ll, L.length = ll := ⟨_, rfl⟩
  have HLl : Hid (L.length = ll) := hll2
  obtain ⟨y, hy⟩ : ∃ y : ByteArray, (⟨nm.toArray⟩ : ByteArray) = y := ⟨_, rfl⟩
  have HY : Hid ((⟨nm.toArray⟩ : ByteArray) = y) := hy
  rw [hll2] at hjl hll ⊢
  rw [hy, hql]
  have HQl : Hid (ql = some ⟨gl, pp, none⟩) := hql
  clear hE hC hw hne hG hjj hnm hoth hfn hGG hll2 hy hb1 hql
  go_enter_defers Tryd.func33, Tryd.ntmps33
  go_wp2_with (go_at_call 45; fail)
  rw [← hW1]
  clear hW1
  refine HEn.out.mono ?_
  rintro e w1 (⟨h40, rfl, h1, hz1⟩ | ⟨h40, rfl, h1, hz1⟩)
  · have HX : Hid (GG (.returned (.int .i64 0)) w1) := by
      show GG _ _
      rw [← HG.out]
      refine ⟨0, rfl, r, 5, h1, (Wz.below H1.out.1).trans hz1, .inr ⟨by decide, ?_⟩⟩
      unfold callG
      rw [if_pos h40]
      rfl
    clear h1 hz1
    go_wp2
    exact ⟨_, results_tmp (t := 8) rfl _ _ _, HX.out⟩
  · have HE2 : Hid (callG (fsL L) g d G o r.s = goN (fsL L) g (d + 1) G 0 o r.s) := by show (if 40 ≤ d then gt 5 else goN (fsL L) g (d + 1) G 0 o) r.s = _; exact congrFun (if_neg (by omega)) _
    have HM1 : Hid (Wm X.w0 X.P w1 r (d + 1) 0 ∧ Wz X.P NoE w r w1 r) := ⟨h1, (Wz.below H1.out.1).trans hz1⟩
    have hk1 : w1.heap[w.heap.size]? = some (.cells #[ptr X.P] 84) := by
      rw [hz1.blk w.heap.size (by have := H1.out.2.1; omega) (HW.out.wm.newX (Nat.le_refl _)) (fun e => e)]
      exact H1.out.2.2
    have HK1 : Hid (w1.heap[w.heap.size]? = some (.cells #[ptr X.P] 84)) := hk1
    clear h1 hz1 hk1
    go_wp2_with fail
    go_loopw [9] (fun v wr => ∃ i : Nat, i ≤ jj ∧ v = .int .i64 i ∧ Hid (wr = w1)) (fun v _ => jj - (intOf v).toNat)
    case atStart => exact ⟨0, Nat.zero_le _, rfl, rfl⟩
    case round =>
      obtain ⟨i, hij, rfl, HWr⟩ := hrel
      obtain rfl := HWr.out
      by_cases hlt : i < jj
      · obtain ⟨Fi, hFi⟩ : ∃ F, L[i]? = some F := ⟨L[i]'(by have := HLl.out; omega), List.getElem?_eq_getElem _⟩
        have hA := HFn.out i Fi hFi
        have u0 := hA.c0
        have u1 : wr.cell? ⟨gl, pp + i * 4, none⟩ = some (.string ⟨Fi.name.toArray⟩) := by
          rw [← u0]
          exact World.cell?_of_block (a := ⟨gl, pp + i * 4, none⟩) (HM1.out.1.kp gl (cell_lt u0))
        have hny : (⟨Fi.name.toArray⟩ : ByteArray) ≠ y := fun e => HGn.out.2.2.2 i Fi hlt hFi (by
          rw [← HY.out] at e
          have := congrArg (fun b : ByteArray => b.data.toList) e
          simpa using this)
        generalize (⟨Fi.name.toArray⟩ : ByteArray) = yi at u1 hny
        have hny2 : (yi.toList == y.toList) = false := by
          rw [← tl_eq, ← tl_eq, Bool.eq_false_iff]
          intro e
          have e2 : yi.data.toList = y.data.toList := by simpa using e
          exact hny (by cases yi; cases y; congr 1; exact Array.ext' e2)
        clear hFi hA u0
        go_wp2
        exact ⟨⟨i + 1, by omega, by go_num, by trivial⟩, by simp [intOf]; omega⟩
      · have hij2 : i = jj := by omega
        subst hij2
        have hA := HFn.out i G HGn.out.2.1
        have kp : ∀ (b o : Nat) (v : Value), X.w0.cell? ⟨b, o, none⟩ = some v → wr.cell? ⟨b, o, none⟩ = some v := fun b o v hv => by
          rw [← hv]
          exact World.cell?_of_block (a := ⟨b, o, none⟩) (HM1.out.1.kp b (cell_lt hv))
        obtain ⟨vt, ht0, qt, ct, rfl, hnt, -, -⟩ := hA.c2
        obtain ⟨qs, cs, hs0, hsc, hss⟩ := hA.c3
        have hRb := rb_e (HE.out.rv.rt G (fsL_mem HGn.out.1).1)
        obtain ⟨gs, ps, rfl, hsts⟩ : ∃ g p, qs = some ⟨g, p, none⟩ ∧ ∀ j s, G.steps[j]? = some s → StepAt X.w0 g (p + j * 10) s := by
          rcases hss with h | h
          · have := hRb.1.1; rw [h] at this; simp at this
          · exact h
        have HSA : Hid (∀ j s, G.steps[j]? = some s → StepAt X.w0 gs (ps + j * 10) s) := hsts
        have HRb : Hid ((1 ≤ G.steps.length ∧ G.steps.length ≤ 6000) ∧ lastB G = true ∧ labsOk G.steps ∧ ∀ s ∈ G.steps, stepB (fsL L) G s = true) := hRb
        have u0 : wr.cell? ⟨gl, pp + i * 4, none⟩ = some (.string y) := by rw [kp _ _ _ hA.c0, HGn.out.2.2.1, HY.out]
        have u1 := kp _ _ _ hA.c1
        have u2 := kp _ _ _ ht0
        have u3 := kp _ _ _ hs0
        obtain ⟨nt, hntE⟩ : ∃ nt, G.types.length = nt := ⟨_, rfl⟩
        obtain ⟨ns, hnsE⟩ : ∃ ns, G.steps.length = ns := ⟨_, rfl⟩
        obtain ⟨pr, hpr⟩ : ∃ pr, G.params = pr := ⟨_, rfl⟩
        rw [hntE] at u2 hnt
        rw [hnsE] at u3 hsc
        rw [hpr] at u1
        have HN : Hid (G.types.length = nt ∧ G.steps.length = ns) := ⟨hntE, hnsE⟩
        have hns6 : ns ≤ 6000 := by rw [← hnsE]; exact hRb.1.2
        have hmk := mk_ints2 nt hnt
        obtain ⟨cur, hcur⟩ : ∃ cur, cur = List.replicate nt (Value.int .i64 0) := ⟨_, rfl⟩
        obtain ⟨W4, hW4⟩ : ∃ W4, W4 = (wr.alloc (.cells #[.string y, .int .i64 pr, .slice qt nt ct, .slice (some ⟨gs, ps, none⟩) ns cs] 57)).alloc (.cells (Array.replicate nt (.int .i64 0)) 2) := ⟨_, rfl⟩
        have hz4 : W4.heap.size = wr.heap.size + 2 := by rw [hW4]; simp
        have hb4 : Below wr.heap.size wr W4 := by rw [hW4]; exact (al_bel _ _).trans ((al_bel (wr.alloc _) _).mono (by simp))
        have hf4 : W4.heap[wr.heap.size]? = some (.cells #[.string y, .int .i64 pr, .slice qt nt ct, .slice (some ⟨gs, ps, none⟩) ns cs] 57) := by rw [hW4, row_eq_alloc (by simp)]; exact heap_alloc_last _ _
        have hv4 : W4.heap[wr.heap.size + 1]? = some (.cells cur.toArray 2) := by
          have e : (wr.alloc (.cells #[.string y, .int .i64 pr, .slice qt nt ct, .slice (some ⟨gs, ps, none⟩) ns cs] 57)).heap.size = wr.heap.size + 1 := by simp
          rw [hW4, ← e, heap_alloc_last, hcur]
          simp
        have hn : n = vs.length := by have := HW.out.own.1; simpa [ints] using this.symm
        have hvl : vs.length ≤ nt := by have := HW.out.ar.le; have := HW.out.ar.len; omega
        obtain ⟨zs, hzs⟩ : ∃ zs, ints vs = zs := ⟨_, rfl⟩
        have hzl : zs.length = n := by rw [← hzs, hn]; simp [ints]
        have HPos : Hid (0 < zs.length → some (⟨wr.heap.size + 1, 0, none⟩ : Addr) = some ⟨wr.heap.size + 1, 0, none⟩ ∧ ∃ ad, q = some ad ∧ ∀ j v, zs[j]? = some v → W4.cell? (ad.add j) = some v) := fun h0 => by
          refine ⟨rfl, ?_⟩
          have hown := own_at HW.out.own (w' := W4) (fun b hb => by
            have h1 := own_lt HW.out.own b hb
            have h2 := HM1.out.2.size
            rw [hb4.block b (by omega), HM1.out.2.blk b h1 (HW.out.nx b hb) (fun e => e)])
          obtain ⟨e1, hh⟩ := hown
          rcases hh with ⟨e2, e3⟩ | ⟨g9, cap, cur9, e2, hb9, hg9, hc9, hle9, hz9, ht9⟩
          · omega
          · injection e2 with e2
            subst e2
            refine ⟨_, rfl, fun j v hj => ?_⟩
            have e : (⟨g9, 0, none⟩ : Addr).add j = ⟨g9, j, none⟩ := by unfold Addr.add; split <;> simp_all
            rw [e]
            refine cell_at hg9 ?_
            rw [← hzs, ← ht9, List.getElem?_take] at hj
            split at hj
            · simpa using hj
            · cases hj
        have HNe1 : Hid (∀ v ∈ zs, v.oneCell' = true) := fun v hv => by
          rw [← hzs] at hv
          obtain ⟨x, _, rfl⟩ := List.mem_map.1 hv
          rfl
        have HF4 : Hid (W4.heap.size = wr.heap.size + 2 ∧ Below wr.heap.size wr W4 ∧ W4.heap[wr.heap.size]? = some (.cells #[.string y, .int .i64 pr, .slice qt nt ct, .slice (some ⟨gs, ps, none⟩) ns cs] 57) ∧ W4.heap[wr.heap.size + 1]? = some (.cells cur.toArray 2)) := ⟨hz4, hb4, hf4, hv4⟩
        have HCu : Hid (cur = List.replicate nt (Value.int .i64 0) ∧ ints vs = zs ∧ zs.length = n ∧ n ≤ nt) := ⟨hcur, hzs, hzl, by omega⟩
        have HSz : Hid ((Tryd.prog.info? 2).map (·.size) = some 1) := by show _ = _; kernel_rfl
        have HW4 : Hid (W4 = (wr.alloc (.cells #[.string y, .int .i64 pr, .slice qt nt ct, .slice (some ⟨gs, ps, none⟩) ns cs] 57)).alloc (.cells (Array.replicate nt (.int .i64 0)) 2)) := hW4
        clear hA kp ht0 hs0 hss hsts hRb hntE hnsE hpr hcur hW4 hz4 hb4 hf4 hv4 hn hvl hzs hzl
        go_wp2_with (refine wpList_copy_splice rfl (.tmp 37) (.tmp 38) 23 23 rfl 2 Tryd.underlying23 HSz.out (some ⟨wr.heap.size + 1, 0, none⟩) q nt nt n c (by rfl) (by rfl) (wr.heap.size + 1) 0 cur 2 (by rw [← HW4.out]; exact HF4.out.2.2.2) zs (by rw [HCu.out.2.2.1]; have := HCu.out.2.2.2; show n = min n nt; omega) (by rw [← HW4.out]; exact HPos.out) (by rw [HCu.out.2.2.1, HCu.out.1, List.length_replicate]; have := HCu.out.2.2.2; omega) HNe1.out (wr.heap.size + 1) W4 (by rw [← HW4.out]; exact Below.refl _ _) (Nat.le_refl _) ?_)
        intro w4 HG4 hB4
        have hlt1 : w.heap.size < wr.heap.size := (Array.getElem?_eq_some_iff.1 HK1.out).1
        have hbel : Below wr.heap.size wr w4 := HF4.out.2.1.trans (hB4.mono (by omega))
        have hbx4 : w4.heap[w.heap.size]? = some (.cells #[ptr X.P] 84) := by rw [hbel.block _ hlt1]; exact HK1.out
        have hbf4 : w4.heap[wr.heap.size]? = some (.cells #[.string y, .int .i64 pr, .slice qt nt ct, .slice (some ⟨gs, ps, none⟩) ns cs] 57) := by rw [hB4.block _ (by omega)]; exact HF4.out.2.2.1
        have hm4 : Wm X.w0 X.P w4 r (d + 1) 0 := HM1.out.1.below hbel
        have hz4 : Wz X.P NoE w r w4 r := HM1.out.2.trans (Wz.below hbel)
        have how4 : OwR X.P w4 r (wr.heap.size + 1) G o := ow_new HW.out.ar HN.out.1 HCu.out.1 (by rw [HCu.out.2.1]; exact HG4.out) (HW.out.wm.newX (by omega))
        have hvl : wr.heap.size + 1 < w4.heap.size := (Array.getElem?_eq_some_iff.1 HG4.out).1
        obtain ⟨fb, hfb⟩ : ∃ fb, wr.heap.size = fb := ⟨_, rfl⟩
        rw [hfb] at hlt1 hbf4 how4 hvl ⊢
        obtain ⟨vb, hvb⟩ : ∃ vb, fb + 1 = vb := ⟨_, rfl⟩
        rw [hvb] at how4 hvl ⊢
        have HLp : Hid (LqI ⟨X, L, G, g, d, o, r.s⟩ w4 r vb w4 0) := .on g r o hm4 (Wz.refl _ _ _ _) how4 HW.out.oi HW.out.gi HW.out.few (Nat.le_refl _) (by have := HRb.out.1.1; show 0 < G.steps.length; omega) rfl
        have HBx : Hid (∀ W r', Wz X.P (fun b => b = vb) w4 r W r' → W.cell? ⟨w.heap.size, 0, none⟩ = some (ptr X.P) ∧ W.cell? ⟨fb, 3, none⟩ = some (.slice (some ⟨gs, ps, none⟩) ns cs)) := fun W r' hz => by
          refine ⟨cell_at (i := 0) (by rw [hz.blk _ (by omega) (HW.out.wm.newX (Nat.le_refl _)) (by show ¬ w.heap.size = vb; omega)]; exact hbx4) rfl, cell_at (i := 3) (by rw [hz.blk _ (by omega) (HW.out.wm.newX (by omega)) (by show ¬ fb = vb; omega)]; exact hbf4) rfl⟩
        have HDoor : Hid (∀ W r' way z, Wm X.w0 X.P W r' (d + 1) way → Wz X.P (fun b => b = vb) w4 r W r' → ((way = 0 ∧ goN (fsL L) g (d + 1) G 0 o r.s = .ok (z, r'.s)) ∨ (way ≠ 0 ∧ goN (fsL L) g (d + 1) G 0 o r.s = .error (way, r'.s.out))) → CallsD Tryd.prog 46 #[ptr w.heap.size] .returning W (fun e u' w' => e = .returned (.tuple #[]) ∧ u' = .returning ∧ GG (.returned (.int .i64 z)) w')) := fun W r' way z h1 h2 h3 => by
          rw [← HG.out, HE2.out]
          exact cd_door h1 ((hz4.no.trans h2).drop (fun b hb => by subst hb; omega)) (HBx.out W r' h2).1 h3
        have HNe2 : Hid (∀ out, goN (fsL L) g (d + 1) G 0 o r.s ≠ .error (99, out)) := fun out => by rw [← HE2.out]; exact HNe.out out
        have HVb : Hid (vb < w4.heap.size ∧ w.heap.size < vb) := ⟨hvl, by omega⟩
        clear hlt1 hbel hbx4 hbf4 hm4 hz4 how4 hvl hB4 HF4 HPos HW4 HCu HK1 HM1 hmk u0 u1 u2 u3 HG4 hvb hfb HNe1 HWr HSz
        go_wp2_with fail
        go_loopw [12] (fun v wr => ∃ k : Nat, v = .int .i64 k ∧ Hid (LqI ⟨X, L, G, g, d, o, r.s⟩ w4 r vb wr k)) (fun _ wr => fuelR X.P wr)
        case atStart => exact ⟨0, rfl, HLp⟩
        case round =>
          obtain ⟨k, rfl, HL⟩ := hrel
          rcases HL.out with ⟨g', r', o', h1, h2, h3, h4, h5, h6, h7, h8, h9⟩ | ⟨way, r', h0, h1, h2, h3⟩
          · dsimp only at h1 h2 h3 h7 h8 h9
            obtain ⟨g2, rfl⟩ : ∃ g2, g' = g2 + 1 := by
              cases g' with
              | zero => exact absurd (h9.trans (goN_0 (fsL L) (d + 1) G k o' r'.s)) (HNe2.out _)
              | succ g2 => exact ⟨g2, rfl⟩
            obtain ⟨s, hst⟩ : ∃ s, G.steps[k]? = some s := ⟨G.steps[k], List.getElem?_eq_getElem h8⟩
            have HE7 : Hid (goN (fsL L) g (d + 1) G 0 o r.s = goN (fsL L) (g2 + 1) (d + 1) G k o' r'.s) := h9
            have HQ : Hid (Wm X.w0 X.P wr r' (d + 1) 0 ∧ Wz X.P (fun b => b = vb) w4 r wr r' ∧ OwR X.P wr r' vb G o' ∧ OI o' ∧ Gi r'.s ∧ hfS r'.s ≤ 10000000) := ⟨h1, h2, h3, h4, h5, h6⟩
            have HSt : Hid (G.steps[k]? = some s ∧ g2 + 1 ≤ g ∧ k < G.steps.length) := ⟨hst, h7, h8⟩
            obtain ⟨b0, b3⟩ := HBx.out _ r' h2
            have c4 : wr.cell? ⟨X.P, 4, none⟩ = some (.int .i64 0) := cell_at (i := 4) h1.pb rfl
            have HSp : Hid (Calls Tryd.prog 47 #[ptr X.P] wr (SpP X wr r' (d + 1))) := spend_any X wr r' (d + 1) h1
            clear h1 h2 h3 h4 h5 h6 h7 h8 h9 hst HL b3
            go_wp2_with (go_at_call 47; fail)
            refine HSp.out.mono ?_
            rintro e w5 (⟨f0, rfl, m1, z1⟩ | ⟨f0, rfl, m1, z1⟩)
            · have HD : Hid (CallsD Tryd.prog 46 #[ptr w.heap.size] .returning w5 (fun e u' w' => e = .returned (.tuple #[]) ∧ u' = .returning ∧ GG (.returned (.int .i64 0)) w')) := HDoor.out _ r' 6 0 m1 (HQ.out.2.1.trans z1.no) (.inr ⟨by decide, by rw [HE7.out, goN_s HSt.out.1, gb_e (pay_no f0)]⟩)
              clear m1 z1 f0
              go_wp2
              refine leaves_cons (f := 46) (args := #[ptr w.heap.size]) (by simp) (by simp [go_sem]) ?_
              refine HD.out.mono ?_
              rintro e u' w6 ⟨rfl, rfl, hg⟩
              exact ⟨_, results_tmp (t := 8) rfl _ _ _, hg⟩
            · obtain ⟨r1, hr1⟩ : ∃ r1, r'.fuel1 = r1 := ⟨_, rfl⟩
              rw [hr1] at m1 z1
              have hfu : r1.s.fuel = r'.s.fuel - 1 := by rw [← hr1]; rfl
              have HHf : Hid (hfS r1.s = hfS r'.s - 1) := by rw [← hr1]; show (r'.s.hp.length : Int) + (r'.s.fuel - 1) = (r'.s.hp.length : Int) + r'.s.fuel - 1; omega
              have HGi1 : Hid (Gi r1.s) := by rw [← hr1]; exact ⟨HQ.out.2.2.2.2.1.hp, HQ.out.2.2.2.2.1.inp⟩
              have HE8 : Hid (goN (fsL L) g (d + 1) G 0 o r.s = stepG (fsL L) g2 (d + 1) G k o' s r1.s) := by show _ = _; rw [HE7.out, goN_s HSt.out.1, gb_o (pay_yes f0), ← hr1]; rfl
              have HP : Hid (Wm X.w0 X.P w5 r1 (d + 1) 0 ∧ Wz X.P (fun b => b = vb) w4 r w5 r1 ∧ OwR X.P w5 r1 vb G o') := ⟨m1, HQ.out.2.1.trans z1.no, HQ.out.2.2.1.on z1 (fun e => e)⟩
              have HFe : Hid (r1.ab.length ≤ 10000000) := by
                have e1 := m1.alen
                have e2 := HQ.out.2.2.2.2.2
                have e3 := HHf.out
                unfold hfS at e2 e3
                show r1.ab.length ≤ 10000000
                omega
              have HMe : Hid (fuelR X.P wr = r'.s.fuel.toNat + 1 ∧ 0 < r'.s.fuel ∧ r1.s.fuel = r'.s.fuel - 1) := ⟨fuelR_0 HQ.out.1, by omega, hfu⟩
              have HNx : Hid (∀ W r2 o2 k2 g3, Wm X.w0 X.P W r2 (d + 1) 0 → Wz X.P (fun b => b = vb) w5 r1 W r2 → OwR X.P W r2 vb G o2 → OI o2 → Gi r2.s → hfS r2.s ≤ 10000000 → g3 ≤ g → k2 < G.steps.length → goN (fsL L) g (d + 1) G 0 o r.s = goN (fsL L) g3 (d + 1) G k2 o2 r2.s → r2.s.fuel ≤ r1.s.fuel → LqI ⟨X, L, G, g, d, o, r.s⟩ w4 r vb W k2 ∧ fuelR X.P W < fuelR X.P wr) := fun W r2 o2 k2 g3 a1 a2 a3 a4 a5 a6 a7 a8 a9 a10 => by
                refine ⟨.on g3 r2 o2 a1 (HP.out.2.1.trans a2) a3 a4 a5 a6 a7 a8 a9, ?_⟩
                have := HMe.out
                rw [fuelR_0 a1, this.1]
                omega
              have HNo : Hid (∀ W r2 way k2, way ≠ 0 → Wm X.w0 X.P W r2 (d + 1) way → Wz X.P (fun b => b = vb) w5 r1 W r2 → goN (fsL L) g (d + 1) G 0 o r.s = .error (way, r2.s.out) → LqI ⟨X, L, G, g, d, o, r.s⟩ w4 r vb W k2 ∧ fuelR X.P W < fuelR X.P wr) := fun W r2 way k2 a0 a1 a2 a3 => by
                refine ⟨.off way r2 a0 a1 (HP.out.2.1.trans a2) a3, ?_⟩
                have := HMe.out
                rw [fuelR_1 a1 a0, this.1]
                omega
              have HFy : Hid (∀ W k2, Below w5.heap.size w5 W → k2 < G.steps.length → goN (fsL L) g (d + 1) G 0 o r.s = goN (fsL L) g2 (d + 1) G k2 o' r1.s → LqI ⟨X, L, G, g, d, o, r.s⟩ w4 r vb W k2 ∧ fuelR X.P W < fuelR X.P wr) := fun W k2 hb a1 a2 => by
                refine HNx.out W r1 o' k2 g2 (HP.out.1.below hb) (Wz.below hb) (HP.out.2.2.on (E := NoE) (Wz.below hb) (fun e => e)) HQ.out.2.2.2.1 HGi1.out (by have := HHf.out; have := HQ.out.2.2.2.2.2; omega) (by have := HSt.out.2.1; omega) a1 a2 (Int.le_refl _)
              have hSA := HSA.out k s HSt.out.1
              have HT : Hid (StT (fsL L) G s) := st_t (HRb.out.2.2.2 s (List.mem_of_getElem? HSt.out.1))
              obtain ⟨va, k9, qa, ca, rfl, hal, hIa, hca⟩ := hSA.c9
              have HAr : Hid (IntsAt X.w0 (.slice qa s.args.length ca) s.args) := ⟨qa, ca, rfl, hal, hIa, hca⟩
              have kp : ∀ (b o : Nat) (v : Value), X.w0.cell? ⟨b, o, none⟩ = some v → w5.cell? ⟨b, o, none⟩ = some v := fun b o v hv => by
                rw [← hv]
                exact World.cell?_of_block (a := ⟨b, o, none⟩) (m1.kp b (cell_lt hv))
              have s0 := kp _ _ _ hSA.c0
              have s1 := kp _ _ _ hSA.c1
              have s2 := kp _ _ _ hSA.c2
              have s3 := kp _ _ _ hSA.c3
              have s4 := kp _ _ _ hSA.c4
              have s5 := kp _ _ _ hSA.c5
              have s6 := kp _ _ _ hSA.c6
              have s7 := kp _ _ _ hSA.c7
              have s8 := kp _ _ _ hSA.c8
              have s9 := kp _ _ _ k9
              obtain ⟨b0, b3⟩ := HBx.out _ r1 HP.out.2.1
              have hkn : k < ns := by have := HSt.out.2.2; have := HN.out.2; omega
              obtain ⟨cd, hcd⟩ : ∃ cd, s.code = cd := ⟨_, rfl⟩
              rw [hcd] at s0
              have HCd : Hid (s.code = cd) := hcd
              obtain ⟨y6, hy6⟩ : ∃ y6 : ByteArray, (⟨s.op.toArray⟩ : ByteArray) = y6 := ⟨_, rfl⟩
              obtain ⟨y8, hy8⟩ : ∃ y8 : ByteArray, (⟨s.name.toArray⟩ : ByteArray) = y8 := ⟨_, rfl⟩
              have HY8 : Hid (y6.data.toList = s.op ∧ y8 = ⟨s.name.toArray⟩) := ⟨by rw [← hy6], hy8.symm⟩
              rw [hy6] at s6
              rw [hy8] at s8
              obtain ⟨na, hna⟩ : ∃ na, s.args.length = na := ⟨_, rfl⟩
              rw [hna] at s9 HAr
              obtain ⟨A6, hA6⟩ : ∃ A6 : Obj, A6 = .cells #[.int .i64 cd, .int .i64 s.dst, .int .i64 s.a, .int .i64 s.b, .int .i64 s.c, .int .i64 s.n, .string y6, .int .i64 s.label, .string y8, .slice qa na ca] 58 := ⟨_, rfl⟩
              have HA6 : Hid (A6 = .cells #[.int .i64 cd, .int .i64 s.dst, .int .i64 s.a, .int .i64 s.b, .int .i64 s.c, .int .i64 s.n, .string y6, .int .i64 s.label, .string y8, .slice qa na ca] 58) := hA6
              have hb6 : Below w5.heap.size w5 (w5.alloc A6) := al_bel _ _
              have HB6 : Hid (Below w5.heap.size w5 (w5.alloc A6)) := hb6
              have HO6 : Hid (OwR X.P (w5.alloc A6) r1 vb G o') := HP.out.2.2.on (E := NoE) (Wz.below hb6) (fun e => e)
              have HOl : Hid (o'.length = nt) := by show _ = _; rw [HO6.out.len]; exact HN.out.1
              clear f0 m1 z1 hr1 hfu hSA k9 hal hIa hca kp hcd hy6 hy8 hna hb6
              by_cases h8 : cd = 8
              · subst h8
                have ha := HT.out.a1 (by have := HCd.out; omega)
                obtain ⟨ia, ea, i1, i2, i3, _⟩ := HO6.out.get ha
                rw [ea] at s2
                have hial : (ia : Int) < (nt : Int) := by have := HOl.out; omega
                obtain ⟨z, hz⟩ : ∃ z, (pl o' s.a).1 = z := ⟨_, rfl⟩
                have i2' : (w5.alloc A6).cell? ⟨vb, ia, none⟩ = some (.int .i64 z) := by rw [i2, ← hz]; rfl
                have HD : Hid (CallsD Tryd.prog 46 #[ptr w.heap.size] .returning (w5.alloc A6) (fun e u' w' => e = .returned (.tuple #[]) ∧ u' = .returning ∧ GG (.returned (.int .i64 z)) w')) := HDoor.out _ r1 0 z (HP.out.1.below HB6.out) (HP.out.2.1.trans (Wz.below HB6.out)) (.inl ⟨rfl, by rw [HE8.out, sg_8 HCd.out, hz]; rfl⟩)
                rw [hA6, ea] at i2' HD
                rw [hA6] at i3
                clear hA6 ha i2 hz
                go_wp2
                refine leaves_cons (f := 46) (args := #[ptr w.heap.size]) (by simp) (by simp [go_sem]) ?_
                refine HD.out.mono ?_
                rintro e u' w6 ⟨rfl, rfl, hg⟩
                exact ⟨_, results_tmp (t := 8) rfl _ _ _, hg⟩
              · obtain ⟨wr0, hwr0⟩ : ∃ wr0, wr0 = wr := ⟨_, rfl⟩
                have HW0 : Hid (wr0 = wr) := hwr0
                by_cases h4 : cd = 4
                · obtain ⟨k2, hk2⟩ := HT.out.goes (by have := HCd.out; omega)
                  rw [← hwr0] at HFy
                  subst h4
                  have HK2 : Hid (labOf G.steps s.label = some k2 ∧ k2 + 1 < G.steps.length ∧ goN (fsL L) g (d + 1) G 0 o r.s = goN (fsL L) g2 (d + 1) G (k2 + 1) o' r1.s) := ⟨hk2, lab_next2 (last_e HRb.out.2.1) hk2, by rw [HE8.out, sg_4 HCd.out, hk2]; rfl⟩
                  have HB7 : Hid (Below w5.heap.size w5 (w5.alloc A6) ∧ (w5.alloc A6).cell? ⟨w5.heap.size, 7, none⟩ = some (.int .i64 s.label)) := ⟨HB6.out, cell_at (i := 7) (by rw [heap_alloc_last, hA6]) rfl⟩
                  have b3' : (w5.alloc A6).cell? ⟨fb, 3, none⟩ = some (.slice (some ⟨gs, ps, none⟩) ns cs) := cell_old b3
                  rw [hA6] at HB7 b3'
                  clear hA6 hk2
                  go_wp2_with fail
                  go_loopw [12, 84] (fun v j wr => ∃ m : Nat, m ≤ ns ∧ j = .int .i64 m ∧ Hid (v = .int .i64 ((labI G.steps s.label k m : Nat) : Int)) ∧ Hid (Below w5.heap.size w5 wr ∧ wr.cell? ⟨w5.heap.size, 7, none⟩ = some (.int .i64 s.label))) (fun _ j _ => ns - (intOf j).toNat)
                  case atStart => exact ⟨0, Nat.zero_le _, rfl, by show _ = _; rw [labI_0], HB7⟩
                  case round =>
                    obtain ⟨m, hmn, rfl, HV, HB⟩ := hrel
                    obtain ⟨li, hli⟩ : ∃ li, labI G.steps s.label k m = li := ⟨_, rfl⟩
                    have hv := HV.out
                    rw [hli] at hv
                    subst hv
                    have HLi : Hid (labI G.steps s.label k m = li) := hli
                    clear HV hli
                    by_cases hlt : m < ns
                    · obtain ⟨t, ht⟩ : ∃ t, G.steps[m]? = some t := ⟨G.steps[m]'(by have := HN.out.2; omega), List.getElem?_eq_getElem _⟩
                      have HTm : Hid (G.steps[m]? = some t) := ht
                      have hTA := HSA.out m t ht
                      obtain ⟨vt9, t9', qt9, ct9, rfl, -, -, -⟩ := hTA.c9
                      have kp : ∀ (b o : Nat) (v : Value), X.w0.cell? ⟨b, o, none⟩ = some v → wr.cell? ⟨b, o, none⟩ = some v := fun b o v hv => by
                        rw [← hv]
                        exact World.cell?_of_block (a := ⟨b, o, none⟩) ((HP.out.1.below HB.out.1).kp b (cell_lt hv))
                      have t0 := kp _ _ _ hTA.c0
                      have t1 := kp _ _ _ hTA.c1
                      have t2 := kp _ _ _ hTA.c2
                      have t3 := kp _ _ _ hTA.c3
                      have t4 := kp _ _ _ hTA.c4
                      have t5 := kp _ _ _ hTA.c5
                      have t6 := kp _ _ _ hTA.c6
                      have t7 := kp _ _ _ hTA.c7
                      have t8 := kp _ _ _ hTA.c8
                      have t9 := kp _ _ _ t9'
                      obtain ⟨tc, htc⟩ : ∃ tc, t.code = tc := ⟨_, rfl⟩
                      obtain ⟨tl, htl⟩ : ∃ tl, t.label = tl := ⟨_, rfl⟩
                      obtain ⟨sl, hsl⟩ : ∃ sl, s.label = sl := ⟨_, rfl⟩
                      rw [htc] at t0
                      rw [htl] at t7
                      have x7 : ∀ A, (wr.alloc A).cell? ⟨w5.heap.size, 7, none⟩ = some (.int .i64 sl) := fun A => by rw [← hsl]; exact cell_old HB.out.2
                      have HBn : Hid (∀ A, Below w5.heap.size w5 (wr.alloc A) ∧ (wr.alloc A).cell? ⟨w5.heap.size, 7, none⟩ = some (.int .i64 s.label)) := fun A => ⟨HB.out.1.trans ((al_bel wr A).mono HB.out.1.size), cell_old HB.out.2⟩
                      have HTl : Hid (t.code = tc ∧ t.label = tl ∧ s.label = sl) := ⟨htc, htl, hsl⟩
                      generalize t.dst = td at t1
                      generalize t.a = ta at t2
                      generalize t.b = tb at t3
                      generalize t.c = tcc at t4
                      generalize t.n = tn at t5
                      generalize (⟨t.op.toArray⟩ : ByteArray) = top at t6
                      generalize (⟨t.name.toArray⟩ : ByteArray) = tnm at t8
                      generalize t.args.length = tan at t9
                      clear ht hTA t9' kp htc htl hsl
                      by_cases h6 : tc = 6
                      · by_cases hl : tl = sl
                        · have HY : Hid (labI G.steps s.label k (m + 1) = m) := labI_yes HRb.out.2.2.1 HTm.out ⟨HTl.out.1.trans h6, by rw [HTl.out.2.1, HTl.out.2.2]; exact hl⟩
                          subst h6 hl
                          go_wp2
                          exact ⟨⟨m + 1, by omega, by go_num, by show _ = _; rw [HY.out], HBn.out _⟩, by simp [intOf]; omega⟩
                        · have HY : Hid (labI G.steps s.label k (m + 1) = li) := by show _ = _; rw [labI_no HTm.out (fun e => hl (by rw [← HTl.out.2.1, ← HTl.out.2.2]; exact e.2))]; exact HLi.out
                          have hl2 : (tl == sl) = false := by simpa using hl
                          subst h6
                          go_wp2
                          exact ⟨⟨m + 1, by omega, by go_num, by show _ = _; rw [HY.out], HBn.out _⟩, by simp [intOf]; omega⟩
                      · have HY : Hid (labI G.steps s.label k (m + 1) = li) := by show _ = _; rw [labI_no HTm.out (fun e => h6 (by rw [← HTl.out.1]; exact e.1))]; exact HLi.out
                        have h62 : (tc == 6) = false := by simpa using h6
                        go_wp2
                        exact ⟨⟨m + 1, by omega, by go_num, by show _ = _; rw [HY.out], HBn.out _⟩, by simp [intOf]; omega⟩
                    · have hme : m = G.steps.length := by have := HN.out.2; omega
                      have hlk : li = k2 := by rw [← HLi.out, hme, labI_all HK2.out.1]
                      subst hlk
                      obtain ⟨l1, l2⟩ := HFy.out wr (li + 1) HB.out.1 HK2.out.2.1 HK2.out.2.2
                      have HLL : Hid (LqI ⟨X, L, G, g, d, o, r.s⟩ w4 r vb wr (li + 1) ∧ fuelR X.P wr < fuelR X.P wr0) := ⟨l1, l2⟩
                      have hli9 : li ≤ 6000 := by have := HK2.out.2.1; have := HN.out.2; omega
                      clear hme l1 l2
                      go_wp2
                      exact ⟨⟨li + 1, by simp, HLL.out.1⟩, by have := HLL.out.2; rw [HW0.out] at this; exact this⟩
                · by_cases h5 : cd = 5
                  · obtain ⟨k2, hk2⟩ := HT.out.goes (by have := HCd.out; omega)
                    obtain ⟨z, hz⟩ : ∃ z, (pl o' s.a).1 = z := ⟨_, rfl⟩
                    subst h5
                    have ha := HT.out.a1 (by have := HCd.out; omega)
                    obtain ⟨ia, ea, i1, i2, i3, _⟩ := HO6.out.get ha
                    have hial : (ia : Int) < (nt : Int) := by have := HOl.out; omega
                    have i2' : (w5.alloc A6).cell? ⟨vb, ia, none⟩ = some (.int .i64 z) := by rw [i2, ← hz]; rfl
                    have HEA : Hid (s.a = (ia : Int)) := ea
                    have HB7 : Hid (Below w5.heap.size w5 (w5.alloc A6) ∧ (w5.alloc A6).cell? ⟨w5.heap.size, 7, none⟩ = some (.int .i64 s.label)) := ⟨HB6.out, cell_at (i := 7) (by rw [heap_alloc_last, hA6]) rfl⟩
                    have b3' : (w5.alloc A6).cell? ⟨fb, 3, none⟩ = some (.slice (some ⟨gs, ps, none⟩) ns cs) := cell_old b3
                    by_cases h0 : z = 0
                    · rw [← hwr0] at HFy
                      have HK2 : Hid (labOf G.steps s.label = some k2 ∧ k2 + 1 < G.steps.length ∧ goN (fsL L) g (d + 1) G 0 o r.s = goN (fsL L) g2 (d + 1) G (k2 + 1) o' r1.s) := ⟨hk2, lab_next2 (last_e HRb.out.2.1) hk2, by rw [HE8.out, sg_5 HCd.out, if_pos (by rw [hz, h0]), hk2]; rfl⟩
                      rw [ea] at s2 hA6
                      rw [h0] at i2'
                      rw [hA6] at HB7 b3' i2' i3
                      clear hA6 hk2 ha i2 hz ea
                      go_wp2_with fail
                      go_loopw [12, 84] (fun v j wr => ∃ m : Nat, m ≤ ns ∧ j = .int .i64 m ∧ Hid (v = .int .i64 ((labI G.steps s.label k m : Nat) : Int)) ∧ Hid (Below w5.heap.size w5 wr ∧ wr.cell? ⟨w5.heap.size, 7, none⟩ = some (.int .i64 s.label))) (fun _ j _ => ns - (intOf j).toNat)
                      case atStart => exact ⟨0, Nat.zero_le _, rfl, by show _ = _; rw [labI_0], HB7⟩
                      case round =>
                        obtain ⟨m, hmn, rfl, HV, HB⟩ := hrel
                        obtain ⟨li, hli⟩ : ∃ li, labI G.steps s.label k m = li := ⟨_, rfl⟩
                        have hv := HV.out
                        rw [hli] at hv
                        subst hv
                        have HLi : Hid (labI G.steps s.label k m = li) := hli
                        clear HV hli
                        by_cases hlt : m < ns
                        · obtain ⟨t, ht⟩ : ∃ t, G.steps[m]? = some t := ⟨G.steps[m]'(by have := HN.out.2; omega), List.getElem?_eq_getElem _⟩
                          have HTm : Hid (G.steps[m]? = some t) := ht
                          have hTA := HSA.out m t ht
                          obtain ⟨vt9, t9', qt9, ct9, rfl, -, -, -⟩ := hTA.c9
                          have kp : ∀ (b o : Nat) (v : Value), X.w0.cell? ⟨b, o, none⟩ = some v → wr.cell? ⟨b, o, none⟩ = some v := fun b o v hv => by
                            rw [← hv]
                            exact World.cell?_of_block (a := ⟨b, o, none⟩) ((HP.out.1.below HB.out.1).kp b (cell_lt hv))
                          have t0 := kp _ _ _ hTA.c0
                          have t1 := kp _ _ _ hTA.c1
                          have t2 := kp _ _ _ hTA.c2
                          have t3 := kp _ _ _ hTA.c3
                          have t4 := kp _ _ _ hTA.c4
                          have t5 := kp _ _ _ hTA.c5
                          have t6 := kp _ _ _ hTA.c6
                          have t7 := kp _ _ _ hTA.c7
                          have t8 := kp _ _ _ hTA.c8
                          have t9 := kp _ _ _ t9'
                          obtain ⟨tc, htc⟩ : ∃ tc, t.code = tc := ⟨_, rfl⟩
                          obtain ⟨tl, htl⟩ : ∃ tl, t.label = tl := ⟨_, rfl⟩
                          obtain ⟨sl, hsl⟩ : ∃ sl, s.label = sl := ⟨_, rfl⟩
                          rw [htc] at t0
                          rw [htl] at t7
                          have x7 : ∀ A, (wr.alloc A).cell? ⟨w5.heap.size, 7, none⟩ = some (.int .i64 sl) := fun A => by rw [← hsl]; exact cell_old HB.out.2
                          have HBn : Hid (∀ A, Below w5.heap.size w5 (wr.alloc A) ∧ (wr.alloc A).cell? ⟨w5.heap.size, 7, none⟩ = some (.int .i64 s.label)) := fun A => ⟨HB.out.1.trans ((al_bel wr A).mono HB.out.1.size), cell_old HB.out.2⟩
                          have HTl : Hid (t.code = tc ∧ t.label = tl ∧ s.label = sl) := ⟨htc, htl, hsl⟩
                          generalize t.dst = td at t1
                          generalize t.a = ta at t2
                          generalize t.b = tb at t3
                          generalize t.c = tcc at t4
                          generalize t.n = tn at t5
                          generalize (⟨t.op.toArray⟩ : ByteArray) = top at t6
                          generalize (⟨t.name.toArray⟩ : ByteArray) = tnm at t8
                          generalize t.args.length = tan at t9
                          clear ht hTA t9' kp htc htl hsl
                          by_cases h6 : tc = 6
                          · by_cases hl : tl = sl
                            · have HY : Hid (labI G.steps s.label k (m + 1) = m) := labI_yes HRb.out.2.2.1 HTm.out ⟨HTl.out.1.trans h6, by rw [HTl.out.2.1, HTl.out.2.2]; exact hl⟩
                              subst h6 hl
                              go_wp2
                              exact ⟨⟨m + 1, by omega, by go_num, by show _ = _; rw [HY.out], HBn.out _⟩, by simp [intOf]; omega⟩
                            · have HY : Hid (labI G.steps s.label k (m + 1) = li) := by show _ = _; rw [labI_no HTm.out (fun e => hl (by rw [← HTl.out.2.1, ← HTl.out.2.2]; exact e.2))]; exact HLi.out
                              have hl2 : (tl == sl) = false := by simpa using hl
                              subst h6
                              go_wp2
                              exact ⟨⟨m + 1, by omega, by go_num, by show _ = _; rw [HY.out], HBn.out _⟩, by simp [intOf]; omega⟩
                          · have HY : Hid (labI G.steps s.label k (m + 1) = li) := by show _ = _; rw [labI_no HTm.out (fun e => h6 (by rw [← HTl.out.1]; exact e.1))]; exact HLi.out
                            have h62 : (tc == 6) = false := by simpa using h6
                            go_wp2
                            exact ⟨⟨m + 1, by omega, by go_num, by show _ = _; rw [HY.out], HBn.out _⟩, by simp [intOf]; omega⟩
                        · have hme : m = G.steps.length := by have := HN.out.2; omega
                          have hlk : li = k2 := by rw [← HLi.out, hme, labI_all HK2.out.1]
                          subst hlk
                          obtain ⟨l1, l2⟩ := HFy.out wr (li + 1) HB.out.1 HK2.out.2.1 HK2.out.2.2
                          have HLL : Hid (LqI ⟨X, L, G, g, d, o, r.s⟩ w4 r vb wr (li + 1) ∧ fuelR X.P wr < fuelR X.P wr0) := ⟨l1, l2⟩
                          have hli9 : li ≤ 6000 := by have := HK2.out.2.1; have := HN.out.2; omega
                          clear hme l1 l2
                          go_wp2
                          exact ⟨⟨li + 1, by simp, HLL.out.1⟩, by have := HLL.out.2; rw [HW0.out] at this; exact this⟩
                    · have n8 : s.code ≠ 8 := by rw [HCd.out]; decide
                      have n4 : s.code ≠ 4 := by rw [HCd.out]; decide
                      have n5 : s.code = 5 → (pl o' s.a).1 ≠ 0 := fun _ => by rw [hz]; exact h0
                      have HE9 : Hid (goN (fsL L) g (d + 1) G 0 o r.s = (gb (doG (fsL L) g2 (d + 1) s o') fun o'' => goN (fsL L) g2 (d + 1) G (k + 1) o'') r1.s) := by show _ = _; rw [HE8.out, stepG_do n8 n4 n5]
                      have hnx := lab_next (last_e HRb.out.2.1) HSt.out.1 n8 n4
                      have hSg : Calls Tryd.prog 48 (sgA X ql L.length cl vb o'.length s y6 y8 qa na ca) (w5.alloc A6) (SgP X G (w5.alloc A6) r1 (d + 1) vb (doG (fsL L) g2 (d + 1) s o' r1.s)) :=
                        sg_any HE.out (HC.out g2 (by have := HSt.out.2.1; omega)) ⟨HP.out.1.below HB6.out, HO6.out, by have := HW.out.wm.le; have := HVb.out; omega, by rw [HOl.out]; exact hnt, HFe.out⟩ HT.out n4 n8 HY8.out.1 HY8.out.2 HAr.out HQ.out.2.2.2.1 HGi1.out (by have := HHf.out; have := HQ.out.2.2.2.2.2; omega) (gb_ne (fun out => by rw [← HE9.out]; exact HNe2.out out)).1
                      have HSg : Hid (Calls Tryd.prog 48 #[ptr X.P, .slice (some ⟨gl, pp, none⟩) ll cl, .slice (some ⟨vb, 0, none⟩) nt nt, .agg #[.int .i64 5, .int .i64 s.dst, .int .i64 s.a, .int .i64 s.b, .int .i64 s.c, .int .i64 s.n, .string y6, .int .i64 s.label, .string y8, .slice qa na ca]] (w5.alloc A6) (SgP X G (w5.alloc A6) r1 (d + 1) vb (doG (fsL L) g2 (d + 1) s o' r1.s))) := by
                        unfold sgA at hSg
                        rw [HOl.out, HLl.out, HQl.out, HCd.out] at hSg
                        exact hSg
                      have HFi : Hid (∀ w7, SgP X G (w5.alloc A6) r1 (d + 1) vb (doG (fsL L) g2 (d + 1) s o' r1.s) (.returned (.tuple #[])) w7 → LqI ⟨X, L, G, g, d, o, r.s⟩ w4 r vb w7 (k + 1) ∧ fuelR X.P w7 < fuelR X.P wr) := fun w7 hp => by
                        obtain ⟨_, r2, way, e1, e2, ⟨o2, rfl, e3, e4⟩ | ⟨e3, e4⟩⟩ := hp
                        · obtain ⟨e5, e6⟩ := iv_do HE.out.fi (HE.out.fi _ _ HGn.out.1 s (List.mem_of_getElem? HSt.out.1)) HQ.out.2.2.2.1 r1.s o2 r2.s HGi1.out e3
                          have e7 := hm_do r1.s o2 r2.s e3
                          refine HNx.out w7 r2 o2 (k + 1) g2 e1 ((Wz.below HB6.out).trans e2) e4 e6 e5 (by have := HHf.out; have := HQ.out.2.2.2.2.2; omega) (by have := HSt.out.2.1; omega) hnx (by rw [HE9.out, gb_o e3]) (fl_do r1.s o2 r2.s e3)
                        · exact HNo.out w7 r2 way (k + 1) e3 e1 ((Wz.below HB6.out).trans e2) (by rw [HE9.out, gb_e e4])
                      rw [ea] at s2
                      have b0' : (w5.alloc A6).cell? ⟨w.heap.size, 0, none⟩ = some (ptr X.P) := cell_old b0
                      rw [hA6, ea] at HSg HFi i2' b0'
                      rw [hA6] at i3
                      have z0 : (z == 0) = false := by simpa using h0
                      clear hA6 ha i2 hz ea hSg hnx n8 n4 n5 b3'
                      go_wp2_with (go_at_call 48; fail)
                      refine HSg.out.mono ?_
                      intro e w7 hp
                      obtain ⟨rfl, _⟩ := id hp
                      have HLL := HFi.out w7 hp
                      clear hp
                      go_wp2
                      exact ⟨⟨k + 1, by simp, HLL.1⟩, HLL.2⟩
                  · have n8 : s.code ≠ 8 := by rw [HCd.out]; exact h8
                    have n4 : s.code ≠ 4 := by rw [HCd.out]; exact h4
                    have n5 : s.code = 5 → (pl o' s.a).1 ≠ 0 := fun e => absurd (HCd.out.symm.trans e) h5
                    have HE9 : Hid (goN (fsL L) g (d + 1) G 0 o r.s = (gb (doG (fsL L) g2 (d + 1) s o') fun o'' => goN (fsL L) g2 (d + 1) G (k + 1) o'') r1.s) := by show _ = _; rw [HE8.out, stepG_do n8 n4 n5]
                    have hnx := lab_next (last_e HRb.out.2.1) HSt.out.1 n8 n4
                    have hSg : Calls Tryd.prog 48 (sgA X ql L.length cl vb o'.length s y6 y8 qa na ca) (w5.alloc A6) (SgP X G (w5.alloc A6) r1 (d + 1) vb (doG (fsL L) g2 (d + 1) s o' r1.s)) :=
                      sg_any HE.out (HC.out g2 (by have := HSt.out.2.1; omega)) ⟨HP.out.1.below HB6.out, HO6.out, by have := HW.out.wm.le; have := HVb.out; omega, by rw [HOl.out]; exact hnt, HFe.out⟩ HT.out n4 n8 HY8.out.1 HY8.out.2 HAr.out HQ.out.2.2.2.1 HGi1.out (by have := HHf.out; have := HQ.out.2.2.2.2.2; omega) (gb_ne (fun out => by rw [← HE9.out]; exact HNe2.out out)).1
                    have HSg : Hid (Calls Tryd.prog 48 #[ptr X.P, .slice (some ⟨gl, pp, none⟩) ll cl, .slice (some ⟨vb, 0, none⟩) nt nt, .agg #[.int .i64 cd, .int .i64 s.dst, .int .i64 s.a, .int .i64 s.b, .int .i64 s.c, .int .i64 s.n, .string y6, .int .i64 s.label, .string y8, .slice qa na ca]] (w5.alloc A6) (SgP X G (w5.alloc A6) r1 (d + 1) vb (doG (fsL L) g2 (d + 1) s o' r1.s))) := by
                      unfold sgA at hSg
                      rw [HOl.out, HLl.out, HQl.out, HCd.out] at hSg
                      exact hSg
                    have HFi : Hid (∀ w7, SgP X G (w5.alloc A6) r1 (d + 1) vb (doG (fsL L) g2 (d + 1) s o' r1.s) (.returned (.tuple #[])) w7 → LqI ⟨X, L, G, g, d, o, r.s⟩ w4 r vb w7 (k + 1) ∧ fuelR X.P w7 < fuelR X.P wr) := fun w7 hp => by
                      obtain ⟨_, r2, way, e1, e2, ⟨o2, rfl, e3, e4⟩ | ⟨e3, e4⟩⟩ := hp
                      · obtain ⟨e5, e6⟩ := iv_do HE.out.fi (HE.out.fi _ _ HGn.out.1 s (List.mem_of_getElem? HSt.out.1)) HQ.out.2.2.2.1 r1.s o2 r2.s HGi1.out e3
                        have e7 := hm_do r1.s o2 r2.s e3
                        refine HNx.out w7 r2 o2 (k + 1) g2 e1 ((Wz.below HB6.out).trans e2) e4 e6 e5 (by have := HHf.out; have := HQ.out.2.2.2.2.2; omega) (by have := HSt.out.2.1; omega) hnx (by rw [HE9.out, gb_o e3]) (fl_do r1.s o2 r2.s e3)
                      · exact HNo.out w7 r2 way (k + 1) e3 e1 ((Wz.below HB6.out).trans e2) (by rw [HE9.out, gb_e e4])
                    have t8 : (cd == 8) = false := by simpa using h8
                    have t4 : (cd == 4) = false := by simpa using h4
                    have t5 : (cd == 5) = false := by simpa using h5
                    have b0' : (w5.alloc A6).cell? ⟨w.heap.size, 0, none⟩ = some (ptr X.P) := cell_old b0
                    rw [hA6] at HSg HFi b0'
                    clear hA6 hSg hnx n8 n4 n5
                    go_wp2_with (go_at_call 48; fail)
                    refine HSg.out.mono ?_
                    intro e w7 hp
                    obtain ⟨rfl, _⟩ := id hp
                    have HLL := HFi.out w7 hp
                    clear hp
                    go_wp2
                    exact ⟨⟨k + 1, by simp, HLL.1⟩, HLL.2⟩
          · obtain ⟨b0, b3⟩ := HBx.out _ r' h2
            have c4 : wr.cell? ⟨X.P, 4, none⟩ = some (.int .i64 way) := cell_at (i := 4) h1.pb rfl
            have HD : Hid (CallsD Tryd.prog 46 #[ptr w.heap.size] .returning wr (fun e u' w' => e = .returned (.tuple #[]) ∧ u' = .returning ∧ GG (.returned (.int .i64 0)) w')) := HDoor.out _ r' way 0 h1 h2 (.inr ⟨h0, h3⟩)
            have t0 : (way == 0) = false := by simpa using h0
            clear h1 h2 h3 HL
            go_wp2
            refine leaves_cons (f := 46) (args := #[ptr w.heap.size]) (by simp) (by simp [go_sem]) ?_
            refine HD.out.mono ?_
            rintro e u' w6 ⟨rfl, rfl, hg⟩
            exact ⟨_, results_tmp (t := 8) rfl _ _ _, hg⟩
end Go.Proofs.YtjmbjpimabnohaaDoor.Mid
