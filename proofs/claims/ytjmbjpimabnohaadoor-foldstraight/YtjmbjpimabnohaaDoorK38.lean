/- GS GT -/
import Derived.Test.YtjmbjpimabnohaaDoorK37
namespace Go.Proofs.YtjmbjpimabnohaaDoor.Mid
set_option linter.unusedVariables false
set_option linter.unusedSimpArgs false
open Go Go.RowKit
abbrev yMain : ByteArray := ⟨#[109, 97, 105, 110]⟩
structure OneF (w : World) (cb : Nat) (B : Nat) (tl : List Int) (l : List Ms) : Prop where
  ex : ∃ g c tq tc sq sc, w.cell? ⟨cb, 0, none⟩ = some (.slice (some ⟨g, 0, none⟩) 1 c) ∧ 1 ≤ c ∧ w.cell? ⟨g, 0, none⟩ = some (.string yMain) ∧ w.cell? ⟨g, 1, none⟩ = some (.int .i64 0) ∧ w.cell? ⟨g, 2, none⟩ = some (.slice tq tl.length tc) ∧ w.cell? ⟨g, 3, none⟩ = some (.slice sq l.length sc) ∧ FlM w B (.agg #[.string yMain, .int .i64 0, .slice tq tl.length tc, .slice sq l.length sc]) yMain tl l
theorem one_code {w : World} {cb B nt : Nat} {z : Int} {tl : List Int} {l : List Ms} (h : OneF w cb B tl l) (hg : Good nt z l) (h1 : ∀ x ∈ tl, x = 1) (hl : tl.length ≤ 1000000) : ∃ q c, CodeAt w cb q c [⟨mainB, 0, tl, l⟩] := by
  obtain ⟨g, c, tq, tc, sq, sc, c0, hc, g0, g1, g2, g3, hf⟩ := h.ex
  refine ⟨_, c, c0, ⟨hc, by simp⟩, .inr ⟨g, 0, rfl, fun j F hj => ?_⟩⟩
  match j, hj with
  | 0, hj =>
    simp at hj
    subst hj
    exact fl_fn (y := yMain) (o := 0) hf g0 g1 g2 g3 hg h1 hl (by decide)
  | j + 1, hj => simp at hj
theorem mk_fn (w : World) : (Instr.makeSlice 22 (.int .i64 1) (.int .i64 1)).run Tryd.prog w = .ok (.slice (some ⟨w.heap.size, 0, none⟩) 1 1) (w.alloc fnZ) := by
  have info35 : (Tryd.prog.info? 35).map (fun i => (i.zero, i.size, i.bytes)) = some (some (.agg #[.string ⟨#[]⟩, .int .i64 0, .slice none 0 0, .slice none 0 0]), 4, 72) := by kernel_rfl
  obtain ⟨i, hi, hz0, hz1, hz2⟩ := info_parts info35
  have := run_makeSlice w 22 35 i _ Tryd.underlying22 hi hz0 .i64 .i64 1 1 (by omega) (by omega) (by rw [hz1]; simp) (by rw [hz2]; omega) (by omega)
  rw [hz1] at this
  rw [this]
  show Result.ok _ (w.alloc (.cells (madeCells (Value.agg #[.string ⟨#[]⟩, .int .i64 0, .slice none 0 0, .slice none 0 0]).cells 4) 35)) = _
  rw [show madeCells (Value.agg #[.string ⟨#[]⟩, .int .i64 0, .slice none 0 0, .slice none 0 0]).cells 4 = #[.string ⟨#[]⟩, .int .i64 0, .slice none 0 0, .slice none 0 0] from by kernel_rfl]
  rfl
def FoP (w : World) (tl : List Int) (z : Int) (e : Ending) (w' : World) : Prop := ∃ db B' l', e = .returned (.tuple #[ptr db, .nilIface]) ∧ Below w.heap.size w w' ∧ OneF w' db B' tl l' ∧ Lef tl.length z l'
set_option maxRecDepth 100000 in
set_option maxHeartbeats 8000000 in
theorem fold_17 (w : World) (cb B : Nat) (tl : List Int) (l : List Ms) (z : Int) (h : OneF w cb B tl l) (hff : FfE w) (hfm : FmE w) (hmk : MkE w) (hg : Good tl.length z l) (hrt : ∀ s ∈ l, s.code = 8 → s = rt s.a) (hm : ∀ s ∈ l, s.code = 3 → markB s.op = true) (ht1 : ∀ x ∈ tl, x = 1) (ht : tl.length ≤ 64) : Calls Tryd.prog 17 #[ptr cb] w (FoP w tl z) := by
  have HRi : Hid (Calls Tryd.prog 8 #[ptr cb] w (LkP true w)) := by
    obtain ⟨q, c, hc⟩ := one_code h hg ht1 (by omega)
    have := Right_any w cb q c _ hc hfm hmk
    rwa [good_right hg hm rfl ht1 (by omega)] at this
  obtain ⟨g, c, tq, tc, sq, sc, c0, hc1, g0, g1, g2, g3, hf⟩ := h.ex
  obtain ⟨nt, hnt⟩ : ∃ nt, tl.length = nt := ⟨_, rfl⟩
  obtain ⟨ns, hns⟩ : ∃ ns, l.length = ns := ⟨_, rfl⟩
  have HFe : Hid (∀ W, Below w.heap.size w W → Calls Tryd.prog 34 #[.agg #[.string yMain, .int .i64 0, .slice tq nt tc, .slice sq ns sc]] W (FeP W yMain tl z)) := fun W hb => fewer_34 W B _ yMain tl l z (by rw [← hnt, ← hns]; exact hf.below hb) (hff.below hb) hg hrt ht1 ht
  have HC : Hid (w.cell? ⟨cb, 0, none⟩ = some (.slice (some ⟨g, 0, none⟩) 1 c) ∧ w.cell? ⟨g, 0, none⟩ = some (.string yMain) ∧ w.cell? ⟨g, 1, none⟩ = some (.int .i64 0) ∧ w.cell? ⟨g, 2, none⟩ = some (.slice tq nt tc) ∧ w.cell? ⟨g, 3, none⟩ = some (.slice sq ns sc)) := ⟨c0, g0, g1, by rw [← hnt]; exact g2, by rw [← hns]; exact g3⟩
  have kp : Hid (∀ W, Below w.heap.size w W → ∀ (b o : Nat) (v : Value), w.cell? ⟨b, o, none⟩ = some v → W.cell? ⟨b, o, none⟩ = some v) := fun W hb b o v hv => by rw [hb.cell (p := ⟨b, o, none⟩) (cell_lt hv)]; exact hv
  have hmk2 := mk_fn
  generalize hG : FoP w tl z = G
  have HG : Hid (FoP w tl z = G) := hG
  clear h hff hfm hmk hg hrt hm ht1 ht c0 g0 g1 g2 g3 hf hG hnt hns
  go_enter Tryd.func17, Tryd.ntmps17
  go_wp2_with (go_at_call 8; fail)
  refine HRi.out.mono ?_
  rintro e w1 ⟨rfl, hb1⟩
  have HB1 : Hid (Below w.heap.size w w1) := hb1
  have x0 := kp.out w1 hb1 _ _ _ HC.out.1
  obtain ⟨W3, hW3⟩ : ∃ W3, W3 = (w1.alloc fnZ).alloc (.cells #[.slice (some ⟨w1.heap.size, 0, none⟩) 1 1] 53) := ⟨_, rfl⟩
  have hz1 : (w1.alloc fnZ).heap.size = w1.heap.size + 1 := by simp
  have hb3 : Below w1.heap.size w1 W3 := by rw [hW3]; exact (al_bel _ _).trans ((al_bel (w1.alloc _) _).mono (by simp))
  have HW3 : Hid (Below w.heap.size w W3 ∧ W3.heap[w1.heap.size]? = some fnZ ∧ W3.heap[w1.heap.size + 1]? = some (.cells #[.slice (some ⟨w1.heap.size, 0, none⟩) 1 1] 53) ∧ w.heap.size ≤ w1.heap.size) := ⟨hb1.trans (hb3.mono hb1.size), by rw [hW3, row_eq_alloc (by simp), heap_alloc_last], by rw [hW3, ← hz1, heap_alloc_last], hb1.size⟩
  have x3 := kp.out W3 HW3.out.1 _ _ _ HC.out.1
  rw [hW3] at x3
  clear hb1 hb3 hz1
  go_wp2_with fail
  rw [← hW3]
  clear hW3 x0 x3
  go_loopw [24] (fun v wr => ∃ i : Nat, i ≤ 1 ∧ v = .int .i64 i ∧ Hid (Below w.heap.size w wr ∧ wr.heap[w1.heap.size + 1]? = some (.cells #[.slice (some ⟨w1.heap.size, 0, none⟩) 1 1] 53) ∧ ((i = 0 ∧ wr.heap[w1.heap.size]? = some fnZ) ∨ (i = 1 ∧ ∃ B' l', OneF wr (w1.heap.size + 1) B' tl l' ∧ Lef tl.length z l')))) (fun v _ => 1 - (intOf v).toNat)
  case atStart => exact ⟨0, by omega, rfl, HW3.out.1, HW3.out.2.2.1, .inl ⟨rfl, HW3.out.2.1⟩⟩
  case round =>
    obtain ⟨i, hi1, rfl, HI⟩ := hrel
    by_cases hlt : i < 1
    · obtain rfl : i = 0 := by omega
      obtain ⟨hbr, hlb, hor⟩ := HI.out
      have hfn : wr.heap[w1.heap.size]? = some fnZ := by
        rcases hor with ⟨_, h⟩ | ⟨h, _⟩
        · exact h
        · omega
      have y0 := kp.out wr hbr _ _ _ HC.out.1
      have y1 := kp.out wr hbr _ _ _ HC.out.2.1
      have y2 := kp.out wr hbr _ _ _ HC.out.2.2.1
      have y3 := kp.out wr hbr _ _ _ HC.out.2.2.2.1
      have y4 := kp.out wr hbr _ _ _ HC.out.2.2.2.2
      obtain ⟨W4, hW4⟩ : ∃ W4, W4 = wr.alloc (.cells #[.string yMain, .int .i64 0, .slice tq nt tc, .slice sq ns sc] 35) := ⟨_, rfl⟩
      have hb4 : Below wr.heap.size wr W4 := by rw [hW4]; exact al_bel _ _
      have h4 : W4.heap[wr.heap.size]? = some (.cells #[.string yMain, .int .i64 0, .slice tq nt tc, .slice sq ns sc] 35) := by rw [hW4]; exact heap_alloc_last _ _
      clear hlt hor
      have HW4 : Hid (Below w.heap.size w W4 ∧ W4.heap[wr.heap.size]? = some (.cells #[.string yMain, .int .i64 0, .slice tq nt tc, .slice sq ns sc] 35) ∧ W4.heap[w1.heap.size]? = some fnZ ∧ W4.heap[w1.heap.size + 1]? = some (.cells #[.slice (some ⟨w1.heap.size, 0, none⟩) 1 1] 53) ∧ w1.heap.size + 1 < wr.heap.size) := ⟨hbr.trans (hb4.mono hbr.size), h4, by rw [hb4.block _ (Array.getElem?_eq_some_iff.1 hfn).1]; exact hfn, by rw [hb4.block _ (Array.getElem?_eq_some_iff.1 hlb).1]; exact hlb, (Array.getElem?_eq_some_iff.1 hlb).1⟩
      have HCa : Hid (∀ W, W = W4.drew → Calls Tryd.prog 34 #[.agg #[.string yMain, .int .i64 0, .slice tq nt tc, .slice sq ns sc]] W (fun e w5 => ∃ tq5 tc5 sq5 n5 sc5 l5, e = .returned (.agg #[.string yMain, .int .i64 0, .slice tq5 tl.length tc5, .slice sq5 n5 sc5]) ∧ Below W4.heap.size W4 w5 ∧ l5.length = n5 ∧ FlM w5 W4.heap.size (.agg #[.string yMain, .int .i64 0, .slice tq5 tl.length tc5, .slice sq5 n5 sc5]) yMain tl l5 ∧ Lef tl.length z l5)) := fun W hW => by
        subst hW
        refine (HFe.out W4.drew (HW4.out.1.trans (Below.refl _ _).drew |> fun h => h)).mono ?_
        rintro e w5 ⟨v5, l5, rfl, hf5, hb5, hl5⟩
        obtain ⟨tq5, tc5, sq5, sc5, rfl⟩ := hf5.parts
        exact ⟨tq5, tc5, sq5, _, sc5, l5, rfl, (Below.refl _ _).drew.trans hb5, rfl, hf5, hl5⟩
      have e1 : W4.drew.cell? ⟨w1.heap.size + 1, 0, none⟩ = some (.slice (some ⟨w1.heap.size, 0, none⟩) 1 1) := cell_at (w := W4) (i := 0) HW4.out.2.2.2.1 rfl
      have d0 : W4.drew.cell? ⟨wr.heap.size, 0, none⟩ = some (.string yMain) := cell_at (w := W4) (i := 0) h4 rfl
      have d1 : W4.drew.cell? ⟨wr.heap.size, 1, none⟩ = some (.int .i64 0) := cell_at (w := W4) (i := 1) h4 rfl
      have d2 : W4.drew.cell? ⟨wr.heap.size, 2, none⟩ = some (.slice tq nt tc) := cell_at (w := W4) (i := 2) h4 rfl
      have d3 : W4.drew.cell? ⟨wr.heap.size, 3, none⟩ = some (.slice sq ns sc) := cell_at (w := W4) (i := 3) h4 rfl
      clear hb4 h4 hbr hlb hfn
      go_wp2_with fail
      rw [← hW4]
      clear hW4 y0 y1 y2 y3 y4
      go_region_with (go_at_call 34; refine (HCa.out _ rfl).mono ?_; rintro e w5 ⟨tq5, tc5, sq5, n5, sc5, l5, rfl, hb5, hn5, hf5, hl5⟩; have H5 : Hid (Below W4.heap.size W4 w5 ∧ l5.length = n5 ∧ FlM w5 W4.heap.size (.agg #[.string yMain, .int .i64 0, .slice tq5 tl.length tc5, .slice sq5 n5 sc5]) yMain tl l5 ∧ Lef tl.length z l5) := ⟨hb5, hn5, hf5, hl5⟩; have m1 : w5.cell? ⟨w1.heap.size + 1, 0, none⟩ = some (.slice (some ⟨w1.heap.size, 0, none⟩) 1 1) := cell_at (i := 0) (by rw [hb5.block _ (Array.getElem?_eq_some_iff.1 HW4.out.2.2.2.1).1]; exact HW4.out.2.2.2.1) rfl; have k5 : w5.heap[w1.heap.size]? = some fnZ := (by rw [hb5.block _ (Array.getElem?_eq_some_iff.1 HW4.out.2.2.1).1]; exact HW4.out.2.2.1); have z0 := cell_at (i := 0) k5 rfl; have z1 := cell_at (i := 1) k5 rfl; have z2 := cell_at (i := 2) k5 rfl; have z3 := cell_at (i := 3) k5 rfl; have q0 := row_free k5 0; have q1 := row_free k5 1; have q2 := row_free k5 2; have q3 := row_free k5 3; have K5 : Hid (w5.heap[w1.heap.size]? = some fnZ) := k5; clear hb5 hn5 hf5 hl5 k5)
      all_goals
        clear e1 d0 d1 d2 d3
        obtain ⟨W6, hW6⟩ : ∃ W6, W6 = (((w5.setCell ⟨w1.heap.size, 0, none⟩ (.string yMain)).setCell ⟨w1.heap.size, 1, none⟩ (.int .i64 0)).setCell ⟨w1.heap.size, 2, none⟩ (.slice tq5 tl.length tc5)).setCell ⟨w1.heap.size, 3, none⟩ (.slice sq5 n5 sc5) := ⟨_, rfl⟩
        have H6 : Hid (Below w.heap.size w W6 ∧ W6.heap[w1.heap.size + 1]? = some (.cells #[.slice (some ⟨w1.heap.size, 0, none⟩) 1 1] 53) ∧ ∃ B' l', OneF W6 (w1.heap.size + 1) B' tl l' ∧ Lef tl.length z l') := by
          obtain ⟨hb5, hn5, hf5, hl5⟩ := H5.out
          have hbw : Below w.heap.size w w5 := HW4.out.1.trans (hb5.mono HW4.out.1.size)
          have hw1 := HW3.out.2.2.2
          have hko : ∀ k, k ≠ w1.heap.size → W6.heap[k]? = w5.heap[k]? := fun k hk => by
            rw [hW6, heap_setCell_other _ _ _ _ hk, heap_setCell_other _ _ _ _ hk, heap_setCell_other _ _ _ _ hk, heap_setCell_other _ _ _ _ hk]
          have h6 : W6.heap[w1.heap.size]? = some (.cells #[.string yMain, .int .i64 0, .slice tq5 tl.length tc5, .slice sq5 n5 sc5] 35) := by rw [hW6]; exact set4 K5.out
          have hl6 : W6.heap[w1.heap.size + 1]? = some (.cells #[.slice (some ⟨w1.heap.size, 0, none⟩) 1 1] 53) := by rw [hko _ (by omega), hb5.block _ (Array.getElem?_eq_some_iff.1 HW4.out.2.2.2.1).1]; exact HW4.out.2.2.2.1
          refine ⟨?_, hl6, W4.heap.size, l5, ⟨w1.heap.size, 1, tq5, tc5, sq5, sc5, cell_at (i := 0) hl6 rfl, Nat.le_refl _, cell_at (i := 0) h6 rfl, cell_at (i := 1) h6 rfl, cell_at (i := 2) h6 rfl, ?_, ?_⟩, hl5⟩
          · rw [hW6]
            exact (((hbw.setCell (p := ⟨w1.heap.size, 0, none⟩) hw1 _).setCell (p := ⟨w1.heap.size, 1, none⟩) hw1 _).setCell (p := ⟨w1.heap.size, 2, none⟩) hw1 _).setCell (p := ⟨w1.heap.size, 3, none⟩) hw1 _
          · rw [hn5]; exact cell_at (i := 3) h6 rfl
          · rw [hn5]
            obtain ⟨tv, sv, e, o1, o2⟩ := hf5
            have hlt := HW4.out.2.2.1
            have hlt1 := (Array.getElem?_eq_some_iff.1 hlt).1
            exact ⟨tv, sv, e, own_at o1 (fun i hi => hko i (by have := (o1.lt i hi).1; omega)), own_at o2 (fun i hi => hko i (by have := (o2.lt i hi).1; omega))⟩
        clear H5 K5
        go_wp2
        rw [← hW6]
        exact ⟨⟨1, by omega, by go_num, H6.out.1, H6.out.2.1, .inr ⟨rfl, H6.out.2.2⟩⟩, by simp [intOf]⟩
    · obtain ⟨hbr, hlb, hor⟩ := HI.out
      have HX : Hid (G (.returned (.tuple #[ptr (w1.heap.size + 1), .nilIface])) wr) := by
        show G _ _
        rw [← HG.out]
        rcases hor with ⟨h, _⟩ | ⟨_, B', l', h1, h2⟩
        · omega
        · exact ⟨_, B', l', rfl, hbr, h1, h2⟩
      clear hbr hlb hor
      go_wp2
      first | exact HX.out | (go_ret2; exact HX.out)
theorem ap_row (e t size bytes : Nat) (z : Value) (hinf : (Tryd.prog.info? e).map (fun i => (i.zero, i.size, i.bytes)) = some (some z, size, bytes)) (hzs : z.cells.size = size) (hsz : 0 < size) (hb64 : bytes ≤ 1000) (ht : Tryd.prog.underlying t = some (.slice e)) (w : World) (B : Nat) (v : Value) (n : Nat) (zs : List Value) (h : w.ownsRow B e size v n zs) (news : List Value) (hnl : news.length = size) (h1 : ∀ u ∈ news, u.oneCell' = true) (hn : n ≤ 100000) (hB : B ≤ w.heap.size) :
    ∃ g cap W', (Builtin.append_ #[t, t] t #[v, .slice (some ⟨w.heap.size, 0, none⟩) 1 1]).run Tryd.prog (w.alloc (.cells news.toArray e)) = .ok (.slice (some ⟨g, 0, none⟩) (n + 1) cap) W' ∧ W'.ownsRow B e size (.slice (some ⟨g, 0, none⟩) (n + 1) cap) (n + 1) (zs ++ news) ∧ (w.alloc (.cells news.toArray e)).grownBy W' v.ownBlock := by
  obtain ⟨i, hi2, hz0, hz1, hz2⟩ := info_parts hinf
  have hown : (w.alloc (.cells news.toArray e)).ownsRow B e size v n zs := own_at h (fun i hi => row_eq_alloc (own_lt h i hi))
  obtain ⟨g, cap, W', hr, h2, h3, _, _⟩ := run_append_lies (P := Tryd.prog) (w.alloc (.cells news.toArray e)) t t B e i z size bytes ht hi2 hz0 hz1 hz2 hzs hsz v n zs hown ⟨w.heap.size, 0, none⟩ 1 1 news (by rw [hnl]; omega) (World.news_of_block (cs := news.toArray) (t := e) (fr := (0, 0)) (heap_alloc_last w _)) h1 (by omega) (by unfold maxLen; omega) (Nat.le_trans (Nat.mul_le_mul (show n + 1 ≤ 100001 by omega) hb64) (by omega)) (by simp; omega) _ rfl
  exact ⟨g, cap, W', hr, h2, h3⟩
theorem und23 : Tryd.prog.underlying 23 = some (.slice 2) := Tryd.underlying23
structure LwM (B fb vb : Nat) (y : ByteArray) (tv sv vv : Value) (nt ns nv : Nat) (ts zs us : List Value) (w : World) : Prop where
  f : w.heap[fb]? = some (.cells #[.string y, .int .i64 0, tv, sv] 35)
  v : w.heap[vb]? = some (.cells #[vv] 23)
  t : w.ownsRow B 3 1 tv nt ts
  s : w.ownsRow B 44 10 sv ns zs
  u : w.ownsRow B 2 1 vv nv us
  hf : B ≤ fb
  hv : B ≤ vb
theorem own_cs {w : World} {B e z n i : Nat} {v : Value} {l : List Value} (h : w.ownsRow B e z v n l) (hi : v.ownBlock = some i) : ∃ cs, w.heap[i]? = some (.cells cs e) := by
  rcases h.2 with ⟨rfl, _⟩ | ⟨g, cap, cur, rfl, _, hg, _⟩
  · cases hi
  · injection hi with hi
    have hi2 : g = i := hi
    rw [← hi2]
    exact ⟨cur, hg⟩
theorem blk_ne {w : World} {a b : Nat} {x y : Array Value} {s t : TypeId} (h : w.heap[a]? = some (.cells x s)) (g : w.heap[b]? = some (.cells y t)) (hn : s ≠ t) : a ≠ b := fun e => by
  rw [e, g] at h
  injection h with h
  injection h with _ h
  exact hn h.symm
section
variable {B fb vb : Nat} {y : ByteArray} {tv sv vv : Value} {nt ns nv : Nat} {ts zs us : List Value} {w w' W' : World}
theorem LwM.on (h : LwM B fb vb y tv sv vv nt ns nv ts zs us w) (hk : ∀ b, b < w.heap.size → w'.heap[b]? = w.heap[b]?) : LwM B fb vb y tv sv vv nt ns nv ts zs us w' :=
  ⟨by rw [hk _ (Array.getElem?_eq_some_iff.1 h.f).1]; exact h.f, by rw [hk _ (Array.getElem?_eq_some_iff.1 h.v).1]; exact h.v, own_at h.t (fun i hi => hk i (own_lt h.t i hi)), own_at h.s (fun i hi => hk i (own_lt h.s i hi)), own_at h.u (fun i hi => hk i (own_lt h.u i hi)), h.hf, h.hv⟩
theorem LwM.appT {tv' : Value} {ts' : List Value} {n' : Nat} (h : LwM B fb vb y tv sv vv nt ns nv ts zs us w) (hg : w.grownBy w' tv.ownBlock) (ho : w'.ownsRow B 3 1 tv' n' ts') : LwM B fb vb y tv' sv vv n' ns nv ts' zs us (w'.setCell ⟨fb, 2, none⟩ tv') := by
  have hk : ∀ (b : Nat) (cs : Array Value) (t : TypeId), w.heap[b]? = some (.cells cs t) → t ≠ 3 → w'.heap[b]? = some (.cells cs t) := fun b cs t hb ht => by
    rw [hg.block b (Array.getElem?_eq_some_iff.1 hb).1 (fun e => by
      obtain ⟨cs', hc⟩ := own_cs h.t e.symm
      exact blk_ne hb hc ht rfl)]
    exact hb
  have hf := hk _ _ _ h.f (by decide)
  have hv := hk _ _ _ h.v (by decide)
  have hs : w'.ownsRow B 44 10 sv ns zs := own_at h.s (fun i hi => by
    obtain ⟨cs, hc⟩ := own_cs h.s hi
    rw [hk _ _ _ hc (by decide), hc])
  have hu : w'.ownsRow B 2 1 vv nv us := own_at h.u (fun i hi => by
    obtain ⟨cs, hc⟩ := own_cs h.u hi
    rw [hk _ _ _ hc (by decide), hc])
  have hn : ∀ (b : Nat) (cs : Array Value) (t : TypeId), w'.heap[b]? = some (.cells cs t) → t ≠ 35 → (w'.setCell ⟨fb, 2, none⟩ tv').heap[b]? = some (.cells cs t) := fun b cs t hb ht => by
    rw [heap_setCell_other _ _ _ _ (blk_ne hb hf ht)]; exact hb
  refine ⟨heap_setCell_same _ _ _ _ _ _ hf, hn _ _ _ hv (by decide), own_at ho (fun i hi => ?_), own_at hs (fun i hi => ?_), own_at hu (fun i hi => ?_), h.hf, h.hv⟩
  · obtain ⟨cs, hc⟩ := own_cs ho hi
    rw [hn _ _ _ hc (by decide), hc]
  · obtain ⟨cs, hc⟩ := own_cs hs hi
    rw [hn _ _ _ hc (by decide), hc]
  · obtain ⟨cs, hc⟩ := own_cs hu hi
    rw [hn _ _ _ hc (by decide), hc]
theorem LwM.appS {sv' : Value} {zs' : List Value} {n' : Nat} (h : LwM B fb vb y tv sv vv nt ns nv ts zs us w) (hg : w.grownBy w' sv.ownBlock) (ho : w'.ownsRow B 44 10 sv' n' zs') : LwM B fb vb y tv sv' vv nt n' nv ts zs' us (w'.setCell ⟨fb, 3, none⟩ sv') := by
  have hk : ∀ (b : Nat) (cs : Array Value) (t : TypeId), w.heap[b]? = some (.cells cs t) → t ≠ 44 → w'.heap[b]? = some (.cells cs t) := fun b cs t hb ht => by
    rw [hg.block b (Array.getElem?_eq_some_iff.1 hb).1 (fun e => by
      obtain ⟨cs', hc⟩ := own_cs h.s e.symm
      exact blk_ne hb hc ht rfl)]
    exact hb
  have hf := hk _ _ _ h.f (by decide)
  have hv := hk _ _ _ h.v (by decide)
  have ht : w'.ownsRow B 3 1 tv nt ts := own_at h.t (fun i hi => by
    obtain ⟨cs, hc⟩ := own_cs h.t hi
    rw [hk _ _ _ hc (by decide), hc])
  have hu : w'.ownsRow B 2 1 vv nv us := own_at h.u (fun i hi => by
    obtain ⟨cs, hc⟩ := own_cs h.u hi
    rw [hk _ _ _ hc (by decide), hc])
  have hn : ∀ (b : Nat) (cs : Array Value) (t : TypeId), w'.heap[b]? = some (.cells cs t) → t ≠ 35 → (w'.setCell ⟨fb, 3, none⟩ sv').heap[b]? = some (.cells cs t) := fun b cs t hb ht => by
    rw [heap_setCell_other _ _ _ _ (blk_ne hb hf ht)]; exact hb
  refine ⟨heap_setCell_same _ _ _ _ _ _ hf, hn _ _ _ hv (by decide), own_at ht (fun i hi => ?_), own_at ho (fun i hi => ?_), own_at hu (fun i hi => ?_), h.hf, h.hv⟩
  · obtain ⟨cs, hc⟩ := own_cs ht hi
    rw [hn _ _ _ hc (by decide), hc]
  · obtain ⟨cs, hc⟩ := own_cs ho hi
    rw [hn _ _ _ hc (by decide), hc]
  · obtain ⟨cs, hc⟩ := own_cs hu hi
    rw [hn _ _ _ hc (by decide), hc]
theorem LwM.appV {vv' : Value} {us' : List Value} {n' : Nat} (h : LwM B fb vb y tv sv vv nt ns nv ts zs us w) (hg : w.grownBy w' vv.ownBlock) (ho : w'.ownsRow B 2 1 vv' n' us') : LwM B fb vb y tv sv vv' nt ns n' ts zs us' (w'.setCell ⟨vb, 0, none⟩ vv') := by
  have hk : ∀ (b : Nat) (cs : Array Value) (t : TypeId), w.heap[b]? = some (.cells cs t) → t ≠ 2 → w'.heap[b]? = some (.cells cs t) := fun b cs t hb ht => by
    rw [hg.block b (Array.getElem?_eq_some_iff.1 hb).1 (fun e => by
      obtain ⟨cs', hc⟩ := own_cs h.u e.symm
      exact blk_ne hb hc ht rfl)]
    exact hb
  have hf := hk _ _ _ h.f (by decide)
  have hv := hk _ _ _ h.v (by decide)
  have ht : w'.ownsRow B 3 1 tv nt ts := own_at h.t (fun i hi => by
    obtain ⟨cs, hc⟩ := own_cs h.t hi
    rw [hk _ _ _ hc (by decide), hc])
  have hs : w'.ownsRow B 44 10 sv ns zs := own_at h.s (fun i hi => by
    obtain ⟨cs, hc⟩ := own_cs h.s hi
    rw [hk _ _ _ hc (by decide), hc])
  have hn : ∀ (b : Nat) (cs : Array Value) (t : TypeId), w'.heap[b]? = some (.cells cs t) → t ≠ 23 → (w'.setCell ⟨vb, 0, none⟩ vv').heap[b]? = some (.cells cs t) := fun b cs t hb ht => by
    rw [heap_setCell_other _ _ _ _ (blk_ne hb hv ht)]; exact hb
  refine ⟨hn _ _ _ hf (by decide), heap_setCell_same _ _ _ _ _ _ hv, own_at ht (fun i hi => ?_), own_at hs (fun i hi => ?_), own_at ho (fun i hi => ?_), h.hf, h.hv⟩
  · obtain ⟨cs, hc⟩ := own_cs ht hi
    rw [hn _ _ _ hc (by decide), hc]
  · obtain ⟨cs, hc⟩ := own_cs hs hi
    rw [hn _ _ _ hc (by decide), hc]
  · obtain ⟨cs, hc⟩ := own_cs ho hi
    rw [hn _ _ _ hc (by decide), hc]
end
end Go.Proofs.YtjmbjpimabnohaaDoor.Mid
