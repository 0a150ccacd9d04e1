/- GF -/
import Derived.Test.YtjmbjpimabnohaaDoorK27
import Derived.Test.YtjmbjpimabnohaaDoorK28
namespace Go.Proofs.YtjmbjpimabnohaaDoor.Mid
set_option linter.unusedVariables false
set_option linter.unusedSimpArgs false
open Go Go.RowKit
def StQ (w : World) (X : Fx) (g o : Nat) (cs : Array Value) (env : Int → Int) (nt : Nat) (s : Ms) (e : Ending) (w' : World) : Prop :=
  ∃ (r : Int) (S' : Fs) (cur : Array Value), e = .returned (.bool false) ∧ FcM w' X S' ∧ env r = env s.a ∧ 0 ≤ r ∧ r < nt ∧ w'.heap[g]? = some (.cells cur 44) ∧ cur.size = cs.size ∧ (∀ p, (p < o ∨ o + 10 ≤ p) → cur[p]? = cs[p]?) ∧ (∀ i, i < 10 → cur[o + i]? = (sC { s with a := r })[i]?) ∧ Ko (g :: X.Z) w w'
set_option maxRecDepth 100000 in
set_option maxHeartbeats 2000000 in
theorem step_8 (w : World) (X : Fx) (S : Fs) (nt g o m : Nat) (cs : Array Value) (s : Ms) (env : Int → Int) (d : Int) (h : SpH w X S nt g o m cs s env d) (hc : s.code = 8) (ha0 : 0 ≤ s.a) (ha : s.a < nt) (hd : d ≤ nt) :
    Calls Tryd.prog 79 #[ptr X.kb, .pointer (some ⟨g, o, none⟩)] w (StQ w X g o cs env nt s) := by
  obtain ⟨a, haa⟩ : ∃ a : Nat, s.a = (a : Int) := ⟨s.a.toNat, by omega⟩
  have hgl : g < w.heap.size := (Array.getElem?_eq_some_iff.1 h.row).1
  have hbA := al_bel w (bx132 X)
  have hx : w.heap[g]? = some (.cells cs 44) := h.row
  have hxA : (w.alloc (bx132 X)).heap[g]? = some (.cells cs 44) := by rw [hbA.block g hgl]; exact hx
  have h00 := h.cells 0 (by omega)
  rw [Nat.add_zero] at h00
  have e0 : cs[o]? = some (.int .i64 8) := by rw [h00]; show some (Value.int .i64 s.code) = _; rw [hc]
  have e2 : cs[o + 2]? = some (.int .i64 (a : Int)) := by rw [h.cells 2 (by omega)]; show some (Value.int .i64 s.a) = _; rw [haa]
  have hnA : w.heap.size ∉ X.Z := h.fc.new (Nat.le_refl _)
  have hsz := h.sz
  rw [haa] at ha ha0
  have HRd : Hid (Calls Tryd.prog 84 #[.pointer (some ⟨g, o, none⟩), look92V w.heap.size] (w.alloc (.cells #[ptr X.kb] 132)) (fun e w1 => e = .returned (.tuple #[]) ∧ w1.cell? ⟨g, o, none⟩ = some (.int .i64 8) ∧ FfE w1 ∧ StQ w X g o cs env nt s (.returned (.bool false)) w1)) := by
    refine (reads92_8 (w.alloc (bx132 X)) X S w.heap.size g o nt a cs 44 (h.fc.below hbA) (h.ty.on (Ko.of_below hbA)) (by omega) h.nt6 (h.inv.rm (by have := h.mm; omega)) (va_i64 h.inv h.mm ha0) (cell_at (i := 0) (heap_alloc_last _ _) rfl) h.gz hxA (h.ff.below hbA) (cell_at hxA e0) (cell_at hxA e2)).mono ?_
    rintro e w1 ⟨rfl, r, S1, w0, r1, k0, rfl, hf⟩
    obtain ⟨i1, q1, q2, q3, -, -⟩ := ho_in (d' := (nt : Int)) h.inv r1 ha0 ha hd
    have hr0 : w0.heap[g]? = some (.cells cs 44) := by rw [k0.blk g (Array.getElem?_eq_some_iff.1 hxA).1 h.gz]; exact hxA
    have hr1 := heap_setCell_same (w := w0) g (o + 2) cs 44 (.int .i64 r) hr0
    have hko : Ko (g :: X.Z) w (w0.setCell ⟨g, o + 2, none⟩ (.int .i64 r)) := (Ko.of_below hbA).trans ((k0.wide (fun b hb => List.mem_cons_of_mem _ hb)).trans ⟨rfl, rfl, rfl, by simp [World.setCell], fun b hb hz => heap_setCell_other _ _ _ _ (fun e => hz (by rw [e]; simp))⟩)
    refine ⟨rfl, ?_, h.ff.on h.two hko, r, S1, _, rfl, hf, by rw [haa]; exact q1, q2, q3, hr1, by simp, fun p hp => ?_, fun i hi => ?_, hko⟩
    · rw [World.cell?_setCell_other _ _ _ _ (by intro e; injection e with _ e; omega)]
      exact k0.cell h.gz (cell_at hxA e0)
    · rw [Array.getElem?_setIfInBounds, if_neg (by omega)]
    · rw [Array.getElem?_setIfInBounds]
      have hcell := h.cells i hi
      split
      · rename_i e
        rw [if_pos (by omega)]
        obtain rfl : i = 2 := by omega
        rfl
      · rename_i e
        rw [hcell]
        match i, hi, e with
        | 0, _, _ => rfl
        | 1, _, _ => rfl
        | 2, _, e => exact absurd rfl e
        | 3, _, _ => rfl
        | 4, _, _ => rfl
        | 5, _, _ => rfl
        | 6, _, _ => rfl
        | 7, _, _ => rfl
        | 8, _, _ => rfl
        | 9, _, _ => rfl
  have hmf : ∀ (fn : Fn) (first cap : Array Value) (w : World), (Instr.makeFunc fn first cap).run Tryd.prog w = .ok (.func fn first cap) w := fun _ _ _ _ => rfl
  generalize StQ w X g o cs env nt s = G at HRd ⊢
  clear h hx hxA h00 e0 e2 hbA
  go_enter Tryd.func79, Tryd.ntmps79
  go_wp2_with (go_at_call 84; fail)
  refine HRd.out.mono ?_
  rintro e w1 ⟨rfl, c0, hff, hg⟩
  obtain ⟨-, -, -, g8, -⟩ := hff 8 (by omega)
  simp only [ffm] at g8
  have HX : Hid (G (.returned (.bool false)) w1) := hg
  clear hff hg
  go_wp2
  exact HX.out
def rt (a : Int) : Ms := ⟨8, 0, a, 0, 0, 0, [], 0, [], []⟩
structure KnL (nt : Nat) (z : Int) (l' : List Ms) : Prop where
  ex : ∃ (env : Int → Int) (ps : List Int) (r : Int), l' = ps.map (fun p => cn p (env p)) ++ [rt r] ∧ ps.Pairwise (· < ·) ∧ (∀ p ∈ ps, 0 ≤ p ∧ p < nt) ∧ (∀ p, p ∉ ps → env p = 0) ∧ 0 ≤ r ∧ r < nt ∧ env r = z ∧ ∀ p, I64 (env p)
structure KnE (w0 Wc : World) (X : Fx) (tq : Option Addr) (nt tc sb sc kbx : Nat) : Prop where
  tv : X.tv = .slice tq nt tc
  z : ∀ b ∈ X.Z, w0.heap.size + 2 ≤ b ∧ b < Wc.heap.size ∧ b ≠ sb
  k : w0.heap.size + 2 ≤ kbx ∧ kbx < Wc.heap.size ∧ kbx ≠ sb ∧ kbx ∉ X.Z
  s : w0.heap.size + 2 ≤ sb ∧ sb < Wc.heap.size
  t : ∃ tb, tq = some ⟨tb, 0, none⟩ ∧ w0.heap.size + 2 ≤ tb ∧ tb < Wc.heap.size ∧ tb ≠ sb ∧ tb ∉ X.Z
  ff : FfE w0
  nt6 : nt ≤ 1000000
structure KnJ (w0 Wc : World) (X : Fx) (y : ByteArray) (tq : Option Addr) (nt tc sb sc ns kbx : Nat) (tl : List Int) (l : List Ms) (z : Int) (i : Nat) (kept : List Ms) (W : World) : Prop where
  bel : Below w0.heap.size w0 W
  sz : Wc.heap.size ≤ W.heap.size
  f : W.heap[w0.heap.size]? = some (.cells #[.string y, .int .i64 0, .slice tq nt tc, .slice (some ⟨sb, 0, none⟩) ns sc] 35)
  r : W.heap[w0.heap.size + 1]? = some fnZ
  k : W.heap[kbx]? = some (bx132 X)
  t : W.ownsRow (w0.heap.size + 2) 3 1 (.slice tq nt tc) nt (ints tl)
  st : (i < ns ∧ ∃ S, FcM W X S ∧ Ink S (envA l i) (dA l i) (6 * i) ∧ Kp (envA l i) (dA l i) kept) ∨ (i = ns ∧ KnL nt z kept)
theorem ffe_two {w : World} (h : FfE w) : 2 < w.heap.size := cell_lt (h 0 (by omega)).1
theorem KnJ.frame {w0 Wc : World} {X : Fx} {y : ByteArray} {tq : Option Addr} {nt tc sb sc ns kbx : Nat} {tl : List Int} {l : List Ms} {z : Int} {i : Nat} {kept : List Ms} {W W' : World} (E : KnE w0 Wc X tq nt tc sb sc kbx) (h : KnJ w0 Wc X y tq nt tc sb sc ns kbx tl l z i kept W) (os : W'.os = W.os) (tape : W'.tape = W.tape) (out : W'.output = W.output) (sz : W.heap.size ≤ W'.heap.size) (hk : ∀ b, b < Wc.heap.size → b ≠ sb → b ∉ X.Z → W'.heap[b]? = W.heap[b]?) {j : Nat} {kept' : List Ms} (st : (j < ns ∧ ∃ S, FcM W' X S ∧ Ink S (envA l j) (dA l j) (6 * j) ∧ Kp (envA l j) (dA l j) kept') ∨ (j = ns ∧ KnL nt z kept')) : KnJ w0 Wc X y tq nt tc sb sc ns kbx tl l z j kept' W' := by
  have hs := E.s
  have hz := E.z
  have hn : ∀ b, b < w0.heap.size + 2 → b ∉ X.Z := fun b hb e => by have := hz b e; omega
  obtain ⟨tb, e1, t1, t2, t3, t4⟩ := E.t
  refine ⟨⟨os.trans h.bel.os, tape.trans h.bel.tape, out.trans h.bel.output, Nat.le_trans h.bel.size sz, fun b hb => ?_⟩, Nat.le_trans h.sz sz, ?_, ?_, ?_, ?_, st⟩
  · rw [hk b (by omega) (by omega) (hn b (by omega))]
    exact h.bel.block b hb
  · rw [hk _ (by omega) (by omega) (hn _ (by omega))]; exact h.f
  · rw [hk _ (by omega) (by omega) (hn _ (by omega))]; exact h.r
  · rw [hk _ E.k.2.1 E.k.2.2.1 E.k.2.2.2]; exact h.k
  · refine own_at h.t (fun i hi => ?_)
    rw [e1] at hi
    injection hi with hi
    have hi2 : tb = i := hi
    rw [← hi2]
    exact hk tb t2 t3 t4
theorem FcM.ko0 {W W' : World} {X : Fx} {S : Fs} (h : FcM W X S) (hk : ∀ b ∈ X.Z, W'.heap[b]? = W.heap[b]?) : FcM W' X S :=
  ⟨by rw [hk _ (by simp [Fx.Z])]; exact h.blk, h.holds.kept (hk _ (by simp [Fx.Z])), h.homes.kept (hk _ (by simp [Fx.Z])), h.nums.kept (hk _ (by simp [Fx.Z])), h.vals.kept (hk _ (by simp [Fx.Z])), h.nd, h.few⟩
theorem KnJ.stable {w0 Wc : World} {X : Fx} {y : ByteArray} {tq : Option Addr} {nt tc sb sc ns kbx : Nat} {tl : List Int} {l : List Ms} {z : Int} {i : Nat} {kept : List Ms} {W W' : World} (E : KnE w0 Wc X tq nt tc sb sc kbx) (h : KnJ w0 Wc X y tq nt tc sb sc ns kbx tl l z i kept W) (hk : Ko0 Wc.heap.size sb W W') : KnJ w0 Wc X y tq nt tc sb sc ns kbx tl l z i kept W' := by
  refine h.frame E hk.os hk.tape hk.output hk.size (fun b hb hn _ => hk.blk b hb hn) ?_
  rcases h.st with ⟨h1, S, h2, h3⟩ | h1
  · exact .inl ⟨h1, S, h2.ko0 (fun b hb => hk.blk b (E.z b hb).2.1 (E.z b hb).2.2), h3⟩
  · exact .inr h1
theorem own_tyF {W : World} {B nt tc : Nat} {tq : Option Addr} {tl : List Int} (h : W.ownsRow B 3 1 (.slice tq nt tc) nt (ints tl)) (hl : tl.length = nt) (h1 : ∀ x ∈ tl, x = 1) {tb : Nat} (e : tq = some ⟨tb, 0, none⟩) : ∀ p, p < nt → W.cell? ⟨tb, p, none⟩ = some (.int .i64 1) := fun p hp => by
  rcases own_row h with ⟨e1, e2⟩ | ⟨g, cap, e1, e2, e3⟩
  · omega
  · injection e1 with e1 _ _
    rw [e] at e1
    injection e1 with e1
    injection e1 with e1
    subst e1
    refine e3 p _ ?_
    have hx : tl[p]? = some (tl[p]'(by omega)) := List.getElem?_eq_getElem _
    have h9 := h1 _ (List.getElem_mem (l := tl) (n := p) (by omega))
    rw [h9] at hx
    show (tl.map (fun x => Value.int .i64 x))[p]? = _
    rw [List.getElem?_map, hx]
    rfl
set_option maxRecDepth 100000 in
set_option maxHeartbeats 2000000 in
theorem known_78 (w0 Wc : World) (X : Fx) (y : ByteArray) (tq : Option Addr) (nt tc sb sc ns kbx : Nat) (tl : List Int) (l : List Ms) (z : Int) (E : KnE w0 Wc X tq nt tc sb sc kbx) (hg : Good nt z l) (hrt : ∀ s ∈ l, s.code = 8 → s = rt s.a) (hns : l.length = ns) (htl : tl.length = nt) (ht1 : ∀ x ∈ tl, x = 1)
    (W : World) (i : Nat) (kept : List Ms) (s : Ms) (cur : Array Value) (hs : l[i]? = some s) (hJ : KnJ w0 Wc X y tq nt tc sb sc ns kbx tl l z i kept W) (hrow : W.heap[sb]? = some (.cells cur 44)) (hcs : cur.size = sc * 10) (hc : ∀ o, o < 10 → cur[i * 10 + o]? = (sC s)[o]?) :
    Calls Tryd.prog 78 #[.int .i64 (i : Int), ptr kbx, ptr w0.heap.size] W (ClPost Wc sb i cur kept (KnJ w0 Wc X y tq nt tc sb sc ns kbx tl l z) W) := by
  have hil : i < ns := by rw [← hns]; exact (List.getElem?_eq_some_iff.1 hs).1
  have hle := hg.st.le
  have hmem := List.mem_of_getElem? hs
  have hst := hg.st.all s hmem
  obtain ⟨S, hfc, hin, hkp⟩ : ∃ S, FcM W X S ∧ Ink S (envA l i) (dA l i) (6 * i) ∧ Kp (envA l i) (dA l i) kept := by
    rcases hJ.st with ⟨_, h⟩ | ⟨h, _⟩
    · exact h
    · omega
  have hEz := E.z
  have hEs := E.s
  have htwo := ffe_two E.ff
  obtain ⟨tb, et, t1, t2, t3, t4⟩ := E.t
  have hsz10 : i * 10 + 10 ≤ cur.size := by
    have := hc 9 (by omega)
    have h9 : (sC s)[9]? = some (.slice none 0 0) := rfl
    rw [h9] at this
    have := (Array.getElem?_eq_some_iff.1 this).1
    omega
  have hSp : SpH W.drew X S nt sb (i * 10) (6 * i) cur s (envA l i) (dA l i) :=
    ⟨hfc.same ⟨fun _ => rfl, rfl, rfl, rfl, rfl⟩, hin, ⟨tb, tc, by rw [E.tv, et], t4, own_tyF (W := W) hJ.t htl ht1 et⟩, fun tb' tc' e => by
      rw [E.tv, et] at e
      injection e with e
      injection e with e
      injection e with e
      omega, (E.ff.below hJ.bel).below (Below.refl _ _).drew, fun e => by
      rcases List.mem_cons.1 e with e | e
      · omega
      · have := hEz 2 e; omega, fun e => by have := hEz sb e; omega, hrow, hsz10, hc, by omega, E.nt6⟩
  have hfin : ∀ (b : Bool) (t : Ms) (S' : Fs) (cur' : Array Value) (w' : World), w'.heap[sb]? = some (.cells cur' 44) → cur'.size = cur.size → (∀ o, o < 10 → cur'[i * 10 + o]? = (sC t)[o]?) → (∀ p, (p < i * 10 ∨ i * 10 + 10 ≤ p) → cur'[p]? = cur[p]?) → Ko (sb :: X.Z) W.drew w' → (∀ kept', (b = true → kept' = kept) → (b = false → kept' = kept ++ [t]) → ((i + 1 < ns ∧ ∃ S, FcM w' X S ∧ Ink S (envA l (i + 1)) (dA l (i + 1)) (6 * (i + 1)) ∧ Kp (envA l (i + 1)) (dA l (i + 1)) kept') ∨ (i + 1 = ns ∧ KnL nt z kept'))) → ClPost Wc sb i cur kept (KnJ w0 Wc X y tq nt tc sb sc ns kbx tl l z) W (.returned (.bool b)) w' := fun b t S' cur' w' a1 a2 a3 a4 a5 a6 => by
    have hfr : ∀ kept', (b = true → kept' = kept) → (b = false → kept' = kept ++ [t]) → KnJ w0 Wc X y tq nt tc sb sc ns kbx tl l z (i + 1) kept' w' := fun kept' g1 g2 =>
      hJ.frame E a5.os a5.tape a5.output a5.size (fun b hb hn hz => a5.blk b (by have := hJ.sz; exact Nat.lt_of_lt_of_le hb this) (by
        intro e
        rcases List.mem_cons.1 e with e | e
        · exact hn e
        · exact hz e)) (a6 kept' g1 g2)
    refine ⟨b, t, cur', rfl, ⟨a5.size, fun b hb hl => a5.blk b hl (by
      intro e
      rcases List.mem_cons.1 e with e | e
      · omega
      · have := hEz b e; omega)⟩, a1, a2, a3, a4, fun hb => hfr kept (fun _ => rfl) (fun h => by rw [hb] at h; cases h), fun hb => hfr _ (fun h => by rw [hb] at h; cases h) (fun _ => rfl)⟩
  have hS79 : Calls Tryd.prog 79 #[ptr X.kb, .pointer (some ⟨sb, i * 10, none⟩)] W.drew (fun e w' => ∃ b, e = .returned (.bool b) ∧ ClPost Wc sb i cur kept (KnJ w0 Wc X y tq nt tc sb sc ns kbx tl l z) W e w') := by
    by_cases h8 : s.code = 8
    · have hil2 : i + 1 = ns := by rw [← hns]; exact hg.st.only i s hs h8
      have ha := hst.a (by rw [h8]; decide)
      have hd : dA l i ≤ nt := by
        cases i with
        | zero => show (0 : Int) ≤ _; omega
        | succ j =>
          show (match l[j]? with | some s => s.dst + 1 | none => 0) ≤ _
          cases hj : l[j]? with
          | none => show (0 : Int) ≤ _; omega
          | some t =>
            have htm := hg.st.all t (List.mem_of_getElem? hj)
            have hne : t.code ≠ 8 := fun e => by have := hg.st.only j t hj e; omega
            have := htm.dst hne
            show t.dst + 1 ≤ _
            omega
      refine (step_8 W.drew X S nt sb (i * 10) (6 * i) cur s (envA l i) (dA l i) hSp h8 ha.1 ha.2 hd).mono ?_
      rintro e w' ⟨r, S', cur', rfl, q1, q2, q3, q4, q5, q6, q7, q8, q9⟩
      refine ⟨false, rfl, hfin false { s with a := r } S' cur' w' q5 q6 q8 q7 q9 (fun kept' _ g2 => .inr ⟨hil2, ?_⟩)⟩
      rw [g2 rfl]
      obtain ⟨ps, p1, p2, p3, p4⟩ := hkp
      refine ⟨envA l i, ps, r, ?_, p2, fun p hp => by have := p3 p hp; omega, p4, q3, q4, ?_, hg.i64 i⟩
      · rw [p1, hrt s hmem h8]
        rfl
      · rw [q2]
        have hf := hg.fin s (by rw [show l.length - 1 = i by omega]; exact hs)
        rw [show l.length - 1 = i by omega] at hf
        exact hf
    · have hil2 : i + 1 < ns := by
        rcases Nat.lt_or_ge (i + 1) ns with h | h
        · exact h
        · exact absurd (hg.st.last s (by rw [show l.length - 1 = i by omega]; exact hs)) h8
      have hdst := hst.dst h8
      have hasc := hg.asc i s hs h8
      have hev := hg.ev i s hs h8
      have hw : Calls Tryd.prog 79 #[ptr X.kb, .pointer (some ⟨sb, i * 10, none⟩)] W.drew (StP W.drew X sb (i * 10) cur (envA l i) (6 * i + 6) s.dst (evS (envA l i) s)) := by
        rcases hst.code with h | h | h | h
        · exact step_1 _ X S nt sb _ _ cur s _ _ hSp h hdst.1 hdst.2 hasc hev
        · exact step_2 _ X S nt sb _ _ cur s _ _ hSp h hdst.1 hdst.2 hasc (hst.a (by rw [h]; decide)).1 (hg.ra s hmem (.inl h))
        · exact step_3 _ X S nt sb _ _ cur s _ _ hSp h hdst.1 hdst.2 hasc (hst.a (by rw [h]; decide)).1 (hg.ra s hmem (.inr h)) (hst.b h).1 (hg.rb s hmem h) (hg.two i s hs h) hev
        · exact absurd h h8
      refine hw.mono ?_
      rintro e w' ⟨b, S', cur', rfl, q1, q2, q3, q4, q5, q6, q7, q8⟩
      have e1 : envA l (i + 1) = up (envA l i) s.dst (evS (envA l i) s) := by rw [envA]; rw [hs]
      have e2 : dA l (i + 1) = s.dst + 1 := by rw [dA]; rw [hs]
      refine ⟨b, rfl, hfin b (cn s.dst (evS (envA l i) s)) S' cur' w' q4 q5 q7 q6 q8 (fun kept' g1 g2 => .inl ⟨hil2, S', q1, by rw [e1, e2]; exact q2, ?_⟩)⟩
      rw [e1, e2]
      cases b with
      | true => rw [g1 rfl]; exact hkp.skip hasc (q3 rfl)
      | false => rw [g2 rfl]; exact hkp.put hdst.1 hasc
  have HS : Hid (Calls Tryd.prog 79 #[ptr X.kb, .pointer (some ⟨sb, i * 10, none⟩)] W.drew (fun e w' => ∃ b, e = .returned (.bool b) ∧ ClPost Wc sb i cur kept (KnJ w0 Wc X y tq nt tc sb sc ns kbx tl l z) W e w')) := hS79
  have c0 : W.drew.cell? ⟨kbx, 0, none⟩ = some (ptr X.kb) := cell_at (w := W) (i := 0) hJ.k rfl
  have c3 : W.drew.cell? ⟨w0.heap.size, 3, none⟩ = some (.slice (some ⟨sb, 0, none⟩) ns sc) := cell_at (w := W) (i := 3) hJ.f rfl
  have hl9 : (i : Int) < (ns : Int) := by omega
  have hn6 : ns ≤ 1000 := by omega
  generalize ClPost Wc sb i cur kept (KnJ w0 Wc X y tq nt tc sb sc ns kbx tl l z) W = G at HS ⊢
  clear hS79 hfin hSp hfc hin hkp hJ hrow hc hcs hs hmem hst hEz hEs htwo et t1 t2 t3 t4 hsz10 hg hrt ht1 E hns htl hle
  go_enter Tryd.func78, Tryd.ntmps78
  go_wp2_with fail
  go_region_with (go_at_call 79; refine HS.out.mono ?_; rintro e w5 ⟨b, rfl, hg5⟩; have HX : Hid (G (.returned (.bool b)) w5) := hg5; clear hg5)
  all_goals
    go_wp2
    first | exact HX.out | (go_ret; exact HX.out) | (exact bodyPost_ret rfl rfl HX.out)
end Go.Proofs.YtjmbjpimabnohaaDoor.Mid
