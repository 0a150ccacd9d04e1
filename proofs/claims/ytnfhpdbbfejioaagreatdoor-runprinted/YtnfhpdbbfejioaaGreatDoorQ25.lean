/- GI GJ GK GL -/
import Derived.Test.YtnfhpdbbfejioaaGreatDoorQ18
namespace Go.Proofs.YtnfhpdbbfejioaaGreatDoor
set_option linter.unusedVariables false
set_option linter.unusedSimpArgs false
set_option maxRecDepth 100000
set_option maxHeartbeats 4000000
open Go Go.RowKit
theorem St.ne {w0 : World} {P : Nat} {fv : Value} {w : World} {r : Rs} {d : Nat} (h : St w0 P fv w r d) {b : Nat} (hb : b ∈ r.ab.map (·.1)) : b ≠ P := by
 have := h.lo b hb
 have := h.lt
 omega
theorem St.setP {w0 : World} {P : Nat} {fv : Value} {w : World} {r : Rs} {d : Nat} (h : St w0 P fv w r d) {i : Nat} {v : Value} (r' : Rs) (d' : Nat) (hpb : (#[fv, r.iv, r.ov, .int .i64 (r.s.fuel : Int), .int .i64 (d : Int)] : Array Value).setIfInBounds i v = #[fv, r'.iv, r'.ov, .int .i64 (r'.s.fuel : Int), .int .i64 (d' : Int)])
  (hab : r'.ab = r.ab) (hhp : r'.s.hp = r.s.hp) (hov : r'.ov = r.ov) (hout : r'.s.out = r.s.out) (hin : InS w0 P r'.iv r'.s.inp) (hf : r'.s.fuel ≤ 1000000) (hd : d' ≤ 40) :
  St w0 P fv (w.setCell ⟨P, i, none⟩ v) r' d' ∧ Fz P NoE w r (w.setCell ⟨P, i, none⟩ v) r' := by
 have hoth : ∀ b, b ≠ P → (w.setCell ⟨P, i, none⟩ v).heap[b]? = w.heap[b]? := fun b hb => heap_setCell_other _ _ _ _ hb
 have hsz : (w.setCell ⟨P, i, none⟩ v).heap.size = w.heap.size := by simp
 have hX : ∀ b, Xs P r' b ↔ Xs P r b := fun b => by unfold Xs; rw [hab, hov]
 refine ⟨⟨h.lt, by rw [hsz]; exact h.le, fun b h1 h2 => by rw [hoth b h2]; exact h.kp b h1 h2, ?_, hin, ?_, ?_, by rw [hab, hhp]; exact h.alen, ?_, by rw [hab]; exact h.lo, by rw [hab]; exact h.nd, hf, by rw [hout]; exact h.told, hd⟩, ⟨rfl, rfl, rfl, by rw [hsz]; exact Nat.le_refl _, fun b _ hx _ => hoth b (fun e => hx (.inl e)), by rw [hab]; exact List.prefix_rfl, fun b h1 h2 => absurd ((hX b).1 h1) h2⟩⟩
 ·rw [heap_setCell_same _ _ _ _ _ _ h.pb, hpb]
 ·rw [hov, hout]
  refine own_at h.out (fun k hk => hoth k (fun e => ?_))
  have := (h.out.lt k hk).1
  have := h.lt
  omega
 ·rw [hov, hab]; exact h.apart
 ·intro k b n hk
  rw [hab] at hk
  obtain ⟨l, a1, a2, a3, a4⟩ := h.arr k b n hk
  refine ⟨l, by rw [hhp]; exact a1, a2, a3, ?_⟩
  rw [hoth b (h.ne (List.mem_map.2 ⟨(b, n), List.mem_of_getElem? hk, rfl⟩))]
  exact a4
def Rs.fuel1 (r : Rs) : Rs := { r with s := { r.s with fuel := r.s.fuel - 1 } }
def PayP (X : Cx) (w : World) (r : Rs) (d : Nat) (e : Ending) (w' : World) : Prop :=
 (r.s.fuel = 0 ∧ e = endE 6 ∧ w' = w) ∨ (r.s.fuel ≠ 0 ∧ e = .returned (.tuple #[]) ∧ St X.w0 X.P X.fv w' r.fuel1 d ∧ Fz X.P NoE w r w' r.fuel1)
theorem pay_any (X : Cx) (w : World) (r : Rs) (d : Nat) (h : St X.w0 X.P X.fv w r d) : Calls Tryz.prog 88 #[ptr X.P] w (PayP X w r d) := by
 have c3 := z_ (i := 3) h.pb rfl
 have f3 := zb h.pb 3
 have HH : Hid (St X.w0 X.P X.fv w r d) := h
 have hf := h.few
 by_cases h0 : r.s.fuel = 0
 ·rw [h0] at c3
  have H0 : Hid (r.s.fuel = 0) := h0
  clear h h0 hf
  go_enter Tryz.func88, Tryz.ntmps88
  go_wp2_with (go_at_call 54; refine (qh _ _).mono ?_; rintro e w' ⟨rfl, rfl⟩)
  exact ⟨rfl, .inl ⟨H0.out, rfl, rfl⟩⟩
 ·obtain ⟨fu, hfu⟩ : ∃ fu, r.s.fuel = fu + 1 := ⟨r.s.fuel - 1, by omega⟩
  have HF : Hid (r.s.fuel = fu + 1) := hfu
  rw [hfu] at c3 hf
  clear h h0 hfu
  go_enter Tryz.func88, Tryz.ntmps88
  go_wp2_with (go_at_call 54; fail)
  go_end0
  have e1 : r.fuel1.s.fuel = fu := by show r.s.fuel - 1 = fu; rw [HF.out]; omega
  obtain ⟨a1, a2⟩ := HH.out.setP (i := 3) (v := .int .i64 (fu : Int)) r.fuel1 d (by rw [e1]; rfl) rfl rfl rfl rfl HH.out.inp (by rw [e1]; omega) HH.out.deep
  exact .inr ⟨by rw [HF.out]; omega, rfl, a1, a2⟩
def ItP (b l : Nat) (i : Int) (w : World) (e : Ending) (w' : World) : Prop := (((i < 0 ∨ (l : Int) ≤ i) ∧ e = endE 3) ∨ (0 ≤ i ∧ i < l ∧ e = .returned (.pointer (some ⟨b, i.toNat, none⟩)))) ∧ w' = w
theorem item_any (b l c : Nat) (i : Int) (w : World) (hl : l ≤ 40) : Calls Tryz.prog 186 #[.slice (some ⟨b, 0, none⟩) l c, .int .i64 i] w (ItP b l i w) := by
 by_cases h0 : i < 0
 ·go_enter Tryz.func186, Tryz.ntmps186
  go_wp2_with (go_at_call 54; refine (qh _ _).mono ?_; rintro e w' ⟨rfl, rfl⟩)
  exact ⟨rfl, .inl ⟨.inl h0, rfl⟩, rfl⟩
 ·by_cases h1 : i < l
  ·go_enter Tryz.func186, Tryz.ntmps186
   go_wp2_with (go_at_call 54; refine (qh _ _).mono ?_; rintro e w' ⟨rfl, rfl⟩)
   go_ret
   exact ⟨.inr ⟨by omega, h1, rfl⟩, rfl⟩
  ·go_enter Tryz.func186, Tryz.ntmps186
   go_wp2_with (go_at_call 54; refine (qh _ _).mono ?_; rintro e w' ⟨rfl, rfl⟩)
   exact ⟨rfl, .inl ⟨.inr (by omega), rfl⟩, rfl⟩
theorem item_nil (i : Int) (w : World) : Calls Tryz.prog 186 #[.slice none 0 0, .int .i64 i] w fun e w' => e = endE 3 ∧ w' = w := by
 by_cases h0 : i < 0
 ·go_enter Tryz.func186, Tryz.ntmps186
  go_wp2_with (go_at_call 54; refine (qh _ _).mono ?_; rintro e w' ⟨rfl, rfl⟩)
  exact ⟨rfl, rfl, rfl⟩
 ·have h1 : 0 ≤ i := by omega
  go_enter Tryz.func186, Tryz.ntmps186
  go_wp2_with (go_at_call 54; refine (qh _ _).mono ?_; rintro e w' ⟨rfl, rfl⟩)
  exact ⟨rfl, rfl, rfl⟩
theorem info2 : (Tryz.prog.info? 2).map (fun i => (i.zero, i.size, i.bytes)) = some (some (.int .i64 0), 1, 8) := by kernel_rfl
theorem made_int (n : Nat) : madeCells (Value.int .i64 0).cells (n * 1) = (ints (List.replicate n 0)).toArray := by
 apply Array.ext'
 rw [Nat.mul_one]
 show (madeCells #[Value.int .i64 0] n).toList = _
 rw [toList_madeCells_one]
 simp [ints]
theorem mk_ints (n : Nat) (hn : n ≤ 40) (w : World) : (Instr.makeSlice 22 (.int .i64 (n : Int)) (.int .i64 (n : Int))).run Tryz.prog w = .ok (.slice (some ⟨w.heap.size, 0, none⟩) n n) (w.alloc (.cells (ints (List.replicate n 0)).toArray 2)) := by
 obtain ⟨i, hi, hz0, hz1, hz2⟩ := qt info2
 have := run_makeSlice w 22 2 i _ Tryz.underlying22 hi hz0 .i64 .i64 (n : Int) (n : Int) (by omega) (by omega) (by rw [hz1]; simp; omega) (by rw [hz2]; omega) (by omega)
 rw [hz1] at this
 simp only [Int.toNat_natCast, made_int] at this
 exact this
def ArP (n : Int) (w : World) (e : Ending) (w' : World) : Prop := ((n < 0 ∨ 40 < n) ∧ e = endE 4 ∧ w' = w) ∨ (0 ≤ n ∧ n ≤ 40 ∧ e = .returned (.slice (some ⟨w.heap.size, 0, none⟩) n.toNat n.toNat) ∧ w' = w.alloc (.cells (ints (List.replicate n.toNat 0)).toArray 2))
theorem array_any (n : Int) (w : World) : Calls Tryz.prog 194 #[.int .i64 n] w (ArP n w) := by
 by_cases h0 : n < 0
 ·go_enter Tryz.func194, Tryz.ntmps194
  go_wp2_with (go_at_call 54; refine (qh _ _).mono ?_; rintro e w' ⟨rfl, rfl⟩)
  exact ⟨rfl, .inl ⟨.inl h0, rfl, rfl⟩⟩
 ·by_cases h1 : 40 < n
  ·go_enter Tryz.func194, Tryz.ntmps194
   go_wp2_with (go_at_call 54; refine (qh _ _).mono ?_; rintro e w' ⟨rfl, rfl⟩)
   exact ⟨rfl, .inl ⟨.inr h1, rfl, rfl⟩⟩
  ·obtain ⟨m, rfl⟩ : ∃ m : Nat, n = m := ⟨n.toNat, by omega⟩
   have h2 : m ≤ 40 := by omega
   have hm := mk_ints m h2
   clear h0
   go_enter Tryz.func194, Tryz.ntmps194
   go_wp2_with (go_at_call 54; fail)
   go_ret
   exact .inr ⟨by omega, by omega, by simp, by simp⟩
def Rs.take1 (r : Rs) (iv : Value) : Rs := { r with iv := iv, s := { r.s with inp := r.s.inp.tail } }
def TkP (X : Cx) (w : World) (r : Rs) (d : Nat) (e : Ending) (w' : World) : Prop :=
 ∃ iv, e = .returned (.int .i64 (r.s.inp.headD 0)) ∧ St X.w0 X.P X.fv w' (r.take1 iv) d ∧ Fz X.P NoE w r w' (r.take1 iv)
theorem tk_fin {X : Cx} {w : World} {r : Rs} {d : Nat} {x : Int} {xs : List Int} {iv : Value} (h : St X.w0 X.P X.fv w r d) (hn : r.s.inp = x :: xs) (hi : InS X.w0 X.P iv xs) : TkP X w r d (.returned (.int .i64 x)) (w.setCell ⟨X.P, 1, none⟩ iv) := by
 obtain ⟨a1, a2⟩ := h.setP (i := 1) (v := iv) (r.take1 iv) d rfl rfl rfl rfl rfl (by show InS _ _ _ r.s.inp.tail; rw [hn]; exact hi) h.few h.deep
 exact ⟨iv, by rw [hn]; rfl, a1, a2⟩
theorem take_any (X : Cx) (w : World) (r : Rs) (d : Nat) (h : St X.w0 X.P X.fv w r d) : Calls Tryz.prog 199 #[ptr X.P] w (TkP X w r d) := by
 obtain ⟨q, c, hiv, hq⟩ := h.inp
 have c1 := z_ (i := 1) h.pb rfl
 have f1 := zb h.pb 1
 have HH : Hid (St X.w0 X.P X.fv w r d) := h
 have HI : Hid (r.iv = .slice q r.s.inp.length c) := hiv
 cases hi : r.s.inp with
 | nil =>
  have HN : Hid (r.s.inp = []) := hi
  have c1' : w.cell? ⟨X.P, 1, none⟩ = some (.slice q 0 c) := by rw [c1]; show some r.iv = _; rw [hiv, hi]; rfl
  clear h c1 hq hiv hi
  go_enter Tryz.func199, Tryz.ntmps199
  go_wp2
  go_ret
  have e : r.take1 r.iv = r := by
   have hn := HN.out
   unfold Rs.take1
   rw [hn]
   cases r with
   | mk ab iv ov s =>
    cases s with
    | mk fu inp out hp =>
     have hn' : inp = [] := hn
     subst hn'
     rfl
  refine ⟨r.iv, by rw [HN.out]; rfl, ?_, ?_⟩
  ·rw [e]; exact HH.out
  ·rw [e]; exact Fz.refl _ _ _ _
 | cons x xs =>
  rw [hi] at hq hiv
  rcases hq with hq | ⟨g, o, rfl, hg, hgP, hc, hcell⟩
  ·cases hq
  have hx0 : w.cell? ⟨g, o, none⟩ = some (.int .i64 x) := by
   have := hcell 0 x rfl
   rw [Nat.add_zero] at this
   rw [← this]
   exact World.cell?_of_block (a := ⟨g, o, none⟩) (h.kp g hg hgP)
  obtain ⟨cc, rfl⟩ : ∃ cc, c = cc + 1 := ⟨c - 1, by simp at hc; omega⟩
  have c1' : w.cell? ⟨X.P, 1, none⟩ = some (.slice (some ⟨g, o, none⟩) (xs.length + 1) (cc + 1)) := by rw [c1]; show some r.iv = _; rw [hiv]; rfl
  have HN : Hid (r.s.inp = x :: xs) := hi
  have HC : Hid (∀ j y, (x :: xs)[j]? = some y → X.w0.cell? ⟨g, o + j, none⟩ = some (.int .i64 y)) := hcell
  have HG : Hid (g < X.w0.heap.size ∧ g ≠ X.P ∧ xs.length ≤ cc) := ⟨hg, hgP, by simp at hc; omega⟩
  obtain ⟨m, hm⟩ : ∃ m, m = xs.length := ⟨_, rfl⟩
  rw [← hm] at c1'
  have HM : Hid (m = xs.length) := hm
  have hmc : m ≤ cc := by rw [hm]; exact HG.out.2.2
  clear h c1 hiv hi hcell hc hg hgP hm
  go_enter Tryz.func199, Tryz.ntmps199
  go_wp2
  ·go_ret
   have hm := HM.out
   refine tk_fin HH.out HN.out ⟨_, _, by rw [hm], .inl ?_⟩
   have : xs.length = 0 := by omega
   exact List.length_eq_zero_iff.1 this
  ·go_ret
   have hm := HM.out
   refine tk_fin HH.out HN.out ⟨_, _, by rw [hm], .inr ⟨g, o + 1, rfl, HG.out.1, HG.out.2.1, HG.out.2.2, fun j y hy => ?_⟩⟩
   have := HC.out (j + 1) y hy
   rw [show o + 1 + j = o + (j + 1) by omega]
   exact this
def Rs.tell1 (r : Rs) (ov : Value) (n : Int) : Rs := { r with ov := ov, s := { r.s with out := r.s.out ++ [n] } }
def TlP (X : Cx) (w : World) (r : Rs) (d : Nat) (n : Int) (e : Ending) (w' : World) : Prop :=
 (200 ≤ r.s.out.length ∧ e = endE 7 ∧ w' = w) ∨ (r.s.out.length < 200 ∧ e = .returned (.tuple #[]) ∧ ∃ ov, St X.w0 X.P X.fv w' (r.tell1 ov n) d ∧ Fz X.P NoE w r w' (r.tell1 ov n))
theorem tl_fin {X : Cx} {w w1 : World} {r : Rs} {d : Nat} {n : Int} {g cap m : Nat} (h : St X.w0 X.P X.fv w r d) (hm : m = r.s.out.length) (h2 : m < 200) (A : Obj) (hown : w1.ownsRow X.w0.heap.size 2 1 (.slice (some ⟨g, 0, none⟩) (m + 1) cap) (m + 1) (ints r.s.out ++ [.int .i64 n])) (hgr : (w.alloc A).grownBy w1 r.ov.ownBlock) (hg : r.ov.ownBlock = some g ∨ g = w.heap.size + 1) :
  TlP X w r d n (.returned (.tuple #[])) (w1.setCell ⟨X.P, 2, none⟩ (.slice (some ⟨g, 0, none⟩) (m + 1) cap)) := by
 have hsz1 : w.heap.size + 1 ≤ w1.heap.size := by have := hgr.size; simpa using this
 have hov : ∀ i, r.ov.ownBlock = some i → X.w0.heap.size ≤ i ∧ i < w.heap.size := fun i hi => h.out.lt i hi
 have hk : ∀ b, b < w.heap.size → r.ov.ownBlock ≠ some b → w1.heap[b]? = w.heap[b]? := fun b hb hne => by
  rw [hgr.block b (by simp; omega) (fun e => hne e.symm), zn hb]
 have hPg : X.P ≠ g := by
  have := h.lt
  have := h.ltP
  rcases hg with hg | rfl
  ·have := (hov g hg).1; omega
  ·omega
 have hP1 : w1.heap[X.P]? = some (.cells #[X.fv, r.iv, r.ov, .int .i64 (r.s.fuel : Int), .int .i64 (d : Int)] 60) := by
  rw [hk X.P h.ltP (fun e => by have := (hov _ e).1; have := h.lt; omega)]
  exact h.pb
 have hoth : ∀ b, b ≠ X.P → (w1.setCell ⟨X.P, 2, none⟩ (.slice (some ⟨g, 0, none⟩) (m + 1) cap)).heap[b]? = w1.heap[b]? := fun b hb => heap_setCell_other _ _ _ _ hb
 have hsz : (w1.setCell ⟨X.P, 2, none⟩ (.slice (some ⟨g, 0, none⟩) (m + 1) cap)).heap.size = w1.heap.size := by simp
 refine .inr ⟨by omega, rfl, .slice (some ⟨g, 0, none⟩) (m + 1) cap, ?_, ?_⟩
 ·refine ⟨h.lt, by rw [hsz]; have := h.le; omega, fun b h1 h2 => ?_, ?_, h.inp, ?_, ?_, h.alen, ?_, h.lo, h.nd, h.few, ?_, h.deep⟩
  ·rw [hoth b h2, hk b (Nat.lt_of_lt_of_le h1 h.le) (fun e => by have := (hov _ e).1; omega)]
   exact h.kp b h1 h2
  ·exact heap_setCell_same _ _ _ _ _ _ hP1
  ·have e1 : (r.tell1 (.slice (some ⟨g, 0, none⟩) (m + 1) cap) n).s.out = r.s.out ++ [n] := rfl
   have e2 : (r.s.out ++ [n]).length = m + 1 := by rw [hm]; simp
   rw [e1, e2, show ints (r.s.out ++ [n]) = ints r.s.out ++ [.int .i64 n] by simp [ints]]
   exact own_at hown (fun i hi => hoth i (fun e => hPg (by rw [← e]; injection hi with hi; exact hi.symm)))
  ·intro i hi
   have e : i = g := by injection hi with hi; exact hi.symm
   subst e
   rcases hg with hg | rfl
   ·exact h.apart i hg
   ·intro hmem
    obtain ⟨p, hp, e⟩ := List.mem_map.1 hmem
    obtain ⟨j, hj⟩ := List.getElem?_of_mem hp
    obtain ⟨l, _, _, _, a4⟩ := h.arr j p.1 p.2 hj
    have := (Array.getElem?_eq_some_iff.1 a4).1
    omega
  ·intro i b k hi
   obtain ⟨l, a1, a2, a3, a4⟩ := h.arr i b k hi
   refine ⟨l, a1, a2, a3, ?_⟩
   have hmem : b ∈ r.ab.map (·.1) := List.mem_map.2 ⟨(b, k), List.mem_of_getElem? hi, rfl⟩
   rw [hoth b (h.ne hmem), hk b (Array.getElem?_eq_some_iff.1 a4).1 (fun e => h.apart b e hmem)]
   exact a4
  ·show (r.s.out ++ [n]).length ≤ 200
   simp
   omega
 ·refine ⟨hgr.os, hgr.tape, hgr.output, by rw [hsz]; omega, fun b hb hx _ => ?_, List.prefix_rfl, fun b hx hnx => ?_⟩
  ·rw [hoth b (fun e => hx (.inl e)), hk b hb (fun e => hx (.inr (.inr e)))]
  ·rcases hx with hx | hx | hx
   ·exact absurd (.inl hx) hnx
   ·exact absurd (.inr (.inl hx)) hnx
   ·have e : b = g := by injection hx with hx; exact hx.symm
    subst e
    rcases hg with hg | rfl
    ·exact absurd (.inr (.inr hg)) hnx
    ·omega
theorem tell_any (X : Cx) (w : World) (r : Rs) (d : Nat) (n : Int) (h : St X.w0 X.P X.fv w r d) : Calls Tryz.prog 141 #[ptr X.P, .int .i64 n] w (TlP X w r d n) := by
 obtain ⟨q, c, hov⟩ := ze h.out
 have c2 : w.cell? ⟨X.P, 2, none⟩ = some r.ov := z_ (i := 2) h.pb rfl
 have f2 := zb h.pb 2
 rw [hov] at c2
 have HH : Hid (St X.w0 X.P X.fv w r d) := h
 have hP := h.ltP
 have ht := h.told
 obtain ⟨m, hm⟩ : ∃ m, m = r.s.out.length := ⟨_, rfl⟩
 have HM : Hid (m = r.s.out.length) := hm
 have HV : Hid (r.ov = .slice q m c) := by rw [hm]; exact hov
 rw [← hm] at c2 ht
 have HO : Hid (w.ownsRow X.w0.heap.size 2 1 (.slice q m c) m (ints r.s.out)) := by have := h.out; rw [hov, ← hm] at this; exact this
 clear h hov hm
 by_cases h2 : 200 ≤ m
 ·go_enter Tryz.func141, Tryz.ntmps141
  go_wp2_with (go_at_call 54; refine (qh _ _).mono ?_; rintro e w' ⟨rfl, rfl⟩)
  exact ⟨rfl, .inl ⟨by have := HM.out; omega, rfl, rfl⟩⟩
 ·obtain ⟨i0, hi0, hz0, hs0, hb0⟩ := qt info2
  have HO3 : Hid ((w.alloc (.cells #[.int .i64 n] 2)).ownsRow X.w0.heap.size 2 1 (.slice q m c) m (ints r.s.out)) := HO.out.alloc _
  have HN3 : Hid (∀ (i : Nat) (x : Value), ([.int .i64 n] : List Value)[i]? = some x → (w.alloc (.cells #[.int .i64 n] 2)).cell? ((⟨w.heap.size, 0, none⟩ : Addr).add i) = some x) := World.news_of_block (cs := #[.int .i64 n]) (t := 2) (fr := (0, 0)) (heap_alloc_last w _)
  have H13 : Hid (∀ u ∈ ([.int .i64 n] : List Value), u.oneCell' = true) := fun u hu => by simp at hu; subst hu; rfl
  have HZ3 : Hid (X.w0.heap.size ≤ (w.alloc (.cells #[.int .i64 n] 2)).heap.size) := by have := HH.out.le; show _ ≤ _; simp; omega
  go_enter Tryz.func141, Tryz.ntmps141
  go_wp2_with (at_builtin; refine wpList_append_lies _ rfl _ _ 22 rfl X.w0.heap.size 2 i0 _ 1 8 Tryz.underlying22 hi0 hz0 hs0 hb0 rfl (by decide) _ m _ rfl HO3.out ⟨w.heap.size, 0, none⟩ 1 1 [.int .i64 n] rfl rfl HN3.out H13.out (by decide) (by unfold maxLen; omega) (by omega) HZ3.out (w.heap.size + 1) (by simp) ?_)
  intro g5 cap5 w5 hown5 hgrow5 hg5 hlt5
  have hP5 : w5.heap[X.P]? = some (.cells #[X.fv, r.iv, r.ov, .int .i64 (r.s.fuel : Int), .int .i64 (d : Int)] 60) := by
   rw [hgrow5.block X.P (by simp; omega) (fun e => ?_), zn hP]
   ·exact HH.out.pb
   ·have := (HO.out.lt X.P e.symm).1
    have := HH.out.lt
    omega
  have c5 := z_ (i := 2) hP5 rfl
  have f5 := zb hP5 2
  have HFin : Hid (TlP X w r d n (.returned (.tuple #[])) (w5.setCell ⟨X.P, 2, none⟩ (.slice (some ⟨g5, 0, none⟩) (m + 1) cap5))) := tl_fin HH.out HM.out (by omega) _ hown5 (by rw [HV.out]; exact hgrow5) (by rw [HV.out]; exact hg5)
  clear hown5 hgrow5 hg5 hlt5 hP5
  go_wp2
  go_end0
  exact HFin.out
theorem zW {α β : Type} {x : Go1 α} {f : α → Go1 β} {s : Sg} (h : ∀ out, gb x f s ≠ .error (99, out)) : (∀ out, x s ≠ .error (99, out)) ∧ ∀ a s1, x s = .ok (a, s1) → ∀ out, f a s1 ≠ .error (99, out) := by
 refine ⟨fun out e => h out ?_, fun a s1 e out e2 => h out ?_⟩
 ·unfold gb; rw [e]
 ·unfold gb; rw [e]; exact e2
theorem zR {α β : Type} {x : Go1 α} {f : α → Go1 β} {s s1 : Sg} {a : α} (h : x s = .ok (a, s1)) : gb x f s = f a s1 := by unfold gb; rw [h]
theorem qR {α β : Type} {x : Go1 α} {f : α → Go1 β} {s : Sg} {e : Int × List Int} (h : x s = .error e) : gb x f s = .error e := by unfold gb; rw [h]
theorem St.newX {w0 : World} {P : Nat} {fv : Value} {w : World} {r : Rs} {d : Nat} (h : St w0 P fv w r d) {b : Nat} (hb : w.heap.size ≤ b) : ¬ Xs P r b := by
 intro hx
 rcases hx with rfl | hx | hx
 ·have := h.ltP; omega
 ·obtain ⟨p, hp, rfl⟩ := List.mem_map.1 hx
  obtain ⟨j, hj⟩ := List.getElem?_of_mem hp
  obtain ⟨l, _, _, _, a4⟩ := h.arr j p.1 p.2 hj
  have := (Array.getElem?_eq_some_iff.1 a4).1
  omega
 ·have := (h.out.lt b hx).2
  omega
theorem St.setL {w0 : World} {P : Nat} {fv : Value} {w : World} {r : Rs} {d : Nat} (h : St w0 P fv w r d) {B i : Nat} {v : Value} (hB : ¬ Xs P r B) (hB0 : w0.heap.size ≤ B) : St w0 P fv (w.setCell ⟨B, i, none⟩ v) r d := by
 have ho : ∀ b, b ≠ B → (w.setCell ⟨B, i, none⟩ v).heap[b]? = w.heap[b]? := fun b hb => heap_setCell_other _ _ _ _ hb
 have hsz : (w.setCell ⟨B, i, none⟩ v).heap.size = w.heap.size := by simp
 refine ⟨h.lt, by rw [hsz]; exact h.le, fun b h1 h2 => ?_, ?_, h.inp, own_at h.out (fun k hk => ho k (fun e => hB (.inr (.inr (e ▸ hk))))), h.apart, h.alen, fun k b n hk => ?_, h.lo, h.nd, h.few, h.told, h.deep⟩
 ·rw [ho b (by omega)]; exact h.kp b h1 h2
 ·rw [ho P (fun e => hB (.inl e.symm))]; exact h.pb
 ·obtain ⟨l, a1, a2, a3, a4⟩ := h.arr k b n hk
  refine ⟨l, a1, a2, a3, ?_⟩
  rw [ho b (fun e => hB (.inr (.inl (e ▸ List.mem_map.2 ⟨(b, n), List.mem_of_getElem? hk, rfl⟩))))]
  exact a4
theorem Fz.setL {P : Nat} {E : Nat → Prop} {w w1 : World} {r r1 : Rs} (h : Fz P E w r w1 r1) {B i : Nat} {v : Value} (hB : w.heap.size ≤ B) : Fz P E w r (w1.setCell ⟨B, i, none⟩ v) r1 :=
 ⟨h.os, h.tape, h.output, by simp; exact h.size, fun b hb hx he => by rw [heap_setCell_other _ _ _ _ (by show b ≠ B; omega)]; exact h.blk b hb hx he, h.pre, h.new⟩
theorem EP.after {X : Cx} {w w1 : World} {r r1 : Rs} {d : Nat} {x : Except (Int × List Int) (Vl × Sg)} {e : Ending} {w' : World} (hf : Fz X.P NoE w r w1 r1) (h : EP X w1 r1 d x e w') : EP X w r d x e w' := by
 obtain ⟨r', h1, h2, h3⟩ := h
 exact ⟨r', h1, hf.trans h2, h3⟩
theorem ep_end {X : Cx} {w : World} {r : Rs} {d : Nat} {k : Int} (h : St X.w0 X.P X.fv w r d) : EP X w r d (.error (k, r.s.out)) (endE k) w := ⟨r, h, Fz.refl _ _ _ _, .inr ⟨k, _, rfl, rfl, [], rfl, fun z hz => by cases hz⟩⟩
def PbO (X : Cx) : Prop := ∃ ds, X.w0.heap[X.P]? = some (.cells ds 60)
theorem blk_on {w w' : World} {b : Nat} {o : Obj} (hb : Below w.heap.size w w') (h : w.heap[b]? = some o) : w'.heap[b]? = some o := by
 rw [hb.block b (Array.getElem?_eq_some_iff.1 h).1]; exact h
abbrev R0 : Obj := .cells #[.int .i64 0, .slice none 0 0] 248
theorem res248 {fn : Func} {p : Tmp} (h : fn.results = #[.cell p 248]) (tmps : Array Value) (w : World) (g : Nat) (a0 a1 : Value) (hp : tmps.getD p undef = .pointer (some ⟨g, 0, none⟩)) (hg : w.heap[g]? = some (.cells #[a0, a1] 248)) :
  (results fn tmps).run Tryz.prog w = .ok (.agg #[a0, a1]) w := by
 have h1 : (loadVar 248 ⟨g, 0, none⟩).run Tryz.prog w = .ok (.agg #[a0, a1]) w := run_loadVar_row w g 248 248 _ (0, 0) _ hg Tryz.underlying248 rfl (by kernel_rfl)
 rw [jb h, hp]
 simp [asAddr]
 exact h1
theorem set2 {w : World} {B : Nat} {a0 a1 x z : Value} (h : w.heap[B]? = some (.cells #[a0, a1] 248)) : ((w.setCell ⟨B, 0, none⟩ x).setCell ⟨B, 1, none⟩ z).heap[B]? = some (.cells #[x, z] 248) := heap_setCell_same _ _ _ _ _ _ (heap_setCell_same _ _ _ _ _ _ h)
theorem qE {X : Cx} {w : World} {r : Rs} {d : Nat} {w1 : World} {r1 : Rs} (hs : St X.w0 X.P X.fv w r d) (hf : Fz X.P NoE (w.alloc R0) r w1 r1) : w1.heap[w.heap.size]? = some R0 ∧ ¬ Xs X.P r1 w.heap.size := by
 have hx := hs.newX (Nat.le_refl w.heap.size)
 refine ⟨by rw [hf.blk w.heap.size (by simp) hx (fun e => e)]; exact heap_alloc_last _ _, fun h => ?_⟩
 have := hf.new _ h hx
 simp at this
 omega
theorem fz_in {X : Cx} {w : World} {r : Rs} {w1 : World} {r1 : Rs} {A : Obj} (hf : Fz X.P NoE (w.alloc A) r w1 r1) : Fz X.P NoE w r w1 r1 := (Fz.below ((Below.refl _ _).alloc (Nat.le_refl _) A)).trans hf
theorem ep_fin {X : Cx} {w : World} {r : Rs} {d : Nat} {w1 : World} {r1 : Rs} {y : Vl} {p : Option Addr} {l c : Nat} (hs : St X.w0 X.P X.fv w r d) (h1 : St X.w0 X.P X.fv w1 r1 d) (hf : Fz X.P NoE (w.alloc R0) r w1 r1) (hq : QvS r1.ab y.2 (.slice p l c)) :
  ((w1.setCell ⟨w.heap.size, 0, none⟩ (.int .i64 y.1)).setCell ⟨w.heap.size, 1, none⟩ (.slice p l c)).heap[w.heap.size]? = some (.cells #[.int .i64 y.1, .slice p l c] 248) ∧ EP X w r d (.ok (y, r1.s)) (.returned (vlA y.1 (.slice p l c))) ((w1.setCell ⟨w.heap.size, 0, none⟩ (.int .i64 y.1)).setCell ⟨w.heap.size, 1, none⟩ (.slice p l c)) := by
 obtain ⟨h2, h3⟩ := qE hs hf
 refine ⟨set2 h2, r1, (h1.setL h3 hs.le).setL h3 hs.le, ?_, .inl ⟨y, p, l, c, rfl, rfl, hq⟩⟩
 exact ((fz_in hf).setL (Nat.le_refl _)).setL (Nat.le_refl _)
theorem ep_err {X : Cx} {w : World} {r : Rs} {d : Nat} {w1 : World} {r1 : Rs} {k : Int} {out : List Int} {e : Ending} (h1 : St X.w0 X.P X.fv w1 r1 d) (hf : Fz X.P NoE (w.alloc R0) r w1 r1) (he : Ends9 r1 out k e) : EP X w r d (.error (k, out)) e w1 := ⟨r1, h1, fz_in hf, .inr ⟨k, out, rfl, he⟩⟩
theorem ev_1 (fs : By → Option Fun) (g d : Nat) (o : Own) (a n : Int) (nm op : By) (l r xs : Tr) : evE fs (g + 1) d o (nd 1 a n nm op l r xs) = gp (n, none) := by rw [qN]; simp
theorem ev_2 (fs : By → Option Fun) (g d : Nat) (o : Own) (a n : Int) (nm op : By) (l r xs : Tr) : evE fs (g + 1) d o (nd 2 a n nm op l r xs) = gp (own1 o nm) := by rw [qN]; simp
theorem ev_6 (fs : By → Option Fun) (g d : Nat) (o : Own) (a n : Int) (nm op : By) (l r xs : Tr) : evE fs (g + 1) d o (nd 6 a n nm op l r xs) = gb (evE fs g d o l) fun x => newG x.1 := by rw [qN]; simp
theorem ev_7 (fs : By → Option Fun) (g d : Nat) (o : Own) (a n : Int) (nm op : By) (l r xs : Tr) : evE fs (g + 1) d o (nd 7 a n nm op l r xs) = gb (evE fs g d o l) fun x => gb (lenG x.2) fun n => gp (n, none) := by rw [qN]; simp
theorem ev_9 (fs : By → Option Fun) (g d : Nat) (o : Own) (a n : Int) (nm op : By) (l r xs : Tr) : evE fs (g + 1) d o (nd 9 a n nm op l r xs) = gb takeG fun n => gp (n, none) := by rw [qN]; simp
theorem go_num {X : Cx} (hP : PbO X) {g bx : Nat} {a n : Int} {nm op : By} {l r xs : Tr} (hn : NodeC X.w0 bx 1 a n nm op) : GoE X (g + 1) (nd 1 a n nm op l r xs) (.func (.func 200) #[] #[ptr bx]) := by
 intro w r0 d M m o hs ho hne
 rw [ev_1]
 obtain ⟨b, vl, vr, vg, hb1, hb2⟩ := hn
 have h1 := hs.old hb1 hP (by decide)
 have h2 := hs.old hb2 hP (by decide)
 have c1 := z_ (i := 0) h1 rfl
 have c2 := z_ (i := 2) h2 rfl
 have HS : Hid (St X.w0 X.P X.fv w r0 d) := hs
 have z1 : bx < w.heap.size := (Array.getElem?_eq_some_iff.1 h1).1
 have z2 : b < w.heap.size := (Array.getElem?_eq_some_iff.1 h2).1
 refine ⟨200, _, rfl, ent200, ?_⟩
 show Calls Tryz.prog 200 #[.map (some M), ptr bx] w _
 generalize hG : EP X w r0 d (gp (n, none) r0.s) = G
 have HG : Hid (EP X w r0 d (gp (n, none) r0.s) = G) := hG
 clear hs ho hne hb1 hb2 h1 h2 hG
 go_enter Tryz.func200, Tryz.ntmps200
 go_wp2_with (go_at_call 196; refine (qd _ _).mono ?_; rintro e w1 ⟨rfl, hb1⟩; have hcc := fun b o h => hb1.cell (p := ⟨b, o, none⟩) h; have hff := fun b o h => hb1.frozen (p := ⟨b, o, none⟩) h)
 obtain ⟨e1, e2⟩ := ep_fin (y := (n, none)) (p := none) (l := 0) (c := 0) HS.out ((HS.out.below ((Below.refl _ _).alloc (Nat.le_refl _) R0)).below hb1) (Fz.below hb1) rfl
 exact bodyPost_ret (res248 Tryz.results200 _ _ w.heap.size _ _ rfl e1) rfl (by rw [← HG.out]; exact e2)
theorem und71 : Tryz.prog.underlying 71 = some (.map 9 248) := by kernel_rfl
theorem zero248 (w : World) : (zeroValue 248).run Tryz.prog w = .ok (vlA 0 (.slice none 0 0)) w := by kernel_rfl
theorem QvS.form {ab : List (Nat × Nat)} {q : Option Nat} {v : Value} (h : QvS ab q v) : ∃ p l c, v = .slice p l c := by
 cases q with
 | none => exact ⟨_, _, _, h⟩
 | some i => obtain ⟨b, n, _, h2⟩ := h; exact ⟨_, _, _, h2⟩
theorem own_look {w : World} {M n : Nat} {ab : List (Nat × Nat)} {o : Own} (h : OwS w M n ab o) (nm : By) (hn : nm.length ≤ 1000000) : ∃ p l c, (Instr.lookup 71 (.map (some M)) (.string ⟨nm.toArray⟩) false).run Tryz.prog w = .ok (vlA (own1 o nm).1 (.slice p l c)) w ∧ QvS ab (own1 o nm).2 (.slice p l c) := by
 obtain ⟨f, h1, h2⟩ := h
 obtain ⟨q, e, hq⟩ := h2 nm
 obtain ⟨p, l, c, rfl⟩ := hq.form
 have := h1.look und71 (zero248 w) ⟨nm.toArray⟩ (by simpa [ByteArray.size] using hn)
 refine ⟨p, l, c, ?_, hq⟩
 rw [this]
 have e2 : (⟨nm.toArray⟩ : ByteArray).data.toList = nm := by simp
 rw [e2, e]
theorem go_name {X : Cx} (hP : PbO X) {g bx : Nat} {a n : Int} {nm op : By} {l r xs : Tr} (hn : NodeC X.w0 bx 2 a n nm op) (hnm : nm.length ≤ 1000000) : GoE X (g + 1) (nd 2 a n nm op l r xs) (.func (.func 189) #[] #[ptr bx]) := by
 intro w r0 d M m o hs ho hne
 rw [ev_2]
 obtain ⟨b, vl, vr, vg, hb1, hb2⟩ := hn
 have h1 := hs.old hb1 hP (by decide)
 have h2 := hs.old hb2 hP (by decide)
 have c1 := z_ (i := 0) h1 rfl
 have c2 := z_ (i := 3) h2 rfl
 have HS : Hid (St X.w0 X.P X.fv w r0 d) := hs
 have z1 : bx < w.heap.size := (Array.getElem?_eq_some_iff.1 h1).1
 have z2 : b < w.heap.size := (Array.getElem?_eq_some_iff.1 h2).1
 obtain ⟨f, hf1, hf2⟩ := ho
 obtain ⟨p, ll, c, hlk, hq⟩ := own_look ⟨f, hf1.kept (w' := w.alloc R0) (zn hf1.lt), hf2⟩ nm hnm
 obtain ⟨y, hy⟩ : ∃ y, y = own1 o nm := ⟨_, rfl⟩
 have HQ : Hid (QvS r0.ab y.2 (.slice p ll c)) := by rw [hy]; exact hq
 have HY : Hid (y = own1 o nm) := hy
 rw [← hy] at hlk
 refine ⟨189, _, rfl, ent189, ?_⟩
 show Calls Tryz.prog 189 #[.map (some M), ptr bx] w _
 generalize hG : EP X w r0 d (gp (own1 o nm) r0.s) = G
 have HG : Hid (EP X w r0 d (gp (own1 o nm) r0.s) = G) := hG
 obtain ⟨ys, hys⟩ : ∃ ys : ByteArray, ys = ⟨nm.toArray⟩ := ⟨_, rfl⟩
 have c2' : w.cell? ⟨b, 3, none⟩ = some (.string ys) := by rw [c2, hys]; rfl
 rw [← hys] at hlk
 clear hs hne hb1 hb2 h1 h2 hG hf1 hf2 hq hy c2 hys
 go_enter Tryz.func189, Tryz.ntmps189
 go_wp2
 refine bodyPost_ret (res248 Tryz.results189 _ _ w.heap.size _ _ rfl (heap_alloc_last _ _)) rfl ?_
 have hb : Below w.heap.size w (w.alloc (.cells #[.int .i64 y.1, .slice p ll c] 248)) := (Below.refl _ _).alloc (Nat.le_refl _) _
 rw [← HG.out]
 exact ⟨r0, HS.out.below hb, Fz.below hb, .inl ⟨y, p, ll, c, by rw [HY.out]; rfl, rfl, HQ.out⟩⟩
theorem go_input {X : Cx} (hP : PbO X) {g bp : Nat} {a n : Int} {nm op : By} {l r xs : Tr} (hb : X.w0.heap[bp]? = some (.cells #[ptr X.P] 57)) : GoE X (g + 1) (nd 9 a n nm op l r xs) (.func (.func 198) #[] #[ptr bp]) := by
 intro w r0 d M m o hs ho hne
 rw [ev_9]
 have h1 := hs.old hb hP (by decide)
 have c1 := z_ (i := 0) h1 rfl
 have HS : Hid (St X.w0 X.P X.fv w r0 d) := hs
 have z1 : bp < w.heap.size := (Array.getElem?_eq_some_iff.1 h1).1
 refine ⟨198, _, rfl, ent198, ?_⟩
 show Calls Tryz.prog 198 #[.map (some M), ptr bp] w _
 generalize hG : EP X w r0 d (gb takeG (fun n => gp (n, none)) r0.s) = G
 have HG : Hid (EP X w r0 d (gb takeG (fun n => gp (n, none)) r0.s) = G) := hG
 clear hs ho hne hb h1 hG
 go_enter Tryz.func198, Tryz.ntmps198
 go_wp2_with (go_at_call 199; fail)
 refine (take_any X _ r0 d (HS.out.below ((Below.refl _ _).alloc (Nat.le_refl _) R0))).mono ?_
 obtain ⟨z, hz⟩ : ∃ z, z = r0.s.inp.headD 0 := ⟨_, rfl⟩
 have HZ : Hid (z = r0.s.inp.headD 0) := hz
 rintro e w1 ⟨iv, he, h1, hf⟩
 rw [← hz] at he
 subst he
 clear hz
 have HF : Hid (St X.w0 X.P X.fv w1 (r0.take1 iv) d ∧ Fz X.P NoE (w.alloc R0) r0 w1 (r0.take1 iv)) := ⟨h1, hf⟩
 have hk := (qE HS.out hf).1
 clear h1 hf
 go_wp2_with (go_at_call 196; fail)
 refine (qd _ _).mono ?_
 rintro e w2 ⟨rfl, hb2⟩
 have hk2 := blk_on hb2 hk
 have a1 := z_ (i := 0) hk2 rfl
 have a2 := z_ (i := 1) hk2 rfl
 have a3 := zb hk2 0
 have a4 := zb hk2 1
 have HF2 : Hid (St X.w0 X.P X.fv w2 (r0.take1 iv) d ∧ Fz X.P NoE (w.alloc R0) r0 w2 (r0.take1 iv)) := ⟨HF.out.1.below hb2, HF.out.2.trans (Fz.below hb2)⟩
 clear hk hb2 hk2
 go_wp2
 obtain ⟨e1, e2⟩ := ep_fin (y := (z, none)) (p := none) (l := 0) (c := 0) HS.out HF2.out.1 HF2.out.2 rfl
 refine bodyPost_ret (res248 Tryz.results198 _ _ w.heap.size _ _ rfl e1) rfl ?_
 rw [← HG.out]
 have : gb takeG (fun n => gp ((n, none) : Vl)) r0.s = .ok ((z, none), (r0.take1 iv).s) := by rw [HZ.out]; rfl
 rw [this]
 exact e2
theorem fv0 (n : Int) (p : Option Addr) (l c : Nat) (W : World) : (Instr.field 248 (vlA n (.slice p l c)) 0).run Tryz.prog W = .ok (.int .i64 n) W := by kernel_rfl
theorem fv1 (n : Int) (p : Option Addr) (l c : Nat) (W : World) : (Instr.field 248 (vlA n (.slice p l c)) 1).run Tryz.prog W = .ok (.slice p l c) W := by kernel_rfl
theorem al_bel (w : World) (A : Obj) : Below w.heap.size w (w.alloc A) := (Below.refl _ _).alloc (Nat.le_refl _) A
theorem OwS.below {w w' : World} {M n : Nat} {ab : List (Nat × Nat)} {o : Own} (h : OwS w M n ab o) (hb : Below w.heap.size w w') : OwS w' M n ab o := by
 obtain ⟨f, h1, h2⟩ := h
 exact ⟨f, h1.kept (hb.block M h1.lt), h2⟩
theorem sub_in {X : Cx} {g : Nat} {t : Tr} {v : Value} {w : World} {r : Rs} {d M n : Nat} {o : Own} (hE : GoE X g t v) (hs : St X.w0 X.P X.fv w r d) (ho : OwS w M n r.ab o) (hne : ∀ out, evE X.fs g d o t r.s ≠ .error (99, out)) : Cal v M (w.alloc R0) (EP X (w.alloc R0) r d (evE X.fs g d o t r.s)) := hE _ r d M n o (hs.below (al_bel w R0)) (ho.below (al_bel w R0)) hne
def Rs.new1 (r : Rs) (b : Nat) (n : Nat) : Rs := { r with ab := r.ab ++ [(b, n)], s := { r.s with hp := r.s.hp ++ [List.replicate n 0] } }
theorem St.newA {w0 : World} {P : Nat} {fv : Value} {w : World} {r : Rs} {d : Nat} (h : St w0 P fv w r d) {n : Nat} (hn : n ≤ 40) : St w0 P fv (w.alloc (.cells (ints (List.replicate n 0)).toArray 2)) (r.new1 w.heap.size n) d ∧ Fz P NoE w r (w.alloc (.cells (ints (List.replicate n 0)).toArray 2)) (r.new1 w.heap.size n) := by
 have hb := al_bel w (.cells (ints (List.replicate n 0)).toArray 2)
 have h' := h.below hb
 have hX := h.newX (Nat.le_refl w.heap.size)
 have hmap : (r.new1 w.heap.size n).ab.map (·.1) = r.ab.map (·.1) ++ [w.heap.size] := by simp [Rs.new1]
 refine ⟨⟨h'.lt, h'.le, h'.kp, h'.pb, h'.inp, h'.out, ?_, ?_, ?_, ?_, ?_, h'.few, h'.told, h'.deep⟩, ⟨hb.os, hb.tape, hb.output, hb.size, fun b h1 _ _ => hb.block b h1, ⟨[(w.heap.size, n)], rfl⟩, ?_⟩⟩
 ·intro i hi hm
  rw [hmap] at hm
  rcases List.mem_append.1 hm with hm | hm
  ·exact h.apart i hi hm
  ·rw [List.mem_singleton] at hm
   subst hm
   exact hX (.inr (.inr hi))
 ·show (r.ab ++ _).length = (r.s.hp ++ _).length
  simp [h.alen]
 ·intro i b k hi
  have hi' : (r.ab ++ [(w.heap.size, n)])[i]? = some (b, k) := hi
  show ∃ l, (r.s.hp ++ [List.replicate n 0])[i]? = some l ∧ _
  rcases Nat.lt_or_ge i r.ab.length with hlt | hge
  ·rw [List.getElem?_append_left hlt] at hi'
   obtain ⟨l, a1, a2, a3, a4⟩ := h'.arr i b k hi'
   exact ⟨l, by rw [List.getElem?_append_left (by rw [← h.alen]; exact hlt)]; exact a1, a2, a3, a4⟩
  ·rw [List.getElem?_append_right hge] at hi'
   have e0 : i - r.ab.length = 0 := by
    rcases Nat.eq_zero_or_pos (i - r.ab.length) with e | e
    ·exact e
    ·rw [List.getElem?_eq_none (by simp; omega)] at hi'; cases hi'
   rw [e0] at hi'
   have e1 : (w.heap.size, n) = (b, k) := by simpa using hi'
   injection e1 with e1 e2
   subst e1
   subst e2
   refine ⟨List.replicate n 0, ?_, by simp, hn, heap_alloc_last _ _⟩
   rw [List.getElem?_append_right (by rw [← h.alen]; exact hge), ← h.alen, e0]
   rfl
 ·intro b hm
  rw [hmap] at hm
  rcases List.mem_append.1 hm with hm | hm
  ·exact h.lo b hm
  ·rw [List.mem_singleton] at hm
   subst hm
   exact h.le
 ·rw [hmap]
  refine List.nodup_append.2 ⟨h.nd, by simp, fun a ha b hb e => ?_⟩
  rw [List.mem_singleton] at hb
  subst hb
  subst e
  exact hX (.inr (.inl ha))
 ·intro b hx hnx
  rcases hx with hx | hx | hx
  ·exact absurd (.inl hx) hnx
  ·rw [hmap] at hx
   rcases List.mem_append.1 hx with hx | hx
   ·exact absurd (.inr (.inl hx)) hnx
   ·rw [List.mem_singleton] at hx
    omega
  ·exact absurd (.inr (.inr hx)) hnx
theorem new_er {n : Int} {s : Sg} (h : n < 0 ∨ 40 < n) : newG n s = .error (4, s.out) := if_pos h
theorem new_ok {n : Int} {s : Sg} (h : 0 ≤ n ∧ n ≤ 40) : newG n s = .ok ((0, some s.hp.length), { s with hp := s.hp ++ [List.replicate n.toNat 0] }) := if_neg (by omega)
theorem go_new {X : Cx} (hP : PbO X) {g bl : Nat} {a n : Int} {nm op : By} {l r xs : Tr} {vl : Value} (hb : X.w0.heap[bl]? = some (.cells #[vl] 245)) (hl : GoE X g l vl) : GoE X (g + 1) (nd 6 a n nm op l r xs) (.func (.func 193) #[] #[ptr bl]) := by
 intro w r0 d M m o hs ho hne
 rw [ev_6] at hne ⊢
 have h1 := hs.old hb hP (by decide)
 have c1 := z_ (i := 0) h1 rfl
 have HS : Hid (St X.w0 X.P X.fv w r0 d) := hs
 have z1 : bl < w.heap.size := (Array.getElem?_eq_some_iff.1 h1).1
 obtain ⟨k, cap, rfl, hen, hc⟩ := sub_in hl hs ho (zW hne).1
 have HC : Hid (Calls Tryz.prog k (#[.map (some M)] ++ cap) (w.alloc R0) (EP X (w.alloc R0) r0 d (evE X.fs g d o l r0.s))) := hc
 have hen' : ∀ (args : Array Value) (w : World), (callFunc k args).run Tryz.prog w = .ok (.enter k args) w := hen
 refine ⟨193, _, rfl, ent193, ?_⟩
 show Calls Tryz.prog 193 #[.map (some M), ptr bl] w _
 generalize hG : EP X w r0 d (gb (evE X.fs g d o l) (fun x => newG x.1) r0.s) = G
 have HG : Hid (EP X w r0 d (gb (evE X.fs g d o l) (fun x => newG x.1) r0.s) = G) := hG
 clear hs ho hne hb h1 hG hc hl hen
 have hf0 := fv0
 go_enter Tryz.func193, Tryz.ntmps193
 go_wp2
 refine HC.out.mono ?_
 rintro e w1 ⟨r1, h1, hf, ⟨y, p, ll, c, hx, rfl, hq⟩ | ⟨k9, out, hx, he9⟩⟩
 rotate_left
 ·obtain ⟨_, older, rfl, _⟩ := id he9
  refine ⟨rfl, ?_⟩
  rw [← HG.out, qR hx]
  exact ep_err h1 hf he9
 have HF : Hid (St X.w0 X.P X.fv w1 r1 d ∧ Fz X.P NoE (w.alloc R0) r0 w1 r1) := ⟨h1, hf⟩
 have HX : Hid (evE X.fs g d o l r0.s = .ok (y, r1.s)) := hx
 clear h1 hf hx hq
 go_wp2_with (go_at_call 194; fail)
 refine (array_any _ _).mono ?_
 rintro e w2 (⟨hn, rfl, rfl⟩ | ⟨hn1, hn2, rfl, hw2⟩)
 ·refine ⟨rfl, ?_⟩
  rw [← HG.out, zR HX.out, new_er hn]
  exact EP.after (fz_in HF.out.2) (ep_end HF.out.1)
 ·obtain ⟨a1, a2⟩ := HF.out.1.newA (n := y.1.toNat) (by omega)
  rw [← hw2] at a1 a2
  have HF2 : Hid (St X.w0 X.P X.fv w2 (r1.new1 w1.heap.size y.1.toNat) d ∧ Fz X.P NoE (w.alloc R0) r0 w2 (r1.new1 w1.heap.size y.1.toNat)) := ⟨a1, HF.out.2.trans a2⟩
  have hk2 := (qE HS.out HF2.out.2).1
  have b1 := z_ (i := 0) hk2 rfl
  have b2 := z_ (i := 1) hk2 rfl
  have b3 := zb hk2 0
  have b4 := zb hk2 1
  have HY : Hid (0 ≤ y.1 ∧ y.1 ≤ 40) := ⟨hn1, hn2⟩
  obtain ⟨m2, hm2⟩ : ∃ m2, m2 = y.1.toNat := ⟨_, rfl⟩
  have HM2 : Hid (m2 = y.1.toNat) := hm2
  rw [← hm2]
  obtain ⟨B2, hB2⟩ : ∃ B2, B2 = w1.heap.size := ⟨_, rfl⟩
  have HB2 : Hid (B2 = w1.heap.size) := hB2
  rw [← hB2]
  clear a1 a2 hw2 hk2 hn1 hn2 hm2 hB2
  go_wp2
  have hal := HF.out.1.alen
  obtain ⟨e1, e2⟩ := ep_fin (y := (0, some r1.s.hp.length)) (p := some ⟨B2, 0, none⟩) (l := m2) (c := m2) HS.out HF2.out.1 HF2.out.2 ⟨w1.heap.size, y.1.toNat, by show (r1.ab ++ _)[r1.s.hp.length]? = _; rw [← hal]; simp, by rw [HM2.out, HB2.out]⟩
  refine bodyPost_ret (res248 Tryz.results193 _ _ w.heap.size _ _ rfl e1) rfl ?_
  rw [← HG.out, zR HX.out, new_ok HY.out]
  exact e2
theorem ev_4 (fs : By → Option Fun) (g d : Nat) (o : Own) (a n : Int) (nm op : By) (l r xs : Tr) : evE fs (g + 1) d o (nd 4 a n nm op l r xs) = gb (evE fs g d o l) fun x => gp (if op = [45] then wrap64 (-x.1) else tr01 (decide (x.1 = 0)), none) := by rw [qN]; simp
theorem truth_t (b : Bool) (w : World) : Calls Tryz.prog 223 #[.bool b] w fun e w' => e = .returned (.int .i64 (tr01 b)) ∧ w' = w := truth_any b w
theorem arr_len {w0 : World} {P : Nat} {fv : Value} {w : World} {r : Rs} {d : Nat} (h : St w0 P fv w r d) {q : Option Nat} {p : Option Addr} {l c : Nat} (hq : QvS r.ab q (.slice p l c)) : (arrOf r.s q).length = l := by
 cases q with
 | none =>
  injection hq with _ h2 _
  rw [h2]
  rfl
 | some i =>
  obtain ⟨b, n, h1, h2⟩ := hq
  injection h2 with _ h3 _
  obtain ⟨li, a1, a2, _, _⟩ := h.arr i b n h1
  show (r.s.hp.getD i []).length = l
  rw [List.getD_eq_getElem?_getD, a1, h3]
  exact a2
theorem arr_few {w0 : World} {P : Nat} {fv : Value} {w : World} {r : Rs} {d : Nat} (h : St w0 P fv w r d) {q : Option Nat} {p : Option Addr} {l c : Nat} (hq : QvS r.ab q (.slice p l c)) : l ≤ 40 := by
 cases q with
 | none =>
  injection hq with _ h2 _
  omega
 | some i =>
  obtain ⟨b, n, h1, h2⟩ := hq
  injection h2 with _ h3 _
  obtain ⟨li, _, _, a3, _⟩ := h.arr i b n h1
  omega
theorem go_len {X : Cx} (hP : PbO X) {g bl : Nat} {a n : Int} {nm op : By} {l r xs : Tr} {vl : Value} (hb : X.w0.heap[bl]? = some (.cells #[vl] 245)) (hl : GoE X g l vl) : GoE X (g + 1) (nd 7 a n nm op l r xs) (.func (.func 195) #[] #[ptr bl]) := by
 intro w r0 d M m o hs ho hne
 rw [ev_7] at hne ⊢
 have h1 := hs.old hb hP (by decide)
 have c1 := z_ (i := 0) h1 rfl
 have HS : Hid (St X.w0 X.P X.fv w r0 d) := hs
 have z1 : bl < w.heap.size := (Array.getElem?_eq_some_iff.1 h1).1
 obtain ⟨k, cap, rfl, hen, hc⟩ := sub_in hl hs ho (zW hne).1
 have HC : Hid (Calls Tryz.prog k (#[.map (some M)] ++ cap) (w.alloc R0) (EP X (w.alloc R0) r0 d (evE X.fs g d o l r0.s))) := hc
 have hen' : ∀ (args : Array Value) (w : World), (callFunc k args).run Tryz.prog w = .ok (.enter k args) w := hen
 refine ⟨195, _, rfl, ent195, ?_⟩
 show Calls Tryz.prog 195 #[.map (some M), ptr bl] w _
 generalize hG : EP X w r0 d (gb (evE X.fs g d o l) (fun x => gb (lenG x.2) fun n => gp (n, none)) r0.s) = G
 have HG : Hid (EP X w r0 d (gb (evE X.fs g d o l) (fun x => gb (lenG x.2) fun n => gp (n, none)) r0.s) = G) := hG
 clear hs ho hne hb h1 hG hc hl hen
 have hf0 := fv0
 have hf1 := fv1
 go_enter Tryz.func195, Tryz.ntmps195
 go_wp2
 refine HC.out.mono ?_
 rintro e w1 ⟨r1, h1, hf, ⟨y, p, ll, c, hx, rfl, hq⟩ | ⟨k9, out, hx, he9⟩⟩
 rotate_left
 ·obtain ⟨_, older, rfl, _⟩ := id he9
  refine ⟨rfl, ?_⟩
  rw [← HG.out, qR hx]
  exact ep_err h1 hf he9
 have HF : Hid (St X.w0 X.P X.fv w1 r1 d ∧ Fz X.P NoE (w.alloc R0) r0 w1 r1) := ⟨h1, hf⟩
 have HX : Hid (evE X.fs g d o l r0.s = .ok (y, r1.s)) := hx
 have HQ : Hid (QvS r1.ab y.2 (.slice p ll c)) := hq
 have hk := (qE HS.out hf).1
 clear h1 hf hx hq
 have hlen := arr_len HF.out.1 HQ.out
 have h40 := arr_few HF.out.1 HQ.out
 have HL : Hid ((arrOf r1.s y.2).length = ll) := hlen
 clear hlen
 go_wp2_with (go_at_call 196; fail)
 refine (qd _ _).mono ?_
 rintro e w2 ⟨rfl, hb2⟩
 have hk2 := blk_on hb2 hk
 have b1 := z_ (i := 0) hk2 rfl
 have b2 := z_ (i := 1) hk2 rfl
 have b3 := zb hk2 0
 have b4 := zb hk2 1
 have HF2 : Hid (St X.w0 X.P X.fv w2 r1 d ∧ Fz X.P NoE (w.alloc R0) r0 w2 r1) := ⟨HF.out.1.below hb2, HF.out.2.trans (Fz.below hb2)⟩
 clear hk hb2 hk2
 go_wp2
 obtain ⟨e1, e2⟩ := ep_fin (y := ((ll : Int), none)) (p := none) (l := 0) (c := 0) HS.out HF2.out.1 HF2.out.2 rfl
 refine bodyPost_ret (res248 Tryz.results195 _ _ w.heap.size _ _ rfl e1) rfl ?_
 rw [← HG.out, zR HX.out]
 have : gb (lenG y.2) (fun n => gp ((n, none) : Vl)) r1.s = .ok (((ll : Int), none), r1.s) := by
  show Except.ok ((((arrOf r1.s y.2).length : Int), none), r1.s) = _
  rw [HL.out]
 rw [this]
 exact e2
theorem go_neg {X : Cx} (hP : PbO X) {g bl : Nat} {a n : Int} {nm op : By} {l r xs : Tr} {vl : Value} (hop : op = [45]) (hb : X.w0.heap[bl]? = some (.cells #[vl] 245)) (hl : GoE X g l vl) : GoE X (g + 1) (nd 4 a n nm op l r xs) (.func (.func 227) #[] #[ptr bl]) := by
 intro w r0 d M m o hs ho hne
 rw [ev_4] at hne ⊢
 have h1 := hs.old hb hP (by decide)
 have c1 := z_ (i := 0) h1 rfl
 have HS : Hid (St X.w0 X.P X.fv w r0 d) := hs
 have z1 : bl < w.heap.size := (Array.getElem?_eq_some_iff.1 h1).1
 obtain ⟨k, cap, rfl, hen, hc⟩ := sub_in hl hs ho (zW hne).1
 have HC : Hid (Calls Tryz.prog k (#[.map (some M)] ++ cap) (w.alloc R0) (EP X (w.alloc R0) r0 d (evE X.fs g d o l r0.s))) := hc
 have hen' : ∀ (args : Array Value) (w : World), (callFunc k args).run Tryz.prog w = .ok (.enter k args) w := hen
 refine ⟨227, _, rfl, ent227, ?_⟩
 show Calls Tryz.prog 227 #[.map (some M), ptr bl] w _
 generalize hG : EP X w r0 d (gb (evE X.fs g d o l) (fun x => gp (if op = [45] then wrap64 (-x.1) else tr01 (decide (x.1 = 0)), none)) r0.s) = G
 have HG : Hid (EP X w r0 d (gb (evE X.fs g d o l) (fun x => gp (if op = [45] then wrap64 (-x.1) else tr01 (decide (x.1 = 0)), none)) r0.s) = G) := hG
 clear hs ho hne hb h1 hG hc hl hen
 have hf0 := fv0
 have hf1 := fv1
 go_enter Tryz.func227, Tryz.ntmps227
 go_wp2
 refine HC.out.mono ?_
 rintro e w1 ⟨r1, h1, hf, ⟨y, p, ll, c, hx, rfl, hq⟩ | ⟨k9, out, hx, he9⟩⟩
 rotate_left
 ·obtain ⟨_, older, rfl, _⟩ := id he9
  refine ⟨rfl, ?_⟩
  rw [← HG.out, qR hx]
  exact ep_err h1 hf he9
 have HF : Hid (St X.w0 X.P X.fv w1 r1 d ∧ Fz X.P NoE (w.alloc R0) r0 w1 r1) := ⟨h1, hf⟩
 have HX : Hid (evE X.fs g d o l r0.s = .ok (y, r1.s)) := hx
 have HQ : Hid (QvS r1.ab y.2 (.slice p ll c)) := hq
 have hk := (qE HS.out hf).1
 clear h1 hf hx hq
 go_wp2_with (go_at_call 196; fail)
 refine (qd _ _).mono ?_
 rintro e w2 ⟨rfl, hb2⟩
 have hk2 := blk_on hb2 hk
 have b1 := z_ (i := 0) hk2 rfl
 have b2 := z_ (i := 1) hk2 rfl
 have b3 := zb hk2 0
 have b4 := zb hk2 1
 have HF2 : Hid (St X.w0 X.P X.fv w2 r1 d ∧ Fz X.P NoE (w.alloc R0) r0 w2 r1) := ⟨HF.out.1.below hb2, HF.out.2.trans (Fz.below hb2)⟩
 clear hk hb2 hk2
 go_wp2
 obtain ⟨e1, e2⟩ := ep_fin (y := (wrap64 (-y.1), none)) (p := none) (l := 0) (c := 0) HS.out HF2.out.1 HF2.out.2 rfl
 refine bodyPost_ret (res248 Tryz.results227 _ _ w.heap.size _ _ rfl e1) rfl ?_
 rw [← HG.out, zR HX.out]
 rw [if_pos hop]
 exact e2
theorem go_not {X : Cx} (hP : PbO X) {g bl : Nat} {a n : Int} {nm op : By} {l r xs : Tr} {vl : Value} (hop : op ≠ [45]) (hb : X.w0.heap[bl]? = some (.cells #[vl] 245)) (hl : GoE X g l vl) : GoE X (g + 1) (nd 4 a n nm op l r xs) (.func (.func 228) #[] #[ptr bl]) := by
 intro w r0 d M m o hs ho hne
 rw [ev_4] at hne ⊢
 have h1 := hs.old hb hP (by decide)
 have c1 := z_ (i := 0) h1 rfl
 have HS : Hid (St X.w0 X.P X.fv w r0 d) := hs
 have z1 : bl < w.heap.size := (Array.getElem?_eq_some_iff.1 h1).1
 obtain ⟨k, cap, rfl, hen, hc⟩ := sub_in hl hs ho (zW hne).1
 have HC : Hid (Calls Tryz.prog k (#[.map (some M)] ++ cap) (w.alloc R0) (EP X (w.alloc R0) r0 d (evE X.fs g d o l r0.s))) := hc
 have hen' : ∀ (args : Array Value) (w : World), (callFunc k args).run Tryz.prog w = .ok (.enter k args) w := hen
 refine ⟨228, _, rfl, ent228, ?_⟩
 show Calls Tryz.prog 228 #[.map (some M), ptr bl] w _
 generalize hG : EP X w r0 d (gb (evE X.fs g d o l) (fun x => gp (if op = [45] then wrap64 (-x.1) else tr01 (decide (x.1 = 0)), none)) r0.s) = G
 have HG : Hid (EP X w r0 d (gb (evE X.fs g d o l) (fun x => gp (if op = [45] then wrap64 (-x.1) else tr01 (decide (x.1 = 0)), none)) r0.s) = G) := hG
 clear hs ho hne hb h1 hG hc hl hen
 have hf0 := fv0
 have hf1 := fv1
 go_enter Tryz.func228, Tryz.ntmps228
 go_wp2
 refine HC.out.mono ?_
 rintro e w1 ⟨r1, h1, hf, ⟨y, p, ll, c, hx, rfl, hq⟩ | ⟨k9, out, hx, he9⟩⟩
 rotate_left
 ·obtain ⟨_, older, rfl, _⟩ := id he9
  refine ⟨rfl, ?_⟩
  rw [← HG.out, qR hx]
  exact ep_err h1 hf he9
 have HF : Hid (St X.w0 X.P X.fv w1 r1 d ∧ Fz X.P NoE (w.alloc R0) r0 w1 r1) := ⟨h1, hf⟩
 have HX : Hid (evE X.fs g d o l r0.s = .ok (y, r1.s)) := hx
 have HQ : Hid (QvS r1.ab y.2 (.slice p ll c)) := hq
 have hk := (qE HS.out hf).1
 clear h1 hf hx hq
 go_wp2_with (go_at_call 223; fail)
 refine (truth_t _ _).mono ?_
 rintro e w' ⟨rfl, rfl⟩
 go_wp2_with (go_at_call 196; fail)
 refine (qd _ _).mono ?_
 rintro e w2 ⟨rfl, hb2⟩
 have hk2 := blk_on hb2 hk
 have b1 := z_ (i := 0) hk2 rfl
 have b2 := z_ (i := 1) hk2 rfl
 have b3 := zb hk2 0
 have b4 := zb hk2 1
 have HF2 : Hid (St X.w0 X.P X.fv w2 r1 d ∧ Fz X.P NoE (w.alloc R0) r0 w2 r1) := ⟨HF.out.1.below hb2, HF.out.2.trans (Fz.below hb2)⟩
 clear hk hb2 hk2
 go_wp2
 obtain ⟨e1, e2⟩ := ep_fin (y := (tr01 (y.1 == 0), none)) (p := none) (l := 0) (c := 0) HS.out HF2.out.1 HF2.out.2 rfl
 refine bodyPost_ret (res248 Tryz.results228 _ _ w.heap.size _ _ rfl e1) rfl ?_
 rw [← HG.out, zR HX.out]
 rw [if_neg hop, show decide (y.1 = 0) = (y.1 == 0) by simp [Bool.beq_eq_decide_eq]]
 exact e2
end Go.Proofs.YtnfhpdbbfejioaaGreatDoor
