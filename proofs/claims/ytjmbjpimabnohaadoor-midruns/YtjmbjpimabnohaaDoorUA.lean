/- The document's run of steps: what lies in memory; ends, spend, enter, walked. -/
import Derived.Test.YtjmbjpimabnohaaDoorQL
import Derived.Test.YtjmbjpimabnohaaDoorSF
namespace Go.Proofs.YtjmbjpimabnohaaDoor.Mid
set_option linter.unusedVariables false
set_option linter.unusedSimpArgs false
open Go Go.RowKit

/-- Arrays (blocks, lengths), the row of arrays, what was not asked for yet, what was told; what is left. -/
structure Rr where
  ab : List (Nat × Nat)
  av : Value
  iv : Value
  ov : Value
  s : Sg
def Xw (P : Nat) (r : Rr) (b : Nat) : Prop := b = P ∨ b ∈ r.ab.map (·.1) ∨ r.ov.ownBlock = some b ∨ r.av.ownBlock = some b
/-- The row of arrays: none at 0, then each one. -/
def arrsC (ab : List (Nat × Nat)) : List Value := .slice none 0 0 :: ab.map (fun p => .slice (some ⟨p.1, 0, none⟩) p.2 p.2)
abbrev wdC (r : Rr) (d : Nat) (way : Int) : Array Value := #[r.av, r.iv, .int .i64 r.s.fuel, .int .i64 (d : Int), .int .i64 way, .int .i64 0, r.ov]
structure Wm (w0 : World) (P : Nat) (w : World) (r : Rr) (d : Nat) (way : Int) : Prop where
  lo0 : w0.heap.size ≤ P
  le : w0.heap.size ≤ w.heap.size
  kp : ∀ b, b < w0.heap.size → w.heap[b]? = w0.heap[b]?
  pb : w.heap[P]? = some (.cells (wdC r d way) 87)
  inp : InW w0 r.iv r.s.inp
  out : w.ownsRow w0.heap.size 2 1 r.ov r.s.out.length (ints r.s.out)
  arrs : w.ownsRow w0.heap.size 23 1 r.av (r.ab.length + 1) (arrsC r.ab)
  apart : ∀ i, r.ov.ownBlock = some i → i ∉ r.ab.map (·.1)
  alen : r.ab.length = r.s.hp.length
  arr : ∀ (i b n : Nat), r.ab[i]? = some (b, n) → ∃ l, r.s.hp[i]? = some l ∧ l.length = n ∧ n ≤ 40 ∧ w.heap[b]? = some (.cells (ints l).toArray 2)
  lo : ∀ b ∈ r.ab.map (·.1), w0.heap.size ≤ b
  nd : (r.ab.map (·.1)).Nodup
  few : -9223372036854775808 ≤ r.s.fuel ∧ r.s.fuel ≤ 10000000
  told : r.s.out.length ≤ 200
  deep : d ≤ 40
/-- What a part of the way leaves as it was. -/
structure Wz (P : Nat) (E : Nat → Prop) (w : World) (r : Rr) (w' : World) (r' : Rr) : Prop where
  os : w'.os = w.os
  tape : w'.tape = w.tape
  output : w'.output = w.output
  size : w.heap.size ≤ w'.heap.size
  blk : ∀ b, b < w.heap.size → ¬ Xw P r b → ¬ E b → w'.heap[b]? = w.heap[b]?
  pre : r.ab <+: r'.ab
  new : ∀ b, Xw P r' b → ¬ Xw P r b → w.heap.size ≤ b
theorem Wz.refl (P : Nat) (E : Nat → Prop) (w : World) (r : Rr) : Wz P E w r w r := ⟨rfl, rfl, rfl, Nat.le_refl _, fun _ _ _ _ => rfl, List.prefix_rfl, fun b h1 h2 => absurd h1 h2⟩
theorem Wz.trans {P : Nat} {E : Nat → Prop} {w1 w2 w3 : World} {r1 r2 r3 : Rr} (h : Wz P E w1 r1 w2 r2) (g : Wz P E w2 r2 w3 r3) : Wz P E w1 r1 w3 r3 := by
  refine ⟨g.os.trans h.os, g.tape.trans h.tape, g.output.trans h.output, Nat.le_trans h.size g.size, fun b hb hx he => ?_, h.pre.trans g.pre, fun b h3 h1 => ?_⟩
  · rw [g.blk b (Nat.lt_of_lt_of_le hb h.size) (fun h2 => by have := h.new b h2 hx; omega) he, h.blk b hb hx he]
  · by_cases h2 : Xw P r2 b
    · exact h.new b h2 h1
    · exact Nat.le_trans h.size (g.new b h3 h2)
theorem Wz.wide {P : Nat} {E E' : Nat → Prop} {w w' : World} {r r' : Rr} (h : Wz P E w r w' r') (hE : ∀ b, E b → E' b) : Wz P E' w r w' r' := ⟨h.os, h.tape, h.output, h.size, fun b hb hx he => h.blk b hb hx (fun e => he (hE b e)), h.pre, h.new⟩
theorem Wz.no {P : Nat} {E : Nat → Prop} {w w' : World} {r r' : Rr} (h : Wz P NoE w r w' r') : Wz P E w r w' r' := h.wide (fun _ h => h.elim)
theorem Wz.below {P : Nat} {E : Nat → Prop} {w w' : World} {r : Rr} (h : Below w.heap.size w w') : Wz P E w r w' r := ⟨h.os, h.tape, h.output, h.size, fun b hb _ _ => h.block b hb, List.prefix_rfl, fun b h1 h2 => absurd h1 h2⟩
theorem Wz.drop {P : Nat} {E : Nat → Prop} {w w' : World} {r r' : Rr} (h : Wz P E w r w' r') (hE : ∀ b, E b → w.heap.size ≤ b) : Wz P NoE w r w' r' :=
  ⟨h.os, h.tape, h.output, h.size, fun b hb hx _ => h.blk b hb hx (fun e => by have := hE b e; omega), h.pre, h.new⟩
theorem Wm.ltP {w0 : World} {P : Nat} {w : World} {r : Rr} {d : Nat} {way : Int} (h : Wm w0 P w r d way) : P < w.heap.size := (Array.getElem?_eq_some_iff.1 h.pb).1
theorem Wm.below {w0 : World} {P : Nat} {w w' : World} {r : Rr} {d : Nat} {way : Int} (h : Wm w0 P w r d way) (hb : Below w.heap.size w w') : Wm w0 P w' r d way := by
  refine ⟨h.lo0, Nat.le_trans h.le hb.size, fun b h1 => ?_, ?_, h.inp, own_at h.out (fun i hi => hb.block i (own_lt h.out i hi)), own_at h.arrs (fun i hi => hb.block i (own_lt h.arrs i hi)), h.apart, h.alen, fun i b n hi => ?_, h.lo, h.nd, h.few, h.told, h.deep⟩
  · rw [hb.block b (Nat.lt_of_lt_of_le h1 h.le)]; exact h.kp b h1
  · rw [hb.block P h.ltP]; exact h.pb
  · obtain ⟨l, a1, a2, a3, a4⟩ := h.arr i b n hi
    exact ⟨l, a1, a2, a3, by rw [hb.block b (Array.getElem?_eq_some_iff.1 a4).1]; exact a4⟩
theorem ty_ne {w : World} {b : Nat} {cs ds : Array Value} {t u : TypeId} (h1 : w.heap[b]? = some (.cells cs t)) (h2 : w.heap[b]? = some (.cells ds u)) : t = u := by
  rw [h1] at h2
  injection h2 with h2
  injection h2 with _ h2
theorem own_ty {w : World} {B e z n i : Nat} {v : Value} {l : List Value} (h : w.ownsRow B e z v n l) (hi : v.ownBlock = some i) : ∃ cs, w.heap[i]? = some (.cells cs e) := by
  rcases h.2 with ⟨hv, _⟩ | ⟨g, cap, cur, hv, hb, hg, _⟩
  · rw [hv] at hi; cases hi
  · rw [hv] at hi
    injection hi with hi
    subst hi
    exact ⟨cur, hg⟩
theorem Wm.neP {w0 : World} {P : Nat} {w : World} {r : Rr} {d : Nat} {way : Int} (h : Wm w0 P w r d way) {b : Nat} {cs : Array Value} {t : TypeId} (hb : w.heap[b]? = some (.cells cs t)) (ht : t ≠ 87) : b ≠ P := fun e => by
  subst e
  exact ht (ty_ne hb h.pb)
/-- A cell of the world's block is written. -/
theorem Wm.setP {w0 : World} {P : Nat} {w : World} {r : Rr} {d : Nat} {way : Int} (h : Wm w0 P w r d way) {i : Nat} {v : Value} (r' : Rr) (d' : Nat) (way' : Int) (hpb : (wdC r d way).setIfInBounds i v = wdC r' d' way')
    (hab : r'.ab = r.ab) (hav : r'.av = r.av) (hhp : r'.s.hp = r.s.hp) (hov : r'.ov = r.ov) (hout : r'.s.out = r.s.out) (hin : InW w0 r'.iv r'.s.inp) (hf : -9223372036854775808 ≤ r'.s.fuel ∧ r'.s.fuel ≤ 10000000) (hd : d' ≤ 40) :
    Wm w0 P (w.setCell ⟨P, i, none⟩ v) r' d' way' ∧ Wz P NoE w r (w.setCell ⟨P, i, none⟩ v) r' := by
  have hoth : ∀ b, b ≠ P → (w.setCell ⟨P, i, none⟩ v).heap[b]? = w.heap[b]? := fun b hb => heap_setCell_other _ _ _ _ hb
  have hsz : (w.setCell ⟨P, i, none⟩ v).heap.size = w.heap.size := by simp
  have hX : ∀ b, Xw P r' b ↔ Xw P r b := fun b => by unfold Xw; rw [hab, hov, hav]
  refine ⟨⟨h.lo0, by rw [hsz]; exact h.le, fun b h1 => by rw [hoth b (by have := h.lo0; omega)]; exact h.kp b h1, ?_, hin, ?_, ?_, ?_, by rw [hab, hhp]; exact h.alen, ?_, by rw [hab]; exact h.lo, by rw [hab]; exact h.nd, hf, by rw [hout]; exact h.told, hd⟩, ⟨rfl, rfl, rfl, by rw [hsz]; exact Nat.le_refl _, fun b _ hx _ => hoth b (fun e => hx (.inl e)), by rw [hab]; exact List.prefix_rfl, fun b h1 h2 => absurd ((hX b).1 h1) h2⟩⟩
  · rw [heap_setCell_same _ _ _ _ _ _ h.pb, hpb]
  · rw [hov, hout]
    refine own_at h.out (fun k hk => hoth k ?_)
    obtain ⟨cs, hc⟩ := own_ty h.out hk
    exact h.neP hc (by decide)
  · rw [hav, hab]
    refine own_at h.arrs (fun k hk => hoth k ?_)
    obtain ⟨cs, hc⟩ := own_ty h.arrs hk
    exact h.neP hc (by decide)
  · rw [hov, hab]; exact h.apart
  · intro k b n hk
    rw [hab] at hk
    obtain ⟨l, a1, a2, a3, a4⟩ := h.arr k b n hk
    refine ⟨l, by rw [hhp]; exact a1, a2, a3, ?_⟩
    rw [hoth b (h.neP a4 (by decide))]
    exact a4
def Rr.fuel1 (r : Rr) : Rr := { r with s := { r.s with fuel := r.s.fuel - 1 } }
/-- Where steps are gone through, by the document. -/
structure Qx where
  w0 : World
  P : Nat
/-- It ends in a way. -/
def EnP (X : Qx) (w : World) (r : Rr) (d : Nat) (k : Int) (e : Ending) (w' : World) : Prop := e = .returned (.tuple #[]) ∧ Wm X.w0 X.P w' r d k ∧ Wz X.P NoE w r w' r
set_option maxRecDepth 100000 in
set_option maxHeartbeats 1000000 in
theorem ends_any (X : Qx) (w : World) (r : Rr) (d : Nat) (way k : Int) (h : Wm X.w0 X.P w r d way) : Calls Tryd.prog 59 #[ptr X.P, .int .i64 k] w (EnP X w r d k) := by
  have c4 := cell_at (i := 4) h.pb rfl
  have f4 := row_free h.pb 4
  have c4' : w.cell? ⟨X.P, 4, none⟩ = some (.int .i64 way) := c4
  obtain ⟨a1, a2⟩ := h.setP (i := 4) (v := .int .i64 k) r d k rfl rfl rfl rfl rfl rfl h.inp h.few h.deep
  have HE : Hid (EnP X w r d k (.returned (.tuple #[])) (w.setCell ⟨X.P, 4, none⟩ (.int .i64 k))) := ⟨rfl, a1, a2⟩
  generalize hG : EnP X w r d k = G
  rw [hG] at HE
  clear h a1 a2 c4 hG
  go_enter Tryd.func59, Tryd.ntmps59
  go_wp2
  go_end0
  exact HE.out
/-- What spending leaves. -/
def SpP (X : Qx) (w : World) (r : Rr) (d : Nat) (e : Ending) (w' : World) : Prop :=
  (r.s.fuel ≤ 0 ∧ e = .returned (.bool false) ∧ Wm X.w0 X.P w' r d 6 ∧ Wz X.P NoE w r w' r) ∨ (¬ r.s.fuel ≤ 0 ∧ e = .returned (.bool true) ∧ Wm X.w0 X.P w' r.fuel1 d 0 ∧ Wz X.P NoE w r w' r.fuel1)
set_option maxRecDepth 100000 in
set_option maxHeartbeats 1000000 in
theorem spend_any (X : Qx) (w : World) (r : Rr) (d : Nat) (h : Wm X.w0 X.P w r d 0) : Calls Tryd.prog 47 #[ptr X.P] w (SpP X w r d) := by
  have c2 : w.cell? ⟨X.P, 2, none⟩ = some (.int .i64 r.s.fuel) := cell_at (i := 2) h.pb rfl
  have f2 := row_free h.pb 2
  have HEn : Hid (Calls Tryd.prog 59 #[ptr X.P, .int .i64 6] w (EnP X w r d 6)) := ends_any X w r d 0 6 h
  have hf := h.few
  have HH : Hid (Wm X.w0 X.P w r d 0) := h
  obtain ⟨fu, hfu⟩ : ∃ fu, r.s.fuel = fu := ⟨_, rfl⟩
  have HF : Hid (r.s.fuel = fu) := hfu
  rw [hfu] at c2 hf
  generalize hG : SpP X w r d = G
  have HG : Hid (SpP X w r d = G) := hG
  clear h hfu hG
  by_cases h0 : fu ≤ 0
  · go_enter Tryd.func47, Tryd.ntmps47
    go_wp2_with (go_at_call 59; fail)
    refine HEn.out.mono ?_
    rintro e w1 ⟨rfl, h1, h2⟩
    have HX : Hid (G (.returned (.bool false)) w1) := by show G _ _; rw [← HG.out]; exact .inl ⟨by rw [HF.out]; exact h0, rfl, h1, h2⟩
    clear h1 h2
    go_wp2
    exact HX.out
  · have e1 : r.fuel1.s.fuel = fu - 1 := by show r.s.fuel - 1 = fu - 1; rw [HF.out]
    obtain ⟨a1, a2⟩ := HH.out.setP (i := 2) (v := .int .i64 (fu - 1)) r.fuel1 d 0 (by show _ = #[_, _, Value.int .i64 r.fuel1.s.fuel, _, _, _, _]; rw [e1]; rfl) rfl rfl rfl rfl rfl HH.out.inp (by rw [e1]; omega) HH.out.deep
    have HX : Hid (G (.returned (.bool true)) (w.setCell ⟨X.P, 2, none⟩ (.int .i64 (fu - 1)))) := by show G _ _; rw [← HG.out]; exact .inr ⟨by rw [HF.out]; omega, rfl, a1, a2⟩
    clear a1 a2 e1
    go_enter Tryd.func47, Tryd.ntmps47
    go_wp2_with (go_at_call 59; fail)
    exact HX.out
/-- What entering leaves. -/
def NtP (X : Qx) (w : World) (r : Rr) (d : Nat) (e : Ending) (w' : World) : Prop :=
  (40 ≤ d ∧ e = .returned (.bool false) ∧ Wm X.w0 X.P w' r d 5 ∧ Wz X.P NoE w r w' r) ∨ (d < 40 ∧ e = .returned (.bool true) ∧ Wm X.w0 X.P w' r (d + 1) 0 ∧ Wz X.P NoE w r w' r)
set_option maxRecDepth 100000 in
set_option maxHeartbeats 1000000 in
theorem enter_any (X : Qx) (w : World) (r : Rr) (d : Nat) (h : Wm X.w0 X.P w r d 0) : Calls Tryd.prog 45 #[ptr X.P] w (NtP X w r d) := by
  have c3 : w.cell? ⟨X.P, 3, none⟩ = some (.int .i64 (d : Int)) := cell_at (i := 3) h.pb rfl
  have f3 := row_free h.pb 3
  have HEn : Hid (Calls Tryd.prog 59 #[ptr X.P, .int .i64 5] w (EnP X w r d 5)) := ends_any X w r d 0 5 h
  have hd := h.deep
  have HH : Hid (Wm X.w0 X.P w r d 0) := h
  generalize hG : NtP X w r d = G
  have HG : Hid (NtP X w r d = G) := hG
  clear h hG
  by_cases h0 : 40 ≤ d
  · go_enter Tryd.func45, Tryd.ntmps45
    go_wp2_with (go_at_call 59; fail)
    refine HEn.out.mono ?_
    rintro e w1 ⟨rfl, h1, h2⟩
    have HX : Hid (G (.returned (.bool false)) w1) := by show G _ _; rw [← HG.out]; exact .inl ⟨h0, rfl, h1, h2⟩
    clear h1 h2
    go_wp2
    exact HX.out
  · obtain ⟨a1, a2⟩ := HH.out.setP (i := 3) (v := .int .i64 ((d : Int) + 1)) r (d + 1) 0 (by simp [wdC]) rfl rfl rfl rfl rfl HH.out.inp HH.out.few (by omega)
    have HX : Hid (G (.returned (.bool true)) (w.setCell ⟨X.P, 3, none⟩ (.int .i64 ((d : Int) + 1)))) := by show G _ _; rw [← HG.out]; exact .inr ⟨by omega, rfl, a1, a2⟩
    clear a1 a2
    go_enter Tryd.func45, Tryd.ntmps45
    go_wp2_with (go_at_call 59; fail)
    exact HX.out
end Go.Proofs.YtjmbjpimabnohaaDoor.Mid
