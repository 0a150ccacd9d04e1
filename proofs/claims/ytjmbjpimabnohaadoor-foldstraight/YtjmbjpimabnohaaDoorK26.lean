/- GC -/
import Derived.Test.YtjmbjpimabnohaaDoorK25
namespace Go.Proofs.YtjmbjpimabnohaaDoor.Mid
set_option linter.unusedVariables false
set_option linter.unusedSimpArgs false
open Go Go.RowKit
theorem Ko.wide {Z Z' : List Nat} {w w' : World} (h : Ko Z w w') (hz : ∀ b ∈ Z, b ∈ Z') : Ko Z' w w' := ⟨h.os, h.tape, h.output, h.size, fun b hb hn => h.blk b hb (fun e => hn (hz b e))⟩
structure Rw (w0 : World) (X : Fx) (g o bb : Nat) (cs : Array Value) (cd dst : Int) (env : Int → Int) (d : Int) (m : Nat) (S : Fs) (w : World) : Prop where
  fc : FcM w X S
  inv : Ink S env d m
  row : ∃ cur : Array Value, w.heap[g]? = some (.cells cur 44) ∧ cur.size = cs.size ∧ (∀ p, (p < o ∨ o + 10 ≤ p) → cur[p]? = cs[p]?) ∧ cur[o]? = some (.int .i64 cd) ∧ cur[o + 1]? = some (.int .i64 dst)
  bx : w.heap[bb]? = some (.cells #[ptr X.kb] 132)
  ko : Ko (g :: X.Z) w0 w
theorem TyE.on2 {w w' : World} {X : Fx} {nt g : Nat} (h : TyE w X nt) (hg : ∀ tb tc, X.tv = .slice (some ⟨tb, 0, none⟩) nt tc → tb ≠ g) (hk : Ko (g :: X.Z) w w') : TyE w' X nt := by
  obtain ⟨tb, tc, h1, h2, h3⟩ := h
  refine ⟨tb, tc, h1, h2, fun p hp => ?_⟩
  have h4 := h3 p hp
  rw [← h4]
  exact World.cell?_of_block (a := ⟨tb, p, none⟩) (hk.blk tb (cell_lt h4) (by
    intro e
    rcases List.mem_cons.1 e with e | e
    · exact hg tb tc h1 e
    · exact h2 e))
theorem FfE.on {w w' : World} {Z : List Nat} (h : FfE w) (h2 : 2 ∉ Z) (hk : Ko Z w w') : FfE w' := fun j hj => by
  have kp : ∀ (o : Nat) (v : Value), w.cell? ⟨2, o, none⟩ = some v → w'.cell? ⟨2, o, none⟩ = some v := fun o v hv => hk.cell h2 hv
  obtain ⟨a, b, c, d, e⟩ := h j hj
  exact ⟨kp _ _ a, kp _ _ b, kp _ _ c, kp _ _ d, kp _ _ e⟩
def StP (w : World) (X : Fx) (g o : Nat) (cs : Array Value) (env : Int → Int) (m : Nat) (dst n : Int) (e : Ending) (w' : World) : Prop :=
  ∃ (b : Bool) (S' : Fs) (cur : Array Value), e = .returned (.bool b) ∧ FcM w' X S' ∧ Ink S' (up env dst n) (dst + 1) m ∧ (b = true → env dst = n) ∧ w'.heap[g]? = some (.cells cur 44) ∧ cur.size = cs.size ∧ (∀ p, (p < o ∨ o + 10 ≤ p) → cur[p]? = cs[p]?) ∧ (∀ i, i < 10 → cur[o + i]? = (sC (cn dst n))[i]?) ∧ Ko (g :: X.Z) w w'
theorem Ink.congr {S : Fs} {env env' : Int → Int} {d : Int} {m : Nat} (h : Ink S env d m) (he : env' = env) : Ink S env' d m := by rw [he]; exact h
theorem up_same {env : Int → Int} {p n : Int} (h : env p = n) : up env p n = env := by
  funext q
  unfold up
  split
  · rename_i e; rw [e, h]
  · rfl
theorem lay_row {w : World} {g o : Nat} {cur : Array Value} (h : w.heap[g]? = some (.cells cur 44)) (hs : o + 10 ≤ cur.size) (t : Ms) : ∃ cur' : Array Value, (w.setCells g o (sC t)).heap[g]? = some (.cells cur' 44) ∧ cur'.size = cur.size ∧ (∀ i, i < 10 → cur'[o + i]? = (sC t)[i]?) ∧ (∀ p, (p < o ∨ o + 10 ≤ p) → cur'[p]? = cur[p]?) ∧ Ko [g] w (w.setCells g o (sC t)) :=
  sets_row g (sC t) o w cur 44 h hs
theorem FcM.on {w w' : World} {X : Fx} {S : Fs} {g : Nat} (h : FcM w X S) (hg : g ∉ X.Z) (hk : Ko [g] w w') : FcM w' X S := by
  have ho : ∀ b, b ∈ X.Z → b < w.heap.size → w'.heap[b]? = w.heap[b]? := fun b hb hl => hk.blk b hl (by
    intro e
    have e2 : b = g := by simpa using e
    exact hg (by rw [← e2]; exact hb))
  have l1 := (Array.getElem?_eq_some_iff.1 h.blk).1
  exact ⟨by rw [ho _ (by simp [Fx.Z]) l1]; exact h.blk, h.holds.kept (ho _ (by simp [Fx.Z]) h.holds.lt), h.homes.kept (ho _ (by simp [Fx.Z]) h.homes.lt), h.nums.kept (ho _ (by simp [Fx.Z]) h.nums.lt), h.vals.kept (ho _ (by simp [Fx.Z]) h.vals.lt), h.nd, h.few⟩
structure Rw4 (w : World) (X : Fx) (g o bb : Nat) (cs : Array Value) (dst : Nat) (n v v1 : Int) (env : Int → Int) (m : Nat) (S2 : Fs) (w4 : World) : Prop where
  fc : FcM w4 X S2
  inv : Ink S2 env ((dst : Int) + 1) m
  row : ∃ cur : Array Value, w4.heap[g]? = some (.cells cur 44) ∧ cur.size = cs.size ∧ (∀ p, (p < o ∨ o + 10 ≤ p) → cur[p]? = cs[p]?) ∧ (∀ i, i < 10 → cur[o + i]? = (sC (cn dst n))[i]?)
  bx : w4.heap[bb]? = some (.cells #[ptr X.kb] 132)
  ko : Ko (g :: X.Z) w w4
  ho : S2.hold (dst : Int) = some v1
  n1 : S2.num v1 = some (env (dst : Int))
  nv : S2.num v = some n
  vr : 1 ≤ v ∧ v ≤ (S2.cnt : Int) ∧ 1 ≤ v1 ∧ v1 ≤ (S2.cnt : Int)
  hm : ∀ x, S2.home x ≠ some (dst : Int)
theorem nu_num {S S1 : Fs} {env : Int → Int} {d : Int} {m : Nat} {n v : Int} (h : Ink S env d m) (hr : NuR S n v S1) {x y : Int} (hx : S.num x = some y) : S1.num x = some y := by
  rcases hr with ⟨h1, rfl⟩ | ⟨h1, rfl, rfl⟩
  · exact hx
  · show (if x = _ then _ else _) = _
    rw [if_neg (fun e => by
      rw [e, h.num _ (by omega)] at hx
      cases hx)]
    exact hx
theorem va_num {S S1 : Fs} {env : Int → Int} {d : Int} {m : Nat} {p v : Int} (h : Ink S env d m) (hr : VaR S p v S1) {x y : Int} (hx : S.num x = some y) : S1.num x = some y := by
  rcases hr with ⟨h1, rfl⟩ | ⟨h1, S0, h2, rfl⟩
  · exact hx
  · exact nu_num h h2 hx
theorem nu_cnt {S S1 : Fs} {n v : Int} (hr : NuR S n v S1) : S.cnt ≤ S1.cnt := by
  rcases hr with ⟨h1, rfl⟩ | ⟨h1, rfl, rfl⟩
  · exact Nat.le_refl _
  · show S.cnt ≤ S.cnt + 1; omega
theorem va_cnt {S S1 : Fs} {p v : Int} (hr : VaR S p v S1) : S.cnt ≤ S1.cnt := by
  rcases hr with ⟨h1, rfl⟩ | ⟨h1, S0, h2, rfl⟩
  · exact Nat.le_refl _
  · show S.cnt ≤ S0.cnt; exact nu_cnt h2
set_option maxRecDepth 100000 in
set_option maxHeartbeats 4000000 in
theorem step_w (w : World) (X : Fx) (S : Fs) (nt g o dst m : Nat) (cs : Array Value) (cd n d : Int) (env : Int → Int) (hcd : cd = 1 ∨ cd = 2 ∨ cd = 3) (hdst : dst < nt) (hnt : nt ≤ 1000000) (hd : d ≤ (dst : Int)) (hm : m + 2 < 50000)
    (hos : o + 10 ≤ cs.size) (hg : g ∉ X.Z) (h2 : 2 ∉ g :: X.Z) (hgl : g < w.heap.size) (ht : TyE w X nt) (htg : ∀ tb tc, X.tv = .slice (some ⟨tb, 0, none⟩) nt tc → tb ≠ g) (hff : FfE w) (hfc : FcM w X S)
    (R1 : World → Prop)
    (hrd : Calls Tryd.prog 84 #[.pointer (some ⟨g, o, none⟩), look92V w.heap.size] (w.alloc (.cells #[ptr X.kb] 132)) (fun e w1 => e = .returned (.tuple #[]) ∧ R1 w1 ∧ w1.cell? ⟨g, o, none⟩ = some (.int .i64 cd) ∧ w1.cell? ⟨w.heap.size, 0, none⟩ = some (ptr X.kb) ∧ Ko (g :: X.Z) w w1))
    (hres : ∀ w1, R1 w1 → Calls Tryd.prog 95 #[ptr X.kb, .pointer (some ⟨g, o, none⟩)] w1 (fun e w2 => ∃ v S1, e = .returned (.int .i64 v) ∧ Rw w X g o w.heap.size cs cd dst env dst m S1 w2 ∧ S1.num v = some n ∧ 1 ≤ v ∧ v ≤ (S1.cnt : Int))) :
    Calls Tryd.prog 79 #[ptr X.kb, .pointer (some ⟨g, o, none⟩)] w (StP w X g o cs env (m + 2) dst n) := by
  have HRd : Hid (Calls Tryd.prog 84 #[.pointer (some ⟨g, o, none⟩), look92V w.heap.size] (w.alloc (.cells #[ptr X.kb] 132)) (fun e w1 => e = .returned (.tuple #[]) ∧ R1 w1 ∧ w1.cell? ⟨g, o, none⟩ = some (.int .i64 cd) ∧ w1.cell? ⟨w.heap.size, 0, none⟩ = some (ptr X.kb) ∧ Ko (g :: X.Z) w w1)) := hrd
  have HRes : Hid (∀ w1, R1 w1 → Calls Tryd.prog 95 #[ptr X.kb, .pointer (some ⟨g, o, none⟩)] w1 (fun e w2 => ∃ v S1, e = .returned (.int .i64 v) ∧ Rw w X g o w.heap.size cs cd dst env dst m S1 w2 ∧ S1.num v = some n ∧ 1 ≤ v ∧ v ≤ (S1.cnt : Int))) := hres
  have hmf : ∀ (fn : Fn) (first cap : Array Value) (w : World), (Instr.makeFunc fn first cap).run Tryd.prog w = .ok (.func fn first cap) w := fun _ _ _ _ => rfl
  have HF : Hid (FfE w ∧ 2 ∉ g :: X.Z) := ⟨hff, h2⟩
  generalize hG : StP w X g o cs env (m + 2) dst n = G
  have HG : Hid (StP w X g o cs env (m + 2) dst n = G) := hG
  have HP : Hid (TyE w X nt ∧ (∀ tb tc, X.tv = .slice (some ⟨tb, 0, none⟩) nt tc → tb ≠ g) ∧ g ∉ X.Z ∧ g < w.heap.size ∧ o + 10 ≤ cs.size ∧ m + 2 < 50000 ∧ d ≤ (dst : Int)) := ⟨ht, htg, hg, hgl, hos, hm, hd⟩
  have HV : Hid (∀ v S1 w2, Rw w X g o w.heap.size cs cd dst env dst m S1 w2 → S1.num v = some n → 1 ≤ v → v ≤ (S1.cnt : Int) →
      Calls Tryd.prog 96 #[ptr X.kb, .int .i64 (dst : Int)] (w2.setCells g o (sC (cn dst n))).drew (fun e w4 => ∃ v1 S2, e = .returned (.int .i64 v1) ∧ Rw4 w X g o w.heap.size cs dst n v v1 env (m + 1) S2 w4)) := fun v S1 w2 hR hn h1 hv => by
    obtain ⟨cur, c1, c2, c3, c4, c5⟩ := hR.row
    obtain ⟨cur', d1, d2, d3, d4, d5⟩ := lay_row c1 (by rw [c2]; exact HP.out.2.2.2.2.1) (cn dst n)
    obtain ⟨W3, hW3⟩ : ∃ W3, w2.setCells g o (sC (cn dst n)) = W3 := ⟨_, rfl⟩
    rw [hW3] at d1 d5 ⊢
    clear hW3
    have hf3 : FcM W3.drew X S1 := (hR.fc.on hg d5).same ⟨fun _ => rfl, rfl, rfl, rfl, rfl⟩
    have hko : Ko (g :: X.Z) w W3 := hR.ko.trans (d5.wide (by intro b hb; simp at hb; simp [hb]))
    have hty : TyE W3.drew X nt := (HP.out.1.on2 HP.out.2.1 hko : TyE W3 X nt)
    refine (value_96 W3.drew X S1 nt dst hf3 hty hdst hnt (hR.inv.rm (by have := HP.out.2.2.2.2.2.1; omega))).mono ?_
    rintro e w4 ⟨v1, S2, r, rfl, h4, k4⟩
    have k4' := k4.undrew
    obtain ⟨i2, a1, a2, a3, a4, a5, a6⟩ := va_in (d' := (dst : Int) + 1) hR.inv r (by omega) (by omega) (by omega)
    refine ⟨v1, S2, rfl, h4, i2, ⟨cur', ?_, by rw [d2, c2], fun p hp => by rw [d4 p hp, c3 p hp], d3⟩, ?_, hko.trans (k4'.wide (fun b hb => List.mem_cons_of_mem _ hb)), a4, a3, va_num hR.inv r hn, ⟨h1, by have := va_cnt r; omega, a1, a2⟩, fun x hx => ?_⟩
    · rw [k4'.blk g (Array.getElem?_eq_some_iff.1 d1).1 HP.out.2.2.1]; exact d1
    · have hlt := (Array.getElem?_eq_some_iff.1 hR.bx).1
      have hne : w.heap.size ∉ X.Z := hfc.new (Nat.le_refl _)
      rw [k4'.blk _ (by have := d5.size; omega) hne, d5.blk _ hlt (by have := HP.out.2.2.2.1; simp; omega)]; exact hR.bx
    · rw [a5] at hx
      have hh := hR.inv.home x _ hx
      have := (hR.inv.hold _ _ hh).2.2.2.2
      omega
  have HW : Hid (∀ w4 v v1 S2, Rw4 w X g o w.heap.size cs dst n v v1 env (m + 1) S2 w4 → (v1 = v → G (.returned (.bool true)) w4) ∧ (v1 ≠ v → Calls Tryd.prog 97 #[ptr X.kb, .int .i64 (dst : Int), .int .i64 v] w4.drew (fun e w5 => e = .returned (.tuple #[]) ∧ G (.returned (.bool false)) w5))) := fun w4 v v1 S2 h4 => by
    have c9 := h4.inv.c
    have r9 := h4.vr
    obtain ⟨cur, d1, d2, d3, d4⟩ := h4.row
    refine ⟨fun e => ?_, fun e => ?_⟩
    · rw [← HG.out]
      have hnn : env (dst : Int) = n := by
        have h1 := h4.n1
        rw [e, h4.nv] at h1
        injection h1 with h1
        exact h1.symm
      exact ⟨true, S2, cur, rfl, h4.fc, (h4.inv.mono (Int.le_refl _) (by omega)).congr (up_same hnn), fun _ => hnn, d1, d2, d3, d4, h4.ko⟩
    · refine (write_97 w4.drew X S2 nt dst v v1 (h4.fc.same ⟨fun _ => rfl, rfl, rfl, rfl, rfl⟩) (show TyE w4.drew X nt from (HP.out.1.on2 HP.out.2.1 h4.ko : TyE w4 X nt)) hdst hnt (h4.inv.rm (by have := HP.out.2.2.2.2.2.1; omega)) h4.ho ⟨by omega, by have := HP.out.2.2.2.2.2.1; omega⟩ ⟨by omega, by have := HP.out.2.2.2.2.2.1; omega⟩ (h4.hm v1)).mono ?_
      rintro e5 w5 ⟨rfl, h5, k5⟩
      have k5' := k5.undrew
      refine ⟨rfl, ?_⟩
      rw [← HG.out]
      exact ⟨false, _, cur, rfl, h5, wr_in h4.inv h4.ho ⟨r9.1, r9.2.1⟩ h4.nv h4.hm, (fun h => (by cases h)), by rw [k5'.blk g (Array.getElem?_eq_some_iff.1 d1).1 HP.out.2.2.1]; exact d1, d2, d3, d4, h4.ko.trans (k5'.wide (fun b hb => List.mem_cons_of_mem _ hb))⟩
  clear hrd hres hff h2 hG ht htg hg hgl hos hm hd hfc
  rcases hcd with rfl | rfl | rfl
  all_goals
    go_enter Tryd.func79, Tryd.ntmps79
    go_wp2_with (go_at_call 84; fail)
    refine HRd.out.mono ?_
    rintro e w1 ⟨rfl, r1, c0, cb, k1⟩
    have HRs : Hid (Calls Tryd.prog 95 #[ptr X.kb, .pointer (some ⟨g, o, none⟩)] w1 (fun e w2 => ∃ v S1, e = .returned (.int .i64 v) ∧ Rw w X g o w.heap.size cs _ dst env dst m S1 w2 ∧ S1.num v = some n ∧ 1 ≤ v ∧ v ≤ (S1.cnt : Int))) := HRes.out w1 r1
    have hF1 := HF.out.1.on HF.out.2 k1
    obtain ⟨-, -, -, g1, -⟩ := hF1 1 (by omega)
    obtain ⟨-, -, -, g2, -⟩ := hF1 2 (by omega)
    obtain ⟨-, -, -, g3, -⟩ := hF1 3 (by omega)
    simp only [ffm] at g1 g2 g3
    clear r1 k1 hF1
    go_wp2_with (go_at_call 95; fail)
    refine HRs.out.mono ?_
    rintro e w2 ⟨v, S1, rfl, hR, hn, h1, hv⟩
    clear c0 cb g1 g2 g3 HRs
    have HR : Hid (Rw w X g o w.heap.size cs _ dst env dst m S1 w2) := hR
    have k8 : w2.cell? ⟨X.kb, 8, none⟩ = some (.map (some X.nb)) := cell_at (i := 8) hR.fc.blk rfl
    have lk := num_at hR.fc (v := v) ⟨by have := hR.inv.c; omega, by have := hR.inv.c; have := HP.out.2.2.2.2.2.1; omega⟩ hn
    have cb2 : w2.cell? ⟨w.heap.size, 0, none⟩ = some (ptr X.kb) := cell_at (i := 0) hR.bx rfl
    have HV2 := HV.out v S1 w2 hR hn h1 hv
    have HV3 : Hid (Calls Tryd.prog 96 #[ptr X.kb, .int .i64 (dst : Int)] (w2.setCells g o (sC (cn dst n))).drew (fun e w4 => ∃ v1 S2, e = .returned (.int .i64 v1) ∧ Rw4 w X g o w.heap.size cs dst n v v1 env (m + 1) S2 w4)) := HV2
    obtain ⟨cur, d1, d2, d3, d4, d5⟩ := hR.row
    have hsz := HP.out.2.2.2.2.1
    obtain ⟨u2, e2⟩ : ∃ u, cur[o + 2]? = some u := ⟨_, Array.getElem?_eq_getElem (by omega)⟩
    obtain ⟨u3, e3⟩ : ∃ u, cur[o + 3]? = some u := ⟨_, Array.getElem?_eq_getElem (by omega)⟩
    obtain ⟨u4, e4⟩ : ∃ u, cur[o + 4]? = some u := ⟨_, Array.getElem?_eq_getElem (by omega)⟩
    obtain ⟨u5, e5⟩ : ∃ u, cur[o + 5]? = some u := ⟨_, Array.getElem?_eq_getElem (by omega)⟩
    obtain ⟨u6, e6⟩ : ∃ u, cur[o + 6]? = some u := ⟨_, Array.getElem?_eq_getElem (by omega)⟩
    obtain ⟨u7, e7⟩ : ∃ u, cur[o + 7]? = some u := ⟨_, Array.getElem?_eq_getElem (by omega)⟩
    obtain ⟨u8, e8⟩ : ∃ u, cur[o + 8]? = some u := ⟨_, Array.getElem?_eq_getElem (by omega)⟩
    obtain ⟨u9, e9⟩ : ∃ u, cur[o + 9]? = some u := ⟨_, Array.getElem?_eq_getElem (by omega)⟩
    have c0 := cell_at d1 d4
    have c1 := cell_at d1 d5
    have c2 := cell_at d1 e2
    have c3 := cell_at d1 e3
    have c4 := cell_at d1 e4
    have c5 := cell_at d1 e5
    have c6 := cell_at d1 e6
    have c7 := cell_at d1 e7
    have c8 := cell_at d1 e8
    have c9 := cell_at d1 e9
    have f0 := row_free d1 o
    have f1 := row_free d1 (o + 1)
    have f2 := row_free d1 (o + 2)
    have f3 := row_free d1 (o + 3)
    have f4 := row_free d1 (o + 4)
    have f5 := row_free d1 (o + 5)
    have f6 := row_free d1 (o + 6)
    have f7 := row_free d1 (o + 7)
    have f8 := row_free d1 (o + 8)
    have f9 := row_free d1 (o + 9)
    obtain ⟨W3, hW3⟩ : ∃ W3, W3 = ((((((((((w2.setCell ⟨g, o, none⟩ (.int .i64 1)).setCell ⟨g, o + 1, none⟩ (.int .i64 (dst : Int))).setCell ⟨g, o + 2, none⟩ (.int .i64 0)).setCell ⟨g, o + 3, none⟩ (.int .i64 0)).setCell ⟨g, o + 4, none⟩ (.int .i64 0)).setCell ⟨g, o + 5, none⟩ (.int .i64 n)).setCell ⟨g, o + 6, none⟩ (.string ⟨#[]⟩)).setCell ⟨g, o + 7, none⟩ (.int .i64 0)).setCell ⟨g, o + 8, none⟩ (.string ⟨#[]⟩)).setCell ⟨g, o + 9, none⟩ (.slice none 0 0)) := ⟨_, rfl⟩
    have e3' : w2.setCells g o (sC (cn (dst : Int) n)) = W3 := by rw [hW3]; rfl
    obtain ⟨cur', q1, q2, q3, q4, q5⟩ := lay_row (o := o) d1 (by omega) (cn (dst : Int) n)
    have bx2 := hR.bx
    rw [e3'] at q1 q5 HV3
    have x1 : W3.drew.cell? ⟨g, o + 1, none⟩ = some (.int .i64 (dst : Int)) := cell_at (w := W3) q1 (q3 1 (by omega))
    have x0 : W3.drew.cell? ⟨w.heap.size, 0, none⟩ = some (ptr X.kb) := cell_at (w := W3) (i := 0) (by rw [q5.blk _ (Array.getElem?_eq_some_iff.1 bx2).1 (by have := HP.out.2.2.2.1; simp; omega)]; exact bx2) rfl
    clear hR hn h1 hv HV2 d1 d2 d3 d4 d5 e2 e3 e4 e5 e6 e7 e8 e9 hsz e3' q1 q2 q3 q4 q5 bx2
    go_wp2_with fail
    rw [← hW3]
    clear hW3 c0 c1 c2 c3 c4 c5 c6 c7 c8 c9 f0 f1 f2 f3 f4 f5 f6 f7 f8 f9 k8 lk cb2
    go_region_with (go_at_call 96; refine HV3.out.mono ?_; rintro e w4 ⟨v1, S2, rfl, h4⟩; have H4 : Hid (Rw4 w X g o w.heap.size cs dst n v v1 env (m + 1) S2 w4) := h4; clear h4)
    all_goals
      clear x0 x1
      obtain ⟨cur4, q1, q2, q3, q4⟩ := H4.out.row
      have x1 : w4.drew.cell? ⟨g, o + 1, none⟩ = some (.int .i64 (dst : Int)) := cell_at (w := w4) q1 (q4 1 (by omega))
      have x0 : w4.drew.cell? ⟨w.heap.size, 0, none⟩ = some (ptr X.kb) := cell_at (w := w4) (i := 0) H4.out.bx rfl
      obtain ⟨g1, g2⟩ := HW.out w4 v v1 S2 H4.out
      clear q1 q2 q3 q4
      by_cases hvv : v1 = v
      · have HX : Hid (G (.returned (.bool true)) w4) := g1 hvv
        have t1 : (v1 == v) = true := by simpa using hvv
        clear g1 g2 hvv
        go_wp2
        exact HX.out
      · have HW5 : Hid (Calls Tryd.prog 97 #[ptr X.kb, .int .i64 (dst : Int), .int .i64 v] w4.drew (fun e w5 => e = .returned (.tuple #[]) ∧ G (.returned (.bool false)) w5)) := g2 hvv
        have t1 : (v1 == v) = false := by simpa using hvv
        clear g1 g2 hvv
        go_wp2_with fail
        go_region_with (go_at_call 97; refine HW5.out.mono ?_; rintro e w5 ⟨rfl, hg5⟩; have HX : Hid (G (.returned (.bool false)) w5) := hg5; clear hg5)
        all_goals
          go_wp2
          exact HX.out
end Go.Proofs.YtjmbjpimabnohaaDoor.Mid
