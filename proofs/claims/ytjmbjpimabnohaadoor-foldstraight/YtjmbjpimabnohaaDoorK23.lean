/- FT -/
import Derived.Test.YtjmbjpimabnohaaDoorK22
namespace Go.Proofs.YtjmbjpimabnohaaDoor.Mid
set_option linter.unusedVariables false
set_option linter.unusedSimpArgs false
open Go Go.RowKit
theorem Ko.undrew {Z : List Nat} {w w' : World} (h : Ko Z w.drew w') : Ko Z w w' := ⟨h.os, h.tape, h.output, h.size, h.blk⟩
theorem Ko.cell {Z : List Nat} {w w' : World} (h : Ko Z w w') {b o : Nat} {v : Value} (hb : b ∉ Z) (hv : w.cell? ⟨b, o, none⟩ = some v) : w'.cell? ⟨b, o, none⟩ = some v := by
  rw [← hv]
  exact World.cell?_of_block (a := ⟨b, o, none⟩) (h.blk b (cell_lt hv) hb)
theorem val_known (w : World) (X : Fx) (S : Fs) (nt p : Nat) (v : Int) (h : FcM w X S) (ht : TyE w X nt) (hp : p < nt) (hn : nt ≤ 1000000) (hr : Rm S) (ho : S.hold (p : Int) = some v) : Calls Tryd.prog 96 #[ptr X.kb, .int .i64 (p : Int)] w (fun e w' => e = .returned (.int .i64 v) ∧ FcM w' X S ∧ Ko X.Z w w') :=
  (value_96 w X S nt p h ht hp hn hr).mono (fun e w' hp => by
    obtain ⟨v1, S1, r, e1, e2, e3⟩ := hp
    rcases r with ⟨r1, rfl⟩ | ⟨r1, _⟩
    · rw [ho] at r1
      injection r1 with r1
      subst r1
      exact ⟨e1, e2, e3⟩
    · rw [ho] at r1; cases r1)
theorem num_at {w : World} {X : Fx} {S : Fs} (h : FcM w X S) {v n : Int} (hv : I64 v) (hn : S.num v = some n) : (Instr.lookup 134 (.map (some X.nb)) (.int .i64 v) true).run Tryd.prog w = .ok (.tuple #[.int .i64 n, .bool true]) w := by
  have lk := h.nums.look2 kdI und134 (zero2 w) (key_i v hv)
  have e1 : iF S.num (.int .i64 v) = some (.int .i64 n) := by show (S.num v).map _ = _; rw [hn]; rfl
  rw [e1] at lk
  exact lk
set_option maxRecDepth 100000 in
set_option maxHeartbeats 4000000 in
theorem result_3 (w : World) (X : Fx) (S : Fs) (g o nt a b : Nat) (y6 : ByteArray) (va vb na nb n : Int) (h : FcM w X S) (ht : TyE w X nt) (ha : a < nt) (hb : b < nt) (hn : nt ≤ 1000000) (hr : Rm S) (hg : g ∉ X.Z) (c0 : w.cell? ⟨g, o, none⟩ = some (.int .i64 3)) (c2 : w.cell? ⟨g, o + 2, none⟩ = some (.int .i64 (a : Int))) (c3 : w.cell? ⟨g, o + 3, none⟩ = some (.int .i64 (b : Int))) (c6 : w.cell? ⟨g, o + 6, none⟩ = some (.string y6))
    (oa : S.hold (a : Int) = some va) (ob : S.hold (b : Int) = some vb) (ia : I64 va) (ib : I64 vb) (qa : S.num va = some na) (qb : S.num vb = some nb) (hbo : bothV y6.data.toList na nb = (n, 0)) (hnI : I64 n) : Calls Tryd.prog 95 #[ptr X.kb, .pointer (some ⟨g, o, none⟩)] w (fun e w' => ∃ v S1, NuR S n v S1 ∧ ReP w X v S1 e w') := by
  have HA : Hid (∀ W, W = w.drew → Calls Tryd.prog 96 #[ptr X.kb, .int .i64 (a : Int)] W (fun e w' => e = .returned (.int .i64 va) ∧ FcM w' X S ∧ Ko X.Z w w')) := fun W hW => by
    subst hW
    refine (val_known w.drew X S nt a va ⟨h.blk, h.holds, h.homes, h.nums, h.vals, h.nd, h.few⟩ ht ha hn hr oa).mono (fun e w' hp => ⟨hp.1, hp.2.1, hp.2.2.undrew⟩)
  have HB : Hid (∀ w1, FcM w1 X S → Ko X.Z w w1 → ∀ W, W = w1.drew → Calls Tryd.prog 96 #[ptr X.kb, .int .i64 (b : Int)] W (fun e w' => e = .returned (.int .i64 vb) ∧ FcM w' X S ∧ Ko X.Z w w')) := fun w1 h1 k1 W hW => by
    subst hW
    refine (val_known w1.drew X S nt b vb ⟨h1.blk, h1.holds, h1.homes, h1.nums, h1.vals, h1.nd, h1.few⟩ (show TyE w1.drew X nt from (ht.on k1 : TyE w1 X nt)) hb hn hr ob).mono (fun e w' hp => ⟨hp.1, hp.2.1, k1.trans hp.2.2.undrew⟩)
  have HBo : Hid (∀ W, Calls Tryd.prog 7 #[.string y6, .int .i64 na, .int .i64 nb] W (fun e w' => e = .returned (.tuple #[.int .i64 n, .int .i64 0]) ∧ w' = W)) := fun W => by
    refine (both_any y6 na nb W).mono ?_
    rintro e w' ⟨rfl, rfl⟩
    rw [hbo]
    exact ⟨rfl, rfl⟩
  have HN : Hid (∀ w2, FcM w2 X S → Ko X.Z w w2 → Calls Tryd.prog 104 #[ptr X.kb, .int .i64 n] w2 (fun e w' => ∃ v S1, NuR S n v S1 ∧ e = .returned (.int .i64 v) ∧ FcM w' X S1 ∧ Ko X.Z w w')) := fun w2 h2 k2 => (number_104 w2 X S n h2 hnI ⟨by have := hr.c; omega, by have := hr.n; omega, by have := hr.v; omega⟩ (hr.f _ (by omega))).mono (fun e w' hp => by
    obtain ⟨v, S1, r, e1, e2, e3⟩ := nu_r h2 hp
    exact ⟨v, S1, r, e1, e2, k2.trans e3⟩)
  have HC : Hid (∀ w1, FcM w1 X S → Ko X.Z w w1 → w1.cell? ⟨X.kb, 8, none⟩ = some (.map (some X.nb)) ∧ w1.cell? ⟨g, o + 3, none⟩ = some (.int .i64 (b : Int)) ∧ w1.cell? ⟨g, o + 6, none⟩ = some (.string y6) ∧ (Instr.lookup 134 (.map (some X.nb)) (.int .i64 va) true).run Tryd.prog w1 = .ok (.tuple #[.int .i64 na, .bool true]) w1 ∧ (Instr.lookup 134 (.map (some X.nb)) (.int .i64 vb) true).run Tryd.prog w1 = .ok (.tuple #[.int .i64 nb, .bool true]) w1) := fun w1 h1 k1 => ⟨cell_at (i := 8) h1.blk rfl, k1.cell hg c3, k1.cell hg c6, num_at h1 ia qa, num_at h1 ib qb⟩
  generalize hG : (fun e w' => ∃ v S1, NuR S n v S1 ∧ ReP w X v S1 e w') = G
  have HG : Hid (∀ v S1 w', NuR S n v S1 → FcM w' X S1 → Ko X.Z w w' → G (.returned (.int .i64 v)) w') := fun v S1 w' a b c => by rw [← hG]; exact ⟨v, S1, a, rfl, b, c⟩
  have x8 : w.drew.cell? ⟨X.kb, 8, none⟩ = some (.map (some X.nb)) := cell_at (i := 8) h.blk rfl
  have x2 : w.drew.cell? ⟨g, o + 2, none⟩ = some (.int .i64 (a : Int)) := c2
  clear h ht hr hG oa ob ia ib qa qb hbo hnI c2 c3 c6 hg
  go_enter Tryd.func95, Tryd.ntmps95
  go_wp2_with (first | (go_at_call 104; fail) | (go_at_call 96; fail))
  go_region_with (go_at_call 96; refine (HA.out _ rfl).mono ?_; rintro e w1 ⟨rfl, h1, k1⟩; have H1 : Hid (FcM w1 X S ∧ Ko X.Z w w1) := ⟨h1, k1⟩; obtain ⟨d8, d3, d6, la, lb⟩ := HC.out w1 h1 k1; clear h1 k1)
  all_goals
    clear x8 x2 c0
    have d8' : w1.drew.cell? ⟨X.kb, 8, none⟩ = some (.map (some X.nb)) := d8
    have d3' : w1.drew.cell? ⟨g, o + 3, none⟩ = some (.int .i64 (b : Int)) := d3
    go_wp2_with (first | (go_at_call 104; fail) | (go_at_call 96; fail))
    go_region_with (go_at_call 96; refine (HB.out w1 H1.out.1 H1.out.2 _ rfl).mono ?_; rintro e w2 ⟨rfl, h2, k2⟩; have H2 : Hid (FcM w2 X S ∧ Ko X.Z w w2) := ⟨h2, k2⟩; obtain ⟨f8, f3, f6, ka, kb'⟩ := HC.out w2 h2 k2; clear h2 k2)
    all_goals
      clear d8 d3 d6 la lb d8' d3'
      have HN2 : Hid (Calls Tryd.prog 104 #[ptr X.kb, .int .i64 n] w2 (fun e w' => ∃ v S1, NuR S n v S1 ∧ e = .returned (.int .i64 v) ∧ FcM w' X S1 ∧ Ko X.Z w w')) := HN.out w2 H2.out.1 H2.out.2
      go_wp2_with (first | (go_at_call 7; refine (HBo.out _).mono ?_; rintro e w' ⟨rfl, rfl⟩) | (go_at_call 104; fail))
      refine HN2.out.mono ?_
      rintro e w3 ⟨v, S1, r, rfl, h3, k3⟩
      have HX : Hid (G (.returned (.int .i64 v)) w3) := HG.out v S1 w3 r h3 k3
      clear r h3 k3
      go_wp2
      exact HX.out
end Go.Proofs.YtjmbjpimabnohaaDoor.Mid
