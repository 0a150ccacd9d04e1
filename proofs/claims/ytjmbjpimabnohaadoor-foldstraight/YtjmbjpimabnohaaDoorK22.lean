/- FR FS -/
import Derived.Test.YtjmbjpimabnohaaDoorK21
namespace Go.Proofs.YtjmbjpimabnohaaDoor.Mid
set_option linter.unusedVariables false
set_option linter.unusedSimpArgs false
open Go Go.RowKit Go.Maps Go.ChangeMaps
theorem Mp.del0 {k : TypeId} {w : World} {b n : Nat} {f : Lit → Option Value} {t e : TypeId} (h : Mp k w b f n) (K : Maps.Keyed Tryd.prog k) (ht : Tryd.prog.underlying t = some (.map k e)) {z : Value} (hz : (zeroValue e).run Tryd.prog w = .ok z w) {key : Value} {kl : Lit} (hkey : keyOf Tryd.prog k key = some kl) (hf : f kl = none) :
    ∃ w', (∀ ty, (Builtin.delete_ #[t, k] ty #[.map (some b), key]).run Tryd.prog w = .ok (.tuple #[]) w') ∧ Sm0 w w' := by
  have hl2 := h.look2 K ht hz hkey
  rw [hf] at hl2
  obtain ⟨D, hown, _, _⟩ := id h
  obtain ⟨es, clock, hb, F, hs, _⟩ := hown
  rcases K.find w hkey es.toList F.keys with ⟨h1, h2⟩ | ⟨j, e0, h1, h2, h3⟩
  · refine ⟨setBlock w b (.map es clock), fun ty => ?_, fun i => ?_, by simp [setBlock], rfl, rfl, rfl⟩
    · simp [Builtin.delete_, run_underlying ht, MapKept.run_getObj_map hb, K.check w _ hkey, h1, MapKept.run_setObj_map _ hb, Result.andThen, setBlock]
    · by_cases e : i = b
      · subst e
        rw [heap_setBlock_same hb, hb]
      · exact heap_setBlock_other hb _ e
  · exfalso
    have e2 : (Instr.lookup t (.map (some b)) key true).run Tryd.prog w = .ok (.tuple #[e0.val, .bool true]) w := by simp [Instr.lookup, run_underlying ht, MapKept.run_getObj_map hb, K.check w _ hkey, h1, Result.andThen]
    rw [e2] at hl2
    injection hl2 with hl2
    injection hl2 with hl2
    have := congrArg (fun a : Array Value => a[1]?) hl2
    simp at this
theorem FcM.same {w w' : World} {X : Fx} {S : Fs} (h : FcM w X S) (hs : Sm0 w w') : FcM w' X S := ⟨by rw [hs.heap]; exact h.blk, h.holds.kept (hs.heap _), h.homes.kept (hs.heap _), h.nums.kept (hs.heap _), h.vals.kept (hs.heap _), h.nd, h.few⟩
theorem Sm0.ko {w w' : World} (h : Sm0 w w') (Z : List Nat) : Ko Z w w' := ⟨h.os, h.tape, h.output, by rw [h.size]; exact Nat.le_refl _, fun b _ _ => h.heap b⟩
def Fs.wrote (S : Fs) (p v : Int) : Fs := if (S.home v).isSome then S.setH p v else (S.setH p v).setM v p
def WrP (w : World) (X : Fx) (S : Fs) (p v : Int) (e : Ending) (w' : World) : Prop := e = .returned (.tuple #[]) ∧ FcM w' X (S.wrote p v) ∧ Ko X.Z w w'
set_option maxRecDepth 100000 in
set_option maxHeartbeats 4000000 in
theorem write_97 (w : World) (X : Fx) (S : Fs) (nt p : Nat) (v old : Int) (h : FcM w X S) (ht : TyE w X nt) (hp : p < nt) (hn : nt ≤ 1000000) (hr : Rm S) (ho : S.hold (p : Int) = some old) (hIo : I64 old) (hIv : I64 v) (hne : S.home old ≠ some (p : Int)) : Calls Tryd.prog 97 #[ptr X.kb, .int .i64 (p : Int), .int .i64 v] w (WrP w X S (p : Int) v) := by
  have HV : Hid (Calls Tryd.prog 96 #[ptr X.kb, .int .i64 (p : Int)] w (fun e w' => e = .returned (.int .i64 old) ∧ FcM w' X S ∧ Ko X.Z w w')) := (value_96 w X S nt p h ht hp hn hr).mono (fun e w' hp => by
    obtain ⟨v1, S1, r, e1, e2, e3⟩ := hp
    rcases r with ⟨r1, rfl⟩ | ⟨r1, _⟩
    · rw [ho] at r1
      injection r1 with r1
      subst r1
      exact ⟨e1, e2, e3⟩
    · rw [ho] at r1; cases r1)
  have HP : Hid (I64 old ∧ I64 v ∧ S.home old ≠ some (p : Int) ∧ Rm S ∧ I64 (p : Int)) := ⟨hIo, hIv, hne, hr, by omega, by omega⟩
  generalize hG : WrP w X S (p : Int) v = G
  have HG : Hid (WrP w X S (p : Int) v = G) := hG
  clear h ht hr hG hIo hIv hne ho
  go_enter Tryd.func97, Tryd.ntmps97
  go_wp2_with (go_at_call 96; fail)
  refine HV.out.mono ?_
  rintro e w1 ⟨rfl, h1, k1⟩
  have c7 : w1.cell? ⟨X.kb, 7, none⟩ = some (.map (some X.mb)) := cell_at (i := 7) h1.blk rfl
  have lk := h1.homes.look kdI und69 (zero3 w1) (key_i old HP.out.1)
  obtain ⟨q, hq⟩ : ∃ q, (S.home old).getD 0 = q := ⟨_, rfl⟩
  have lk' : (Instr.lookup 69 (.map (some X.mb)) (.int .i64 old) false).run Tryd.prog w1 = .ok (.int .i64 q) w1 := by
    rw [lk]
    show Result.ok (((S.home old).map fun y => Value.int .i64 y).getD (.int .i64 0)) w1 = _
    rw [← hq]
    cases S.home old <;> rfl
  have HRest : Hid (∀ W, FcM W X S → Ko X.Z w W → ∃ w3, (Instr.mapUpdate 69 (.map (some X.hb)) (.int .i64 (p : Int)) (.int .i64 v)).run Tryd.prog W = .ok () w3 ∧ w3.cell? ⟨X.kb, 7, none⟩ = some (.map (some X.mb)) ∧
      ((S.home v).isSome = true → ∃ r, (Instr.lookup 69 (.map (some X.mb)) (.int .i64 v) true).run Tryd.prog w3 = .ok (.tuple #[.int .i64 r, .bool true]) w3 ∧ G (.returned (.tuple #[])) w3) ∧
      ((S.home v).isSome = false → (Instr.lookup 69 (.map (some X.mb)) (.int .i64 v) true).run Tryd.prog w3 = .ok (.tuple #[.int .i64 0, .bool false]) w3 ∧ ∃ w4, (Instr.mapUpdate 69 (.map (some X.mb)) (.int .i64 v) (.int .i64 (p : Int))).run Tryd.prog w3 = .ok () w4 ∧ G (.returned (.tuple #[])) w4)) := fun W hW kW => by
    obtain ⟨w3, r3, h3, k3⟩ := hW.hold v HP.out.2.2.2.2 (by have := HP.out.2.2.2.1.h; omega)
    have lk3 := h3.homes.look2 kdI und69 (zero3 w3) (key_i v HP.out.2.1)
    have e3 : iF (S.setH (p : Int) v).home (.int .i64 v) = (S.home v).map fun y => Value.int .i64 y := rfl
    rw [e3] at lk3
    refine ⟨w3, r3, cell_at (i := 7) h3.blk rfl, fun hs => ?_, fun hs => ?_⟩
    · obtain ⟨r, hr⟩ := Option.isSome_iff_exists.1 hs
      rw [hr] at lk3
      refine ⟨r, lk3, ?_⟩
      rw [← HG.out]
      exact ⟨rfl, by unfold Fs.wrote; rw [if_pos hs]; exact h3, kW.trans k3⟩
    · have hnone : S.home v = none := by simpa using hs
      rw [hnone] at lk3
      obtain ⟨w4, r4, h4, k4⟩ := h3.homed (p : Int) HP.out.2.1 (by show S.nm < 100000; have := HP.out.2.2.2.1.m; omega)
      refine ⟨lk3, w4, r4, ?_⟩
      rw [← HG.out]
      exact ⟨rfl, by unfold Fs.wrote; rw [if_neg (by rw [hs]; decide)]; exact h4, (kW.trans k3).trans k4⟩
  by_cases hqp : q = (p : Int)
  · have hnone : S.home old = none := by
      cases e : S.home old with
      | none => rfl
      | some x =>
        rw [e] at hq
        exact absurd (by rw [e]; show some x = _; rw [← hqp, ← hq]; rfl) HP.out.2.2.1
    obtain ⟨wd, hdel, hsm⟩ := h1.homes.del0 kdI und69 (zero3 w1) (key_i old HP.out.1) (by show (S.home old).map _ = none; rw [hnone]; rfl)
    have hD := h1.same hsm
    have d6 : wd.cell? ⟨X.kb, 6, none⟩ = some (.map (some X.hb)) := cell_at (i := 6) hD.blk rfl
    obtain ⟨w3, r3, c3, g1, g2⟩ := HRest.out wd hD (k1.trans (hsm.ko _))
    subst hqp
    clear hD hsm h1 k1 lk hq hnone
    cases hs : (S.home v).isSome with
    | true =>
      obtain ⟨r, l3, hg⟩ := g1 hs
      have HX : Hid (G (.returned (.tuple #[])) w3) := hg
      clear g1 g2 hg hs
      go_wp2
      go_end0
      exact HX.out
    | false =>
      obtain ⟨l3, w4, r4, hg⟩ := g2 hs
      have HX : Hid (G (.returned (.tuple #[])) w4) := hg
      clear g1 g2 hg hs
      go_wp2
      go_end0
      exact HX.out
  · have c6 : w1.cell? ⟨X.kb, 6, none⟩ = some (.map (some X.hb)) := cell_at (i := 6) h1.blk rfl
    obtain ⟨w3, r3, c3, g1, g2⟩ := HRest.out w1 h1 k1
    have tq : (q == (p : Int)) = false := by simpa using hqp
    clear h1 k1 lk hq
    cases hs : (S.home v).isSome with
    | true =>
      obtain ⟨r, l3, hg⟩ := g1 hs
      have HX : Hid (G (.returned (.tuple #[])) w3) := hg
      clear g1 g2 hg hs
      go_wp2
      go_end0
      exact HX.out
    | false =>
      obtain ⟨l3, w4, r4, hg⟩ := g2 hs
      have HX : Hid (G (.returned (.tuple #[])) w4) := hg
      clear g1 g2 hg hs
      go_wp2
      go_end0
      exact HX.out
end Go.Proofs.YtjmbjpimabnohaaDoor.Mid
namespace Go.Proofs.YtjmbjpimabnohaaDoor.Mid
set_option linter.unusedVariables false
set_option linter.unusedSimpArgs false
open Go Go.RowKit
def ReP (w : World) (X : Fx) (v : Int) (S1 : Fs) (e : Ending) (w' : World) : Prop := e = .returned (.int .i64 v) ∧ FcM w' X S1 ∧ Ko X.Z w w'
set_option maxRecDepth 100000 in
set_option maxHeartbeats 2000000 in
theorem result_1 (w : World) (X : Fx) (S : Fs) (g o : Nat) (n : Int) (h : FcM w X S) (hr : Rm S) (hn : I64 n) (c0 : w.cell? ⟨g, o, none⟩ = some (.int .i64 1)) (c5 : w.cell? ⟨g, o + 5, none⟩ = some (.int .i64 n)) : Calls Tryd.prog 95 #[ptr X.kb, .pointer (some ⟨g, o, none⟩)] w (fun e w' => ∃ v S1, NuR S n v S1 ∧ ReP w X v S1 e w') := by
  have HN : Hid (Calls Tryd.prog 104 #[ptr X.kb, .int .i64 n] w (fun e w' => ∃ v S1, NuR S n v S1 ∧ e = .returned (.int .i64 v) ∧ FcM w' X S1 ∧ Ko X.Z w w')) := (number_104 w X S n h hn ⟨by have := hr.c; omega, by have := hr.n; omega, by have := hr.v; omega⟩ (hr.f _ (by omega))).mono (fun e w' hp => nu_r h hp)
  generalize hG : (fun e w' => ∃ v S1, NuR S n v S1 ∧ ReP w X v S1 e w') = G
  have HG : Hid (∀ v S1 w', NuR S n v S1 → FcM w' X S1 → Ko X.Z w w' → G (.returned (.int .i64 v)) w') := fun v S1 w' a b c => by rw [← hG]; exact ⟨v, S1, a, rfl, b, c⟩
  clear h hr hG
  go_enter Tryd.func95, Tryd.ntmps95
  go_wp2_with (go_at_call 104; fail)
  refine HN.out.mono ?_
  rintro e w1 ⟨v, S1, r, rfl, h1, k1⟩
  have HX : Hid (G (.returned (.int .i64 v)) w1) := HG.out v S1 w1 r h1 k1
  clear r h1 k1
  go_wp2
  exact HX.out
set_option maxRecDepth 100000 in
set_option maxHeartbeats 2000000 in
theorem result_2 (w : World) (X : Fx) (S : Fs) (g o nt a : Nat) (h : FcM w X S) (ht : TyE w X nt) (ha : a < nt) (hn : nt ≤ 1000000) (hr : Rm S) (c0 : w.cell? ⟨g, o, none⟩ = some (.int .i64 2)) (c2 : w.cell? ⟨g, o + 2, none⟩ = some (.int .i64 (a : Int))) : Calls Tryd.prog 95 #[ptr X.kb, .pointer (some ⟨g, o, none⟩)] w (fun e w' => ∃ v S1, VaR S (a : Int) v S1 ∧ ReP w X v S1 e w') := by
  have HV : Hid (Calls Tryd.prog 96 #[ptr X.kb, .int .i64 (a : Int)] w (VaP w X S (a : Int))) := value_96 w X S nt a h ht ha hn hr
  generalize hG : (fun e w' => ∃ v S1, VaR S (a : Int) v S1 ∧ ReP w X v S1 e w') = G
  have HG : Hid (∀ v S1 w', VaR S (a : Int) v S1 → FcM w' X S1 → Ko X.Z w w' → G (.returned (.int .i64 v)) w') := fun v S1 w' a b c => by rw [← hG]; exact ⟨v, S1, a, rfl, b, c⟩
  clear h ht hr hG
  go_enter Tryd.func95, Tryd.ntmps95
  go_wp2_with (first | (go_at_call 104; fail) | (go_at_call 96; fail))
  refine HV.out.mono ?_
  rintro e w1 ⟨v, S1, r, rfl, h1, k1⟩
  have HX : Hid (G (.returned (.int .i64 v)) w1) := HG.out v S1 w1 r h1 k1
  clear r h1 k1
  go_wp2
  exact HX.out
end Go.Proofs.YtjmbjpimabnohaaDoor.Mid
