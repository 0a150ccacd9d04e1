/- FN FO FP FQ -/
import Derived.Test.YtjmbjpimabnohaaDoorK20
namespace Go.Proofs.YtjmbjpimabnohaaDoor.Mid
set_option linter.unusedVariables false
set_option linter.unusedSimpArgs false
open Go Go.RowKit Go.ChangeMaps
theorem und134 : Tryd.prog.underlying 134 = some (.map 3 2) := Tryd.underlying134
theorem und135 : Tryd.prog.underlying 135 = some (.map 2 3) := Tryd.underlying135
theorem zero2 (w : World) : (zeroValue 2).run Tryd.prog w = .ok (.int .i64 0) w := by kernel_rfl
theorem key_j (x : Int) (hx : I64 x) : keyOf Tryd.prog 2 (.int .i64 x) = some (.int .i64 x) := Maps.keyOf_int_mk Tryd.underlying2 (WalkArith.wf_i64 (by have := hx.1; have := hx.2; omega))
theorem kdJ : Maps.Keyed Tryd.prog 2 := Maps.int_keyed Tryd.underlying2
def Fs.newN (S : Fs) (n : Int) : Fs := { S with cnt := S.cnt + 1, val := fun x => if x = n then some ((S.cnt : Int) + 1) else S.val x, num := fun x => if x = (S.cnt : Int) + 1 then some n else S.num x, nn := S.nn + 1, nv := S.nv + 1 }
theorem iF_set (g : Int → Option Int) (n y : Int) : iF (fun x => if x = n then some y else g x) (.int .i64 n) = some (.int .i64 y) ∧ ∀ z, z ≠ .int .i64 n → iF (fun x => if x = n then some y else g x) z = iF g z := by
  refine ⟨by simp [iF], fun z hz => ?_⟩
  cases z with
  | int k x =>
    cases k with
    | i64 =>
      have : x ≠ n := fun e => hz (by rw [e])
      simp [iF, this]
    | _ => rfl
  | _ => rfl
theorem ikl (x : Int) : WideAt.IsKeyLit (.int .i64 x) := kdI.key (key_i 0 ⟨by omega, by omega⟩) |> fun _ => trivial
def NuP (w : World) (X : Fx) (S : Fs) (n : Int) (e : Ending) (w' : World) : Prop :=
  (∃ v, S.val n = some v ∧ e = .returned (.int .i64 v) ∧ w' = w) ∨ (S.val n = none ∧ e = .returned (.int .i64 ((S.cnt : Int) + 1)) ∧ FcM w' X (S.newN n) ∧ Ko X.Z w w')
set_option maxRecDepth 100000 in
set_option maxHeartbeats 4000000 in
theorem number_104 (w : World) (X : Fx) (S : Fs) (n : Int) (h : FcM w X S) (hn : I64 n) (hc : S.cnt < 100000 ∧ S.nn < 100000 ∧ S.nv < 100000) (hf : S.num ((S.cnt : Int) + 1) = none) : Calls Tryd.prog 104 #[ptr X.kb, .int .i64 n] w (NuP w X S n) := by
  have c9 : w.cell? ⟨X.kb, 9, none⟩ = some (.map (some X.vb)) := cell_at (i := 9) h.blk rfl
  have lk := h.vals.look2 kdJ und135 (zero3 w) (key_j n hn)
  cases hv : S.val n with
  | some v =>
    have e1 : iF S.val (.int .i64 n) = some (.int .i64 v) := by show (S.val n).map _ = _; rw [hv]; rfl
    rw [e1] at lk
    have lk' : (Instr.lookup 135 (.map (some X.vb)) (.int .i64 n) true).run Tryd.prog w = .ok (.tuple #[.int .i64 v, .bool true]) w := lk
    have HX : Hid (NuP w X S n (.returned (.int .i64 v)) w) := .inl ⟨v, hv, rfl, rfl⟩
    generalize NuP w X S n = G at HX ⊢
    clear h lk e1 hv
    go_enter Tryd.func104, Tryd.ntmps104
    go_wp2_with (go_at_call 105; fail)
    exact HX.out
  | none =>
    have e1 : iF S.val (.int .i64 n) = none := by show (S.val n).map _ = _; rw [hv]; rfl
    rw [e1] at lk
    have lk' : (Instr.lookup 135 (.map (some X.vb)) (.int .i64 n) true).run Tryd.prog w = .ok (.tuple #[.int .i64 0, .bool false]) w := lk
    have HFr : Hid (Calls Tryd.prog 105 #[ptr X.kb] w (fun e w' => e = .returned (.int .i64 ((S.cnt : Int) + 1)) ∧ FcM w' X S.more ∧ Ko X.Z w w')) := fresh_105 w X S h hc.1
    have HP : Hid (I64 n ∧ S.val n = none ∧ S.num ((S.cnt : Int) + 1) = none ∧ S.cnt < 100000 ∧ S.nn < 100000 ∧ S.nv < 100000) := ⟨hn, hv, hf, hc⟩
    obtain ⟨vn, hvn⟩ : ∃ vn, (S.cnt : Int) + 1 = vn := ⟨_, rfl⟩
    have HVn : Hid ((S.cnt : Int) + 1 = vn ∧ I64 vn) := ⟨hvn, by rw [← hvn]; exact ⟨by omega, by omega⟩⟩
    generalize hG : NuP w X S n = G
    have HG : Hid (NuP w X S n = G) := hG
    rw [hvn] at HFr
    clear h lk e1 hv hG hn hc hf hvn
    go_enter Tryd.func104, Tryd.ntmps104
    go_wp2_with (go_at_call 105; fail)
    clear c9 lk'
    refine HFr.out.mono ?_
    rintro e w2 ⟨rfl, h2, k2⟩
    obtain ⟨a1, a2, a3, a4, a5, a6, a7, a8, a9, a10⟩ := Fx.apart h2.nd
    have hm1 : Mp 2 w2.drew X.vb (iF S.val) S.nv := h2.vals
    obtain ⟨es, ck, b1, me1, es1, mp1⟩ := hm1.entry kdJ und135 (by have := HP.out; omega) zero3 (key_j n HP.out.1) (ikl n) (by show (S.val n).map _ = _; rw [HP.out.2.1]; rfl)
    obtain ⟨A1, hA1⟩ : ∃ A1, setBlock w2.drew X.vb (.map (es.push ⟨.int .i64 n, .int .i64 0, ck⟩) (ck + 1)) = A1 := ⟨_, rfl⟩
    rw [hA1] at me1
    have hA1b : A1.heap[X.vb]? = some (.map (es.push ⟨.int .i64 n, .int .i64 0, ck⟩) (ck + 1)) := by rw [← hA1]; exact heap_setBlock_same b1 _
    have hA1o : ∀ b, b ≠ X.vb → A1.heap[b]? = w2.heap[b]? := fun b hb => by rw [← hA1]; exact heap_setBlock_other b1 _ hb
    have st1 := es1 A1 (.int .i64 vn) hA1b
    obtain ⟨A2, hA2⟩ : ∃ A2, setBlock A1 X.vb (.map (es.push ⟨.int .i64 n, .int .i64 vn, ck⟩) (ck + 1)) = A2 := ⟨_, rfl⟩
    rw [hA2] at st1
    have hA2b : A2.heap[X.vb]? = some (.map (es.push ⟨.int .i64 n, .int .i64 vn, ck⟩) (ck + 1)) := by rw [← hA2]; exact heap_setBlock_same hA1b _
    have hA2o : ∀ b, b ≠ X.vb → A2.heap[b]? = w2.heap[b]? := fun b hb => by rw [← hA2, heap_setBlock_other hA1b _ hb]; exact hA1o b hb
    have hm2 : Mp 3 A2 X.nb (iF S.num) S.nn := h2.nums.kept (hA2o _ a10)
    obtain ⟨es', ck', b2, me2, es2, mp2⟩ := hm2.entry kdI und134 (by have := HP.out; omega) zero2 (key_i vn HVn.out.2) (ikl vn) (by show (S.num vn).map _ = _; rw [← HVn.out.1, HP.out.2.2.1]; rfl)
    obtain ⟨A3, hA3⟩ : ∃ A3, setBlock A2 X.nb (.map (es'.push ⟨.int .i64 vn, .int .i64 0, ck'⟩) (ck' + 1)) = A3 := ⟨_, rfl⟩
    rw [hA3] at me2
    have hA3b : A3.heap[X.nb]? = some (.map (es'.push ⟨.int .i64 vn, .int .i64 0, ck'⟩) (ck' + 1)) := by rw [← hA3]; exact heap_setBlock_same b2 _
    have st2 := es2 A3 (.int .i64 n) hA3b
    obtain ⟨A4, hA4⟩ : ∃ A4, setBlock A3 X.nb (.map (es'.push ⟨.int .i64 vn, .int .i64 n, ck'⟩) (ck' + 1)) = A4 := ⟨_, rfl⟩
    rw [hA4] at st2
    have hA4b : A4.heap[X.nb]? = some (.map (es'.push ⟨.int .i64 vn, .int .i64 n, ck'⟩) (ck' + 1)) := by rw [← hA4]; exact heap_setBlock_same hA3b _
    have hA4o : ∀ b, b ≠ X.vb → b ≠ X.nb → A4.heap[b]? = w2.heap[b]? := fun b hb hb2 => by rw [← hA4, heap_setBlock_other hA3b _ hb2, ← hA3, heap_setBlock_other b2 _ hb2]; exact hA2o b hb
    have hA4v : A4.heap[X.vb]? = some (.map (es.push ⟨.int .i64 n, .int .i64 vn, ck⟩) (ck + 1)) := by rw [← hA4, heap_setBlock_other hA3b _ a10.symm, ← hA3, heap_setBlock_other b2 _ a10.symm]; exact hA2b
    have HX : Hid (G (.returned (.int .i64 vn)) A4) := by
      show G _ _
      rw [← HG.out]
      refine .inr ⟨HP.out.2.1, by rw [HVn.out.1], ⟨?_, h2.holds.kept (hA4o _ a7 a6), h2.homes.kept (hA4o _ a9 a8), ?_, ?_, h2.nd, ?_⟩, k2.trans ⟨?_, ?_, ?_, ?_, ?_⟩⟩
      · rw [hA4o _ a4 a3]; exact h2.blk
      · exact mp2 A4 (.int .i64 n) _ hA4b (by have := (iF_set S.num vn n).1; rw [← HVn.out.1] at this ⊢; exact this) (by have := (iF_set S.num vn n).2; rw [← HVn.out.1] at this ⊢; exact this)
      · exact mp1 A4 (.int .i64 vn) _ hA4v (by have := (iF_set S.val n vn).1; rw [← HVn.out.1] at this ⊢; exact this) (by have := (iF_set S.val n vn).2; rw [← HVn.out.1] at this; exact this)
      · have h9 := HP.out
        have h8 := h2.few
        exact ⟨by show S.cnt + 1 ≤ 100000; omega, h8.2.1, h8.2.2.1, by show S.nn + 1 ≤ 100000; omega, by show S.nv + 1 ≤ 100000; omega⟩
      · rw [← hA4, ← hA3, ← hA2, ← hA1]; rfl
      · rw [← hA4, ← hA3, ← hA2, ← hA1]; rfl
      · rw [← hA4, ← hA3, ← hA2, ← hA1]; rfl
      · rw [← hA4, ← hA3, ← hA2, ← hA1]; simp [setBlock]
      · intro b hb hz
        simp only [Fx.Z, List.mem_cons, List.not_mem_nil, or_false, not_or] at hz
        exact hA4o b hz.2.2.2.2 hz.2.2.2.1
    have hk1 : A1.heap[X.kb]? = w2.heap[X.kb]? := hA1o _ a4
    have hk2 : A2.heap[X.kb]? = w2.heap[X.kb]? := hA2o _ a4
    have x8 : w2.drew.cell? ⟨X.kb, 8, none⟩ = some (.map (some X.nb)) := cell_at (i := 8) h2.blk rfl
    have x9 : w2.drew.cell? ⟨X.kb, 9, none⟩ = some (.map (some X.vb)) := cell_at (i := 9) h2.blk rfl
    have y8 : A1.cell? ⟨X.kb, 8, none⟩ = some (.map (some X.nb)) := cell_at (i := 8) (hk1.trans h2.blk) rfl
    have z8 : A2.cell? ⟨X.kb, 8, none⟩ = some (.map (some X.nb)) := cell_at (i := 8) (hk2.trans h2.blk) rfl
    have me1' : (Instr.mapEntry 135 (.map (some X.vb)) (.int .i64 n)).run Tryd.prog w2.drew = .ok (.tuple #[.int .i64 0, .int .i64 (ck : Int)]) A1 := me1
    have st1' : (Instr.entryStore 135 (.map (some X.vb)) (.int .i64 (ck : Int)) (.int .i64 vn)).run Tryd.prog A1 = .ok () A2 := st1
    have me2' : (Instr.mapEntry 134 (.map (some X.nb)) (.int .i64 vn)).run Tryd.prog A2 = .ok (.tuple #[.int .i64 0, .int .i64 (ck' : Int)]) A3 := me2
    have st2' : (Instr.entryStore 134 (.map (some X.nb)) (.int .i64 (ck' : Int)) (.int .i64 n)).run Tryd.prog A3 = .ok () A4 := st2
    clear h2 k2 a1 a2 a3 a4 a5 a6 a7 a8 a9 a10 hm1 b1 me1 es1 mp1 hA1 hA1b hA1o st1 hA2 hA2b hA2o hm2 b2 me2 es2 mp2 hA3 hA3b st2 hA4 hA4b hA4o hA4v hk1 hk2
    go_wp2_with fail
    go_region
    all_goals
      go_wp2
      exact HX.out
end Go.Proofs.YtjmbjpimabnohaaDoor.Mid
namespace Go.Proofs.YtjmbjpimabnohaaDoor.Mid
set_option linter.unusedVariables false
set_option linter.unusedSimpArgs false
open Go Go.RowKit
def NuR (S : Fs) (n v : Int) (S1 : Fs) : Prop := (S.val n = some v ∧ S1 = S) ∨ (S.val n = none ∧ v = (S.cnt : Int) + 1 ∧ S1 = S.newN n)
theorem nu_r {w : World} {X : Fx} {S : Fs} {n : Int} {e : Ending} {w' : World} (h : FcM w X S) (hp : NuP w X S n e w') : ∃ v S1, NuR S n v S1 ∧ e = .returned (.int .i64 v) ∧ FcM w' X S1 ∧ Ko X.Z w w' := by
  rcases hp with ⟨v, h1, h2, rfl⟩ | ⟨h1, h2, h3, h4⟩
  · exact ⟨v, S, .inl ⟨h1, rfl⟩, h2, h, Ko.refl _ _⟩
  · exact ⟨_, _, .inr ⟨h1, rfl, rfl⟩, h2, h3, h4⟩
def TyE (w : World) (X : Fx) (nt : Nat) : Prop := ∃ tb tc, X.tv = .slice (some ⟨tb, 0, none⟩) nt tc ∧ tb ∉ X.Z ∧ ∀ p, p < nt → w.cell? ⟨tb, p, none⟩ = some (.int .i64 1)
theorem TyE.on {w w' : World} {X : Fx} {nt : Nat} (h : TyE w X nt) (hk : Ko X.Z w w') : TyE w' X nt := by
  obtain ⟨tb, tc, h1, h2, h3⟩ := h
  refine ⟨tb, tc, h1, h2, fun p hp => ?_⟩
  have h4 := h3 p hp
  rw [← h4]
  exact World.cell?_of_block (a := ⟨tb, p, none⟩) (hk.blk tb (cell_lt h4) h2)
set_option maxRecDepth 100000 in
set_option maxHeartbeats 2000000 in
theorem first_106 (w : World) (X : Fx) (S : Fs) (nt p : Nat) (h : FcM w X S) (ht : TyE w X nt) (hp : p < nt) (hn : nt ≤ 1000000) (hc : S.cnt < 100000 ∧ S.nn < 100000 ∧ S.nv < 100000) (hf : S.num ((S.cnt : Int) + 1) = none) : Calls Tryd.prog 106 #[ptr X.kb, .int .i64 (p : Int)] w (NuP w X S 0) := by
  obtain ⟨tb, tc, h1, h2, h3⟩ := ht
  have c1 : w.cell? ⟨X.kb, 1, none⟩ = some (.int .i64 0) := cell_at (i := 1) h.blk rfl
  have c2 : w.cell? ⟨X.kb, 2, none⟩ = some (.slice (some ⟨tb, 0, none⟩) nt tc) := by rw [← h1]; exact cell_at (i := 2) h.blk rfl
  have c5 : w.cell? ⟨X.kb, 5, none⟩ = some (.bool true) := cell_at (i := 5) h.blk rfl
  have t1 := h3 p hp
  have HNu : Hid (Calls Tryd.prog 104 #[ptr X.kb, .int .i64 0] w (NuP w X S 0)) := number_104 w X S 0 h ⟨by omega, by omega⟩ hc hf
  have HE : Hid (∀ e w', NuP w X S 0 e w' → ∃ v, e = .returned (.int .i64 v)) := fun e w' hp => by
    obtain ⟨v, S1, _, h2, _⟩ := nu_r h hp
    exact ⟨v, h2⟩
  generalize NuP w X S 0 = G at HNu HE ⊢
  have hl9 : (p : Int) < (nt : Int) := by omega
  have hp0 : ¬ (p : Int) < 0 := by omega
  clear h h1 h2 h3
  go_enter Tryd.func106, Tryd.ntmps106
  go_wp2_with (first | (go_at_call 104; fail) | (go_at_call 105; fail))
  refine HNu.out.mono ?_
  intro e w' hp
  obtain ⟨v, rfl⟩ := HE.out e w' hp
  have HX : Hid (G (.returned (.int .i64 v)) w') := hp
  clear hp
  go_wp2
  exact HX.out
def Fs.setH (S : Fs) (p v : Int) : Fs := { S with hold := fun x => if x = p then some v else S.hold x, nh := if (S.hold p).isSome then S.nh else S.nh + 1 }
theorem iF_some (g : Int → Option Int) (x : Int) : (iF g (.int .i64 x)).isSome = (g x).isSome := by show ((g x).map _).isSome = _; simp
theorem FcM.hold {w : World} {X : Fx} {S : Fs} (h : FcM w X S) {p : Int} (v : Int) (hp : I64 p) (hn : S.nh < 100000) : ∃ w', (Instr.mapUpdate 69 (.map (some X.hb)) (.int .i64 p) (.int .i64 v)).run Tryd.prog w = .ok () w' ∧ FcM w' X (S.setH p v) ∧ Ko X.Z w w' := by
  obtain ⟨i1, i2⟩ := iF_set S.hold p v
  obtain ⟨w', hr, hm, hg⟩ := h.holds.put kdI und69 (by omega) (key_i p hp) (ikl p) (.int .i64 v) i1 i2
  obtain ⟨a1, a2, a3, a4, a5, a6, a7, a8, a9, a10⟩ := Fx.apart h.nd
  have ho : ∀ b, b < w.heap.size → b ≠ X.hb → w'.heap[b]? = w.heap[b]? := fun b hb hne => hg.block b hb (fun e => hne (by injection e))
  refine ⟨w', hr, ⟨?_, ?_, h.homes.kept (ho _ h.homes.lt a5.symm), h.nums.kept (ho _ h.nums.lt a6.symm), h.vals.kept (ho _ h.vals.lt a7.symm), h.nd, ?_⟩, ⟨hg.os, hg.tape, hg.output, hg.size, fun b hb hz => ho b hb (fun e => hz (by rw [e]; simp [Fx.Z]))⟩⟩
  · rw [ho _ (Array.getElem?_eq_some_iff.1 h.blk).1 a1]; exact h.blk
  · rw [iF_some] at hm
    exact hm
  · have h9 := h.few
    refine ⟨h9.1, ?_, h9.2.2⟩
    show (if (S.hold p).isSome then S.nh else S.nh + 1) ≤ 100000
    split <;> omega
def VaR (S : Fs) (p v : Int) (S1 : Fs) : Prop := (S.hold p = some v ∧ S1 = S) ∨ (S.hold p = none ∧ ∃ S0, NuR S 0 v S0 ∧ S1 = S0.setH p v)
def VaP (w : World) (X : Fx) (S : Fs) (p : Int) (e : Ending) (w' : World) : Prop := ∃ v S1, VaR S p v S1 ∧ e = .returned (.int .i64 v) ∧ FcM w' X S1 ∧ Ko X.Z w w'
structure Rm (S : Fs) : Prop where
  c : S.cnt < 50000
  h : S.nh < 50000
  m : S.nm < 50000
  n : S.nn < 50000
  v : S.nv < 50000
  f : ∀ x, (S.cnt : Int) < x → S.num x = none
theorem nu_nh {S S1 : Fs} {n v : Int} (h : NuR S n v S1) : S1.nh = S.nh := by rcases h with ⟨_, rfl⟩ | ⟨_, _, rfl⟩ <;> rfl
set_option maxRecDepth 100000 in
set_option maxHeartbeats 2000000 in
theorem value_96 (w : World) (X : Fx) (S : Fs) (nt p : Nat) (h : FcM w X S) (ht : TyE w X nt) (hp : p < nt) (hn : nt ≤ 1000000) (hr : Rm S) : Calls Tryd.prog 96 #[ptr X.kb, .int .i64 (p : Int)] w (VaP w X S (p : Int)) := by
  have c6 : w.cell? ⟨X.kb, 6, none⟩ = some (.map (some X.hb)) := cell_at (i := 6) h.blk rfl
  have hI : I64 (p : Int) := ⟨by omega, by omega⟩
  have lk := h.holds.look2 kdI und69 (zero3 w) (key_i (p : Int) hI)
  cases hv : S.hold (p : Int) with
  | some v =>
    have e1 : iF S.hold (.int .i64 (p : Int)) = some (.int .i64 v) := by show (S.hold (p : Int)).map _ = _; rw [hv]; rfl
    rw [e1] at lk
    have lk' : (Instr.lookup 69 (.map (some X.hb)) (.int .i64 (p : Int)) true).run Tryd.prog w = .ok (.tuple #[.int .i64 v, .bool true]) w := lk
    have HX : Hid (VaP w X S (p : Int) (.returned (.int .i64 v)) w) := ⟨v, S, .inl ⟨hv, rfl⟩, rfl, h, Ko.refl _ _⟩
    generalize VaP w X S (p : Int) = G at HX ⊢
    clear h ht lk e1 hv hr
    go_enter Tryd.func96, Tryd.ntmps96
    go_wp2_with (go_at_call 106; fail)
    exact HX.out
  | none =>
    have e1 : iF S.hold (.int .i64 (p : Int)) = none := by show (S.hold (p : Int)).map _ = _; rw [hv]; rfl
    rw [e1] at lk
    have lk' : (Instr.lookup 69 (.map (some X.hb)) (.int .i64 (p : Int)) true).run Tryd.prog w = .ok (.tuple #[.int .i64 0, .bool false]) w := lk
    have HF : Hid (Calls Tryd.prog 106 #[ptr X.kb, .int .i64 (p : Int)] w (fun e w1 => ∃ v S0, NuR S 0 v S0 ∧ e = .returned (.int .i64 v) ∧ FcM w1 X S0 ∧ Ko X.Z w w1)) := (first_106 w X S nt p h ht hp hn ⟨by have := hr.c; omega, by have := hr.n; omega, by have := hr.v; omega⟩ (hr.f _ (by omega))).mono (fun e w1 hp => nu_r h hp)
    have HP : Hid (S.hold (p : Int) = none ∧ S.nh < 50000 ∧ I64 (p : Int)) := ⟨hv, hr.h, hI⟩
    generalize hG : VaP w X S (p : Int) = G
    have HG : Hid (VaP w X S (p : Int) = G) := hG
    clear h ht lk e1 hv hr hG hI
    go_enter Tryd.func96, Tryd.ntmps96
    go_wp2_with (go_at_call 106; fail)
    clear c6 lk'
    refine HF.out.mono ?_
    rintro e w1 ⟨v, S0, r0, rfl, h1, k1⟩
    obtain ⟨w2, hrun, h2, k2⟩ := h1.hold v HP.out.2.2 (by rw [nu_nh r0]; have := HP.out.2.1; omega)
    have c6 : w1.cell? ⟨X.kb, 6, none⟩ = some (.map (some X.hb)) := cell_at (i := 6) h1.blk rfl
    have HX : Hid (G (.returned (.int .i64 v)) w2) := by
      show G _ _
      rw [← HG.out]
      exact ⟨v, _, .inr ⟨HP.out.1, S0, r0, rfl⟩, rfl, h2, k1.trans k2⟩
    clear r0 h1 k1 h2 k2
    go_wp2
    exact HX.out
def Fs.setM (S : Fs) (v p : Int) : Fs := { S with home := fun x => if x = v then some p else S.home x, nm := if (S.home v).isSome then S.nm else S.nm + 1 }
theorem FcM.homed {w : World} {X : Fx} {S : Fs} (h : FcM w X S) {v : Int} (p : Int) (hv : I64 v) (hn : S.nm < 100000) : ∃ w', (Instr.mapUpdate 69 (.map (some X.mb)) (.int .i64 v) (.int .i64 p)).run Tryd.prog w = .ok () w' ∧ FcM w' X (S.setM v p) ∧ Ko X.Z w w' := by
  obtain ⟨i1, i2⟩ := iF_set S.home v p
  obtain ⟨w', hr, hm, hg⟩ := h.homes.put kdI und69 (by omega) (key_i v hv) (ikl v) (.int .i64 p) i1 i2
  obtain ⟨a1, a2, a3, a4, a5, a6, a7, a8, a9, a10⟩ := Fx.apart h.nd
  have ho : ∀ b, b < w.heap.size → b ≠ X.mb → w'.heap[b]? = w.heap[b]? := fun b hb hne => hg.block b hb (fun e => hne (by injection e))
  refine ⟨w', hr, ⟨?_, h.holds.kept (ho _ h.holds.lt a5), ?_, h.nums.kept (ho _ h.nums.lt a8.symm), h.vals.kept (ho _ h.vals.lt a9.symm), h.nd, ?_⟩, ⟨hg.os, hg.tape, hg.output, hg.size, fun b hb hz => ho b hb (fun e => hz (by rw [e]; simp [Fx.Z]))⟩⟩
  · rw [ho _ (Array.getElem?_eq_some_iff.1 h.blk).1 a2]; exact h.blk
  · rw [iF_some] at hm
    exact hm
  · have h9 := h.few
    refine ⟨h9.1, h9.2.1, ?_, h9.2.2.2⟩
    show (if (S.home v).isSome then S.nm else S.nm + 1) ≤ 100000
    split <;> omega
theorem va_nm {S S1 : Fs} {p v : Int} (h : VaR S p v S1) : S1.nm = S.nm := by
  rcases h with ⟨_, rfl⟩ | ⟨_, S0, h0, rfl⟩
  · rfl
  · show S0.nm = S.nm
    rcases h0 with ⟨_, rfl⟩ | ⟨_, _, rfl⟩ <;> rfl
def HoR (S : Fs) (p r : Int) (S1 : Fs) : Prop := ∃ v S0, VaR S p v S0 ∧ ((S0.home v = some r ∧ S1 = S0) ∨ (S0.home v = none ∧ r = p ∧ S1 = S0.setM v p))
def HoP (w : World) (X : Fx) (S : Fs) (p : Int) (e : Ending) (w' : World) : Prop := ∃ r S1, HoR S p r S1 ∧ e = .returned (.int .i64 r) ∧ FcM w' X S1 ∧ Ko X.Z w w'
set_option maxRecDepth 100000 in
set_option maxHeartbeats 2000000 in
theorem home_93 (w : World) (X : Fx) (S : Fs) (nt p : Nat) (h : FcM w X S) (ht : TyE w X nt) (hp : p < nt) (hn : nt ≤ 1000000) (hr : Rm S) (hI : ∀ v S0, VaR S (p : Int) v S0 → I64 v) : Calls Tryd.prog 93 #[ptr X.kb, .int .i64 (p : Int)] w (HoP w X S (p : Int)) := by
  have HV : Hid (Calls Tryd.prog 96 #[ptr X.kb, .int .i64 (p : Int)] w (VaP w X S (p : Int))) := value_96 w X S nt p h ht hp hn hr
  have HP : Hid ((∀ v S0, VaR S (p : Int) v S0 → I64 v) ∧ S.nm < 50000) := ⟨hI, hr.m⟩
  generalize hG : HoP w X S (p : Int) = G
  have HG : Hid (HoP w X S (p : Int) = G) := hG
  clear h ht hr hI hG
  go_enter Tryd.func93, Tryd.ntmps93
  go_wp2_with (go_at_call 96; fail)
  refine HV.out.mono ?_
  rintro e w1 ⟨v, S0, r0, rfl, h1, k1⟩
  have hvI := HP.out.1 v S0 r0
  have c7 : w1.cell? ⟨X.kb, 7, none⟩ = some (.map (some X.mb)) := cell_at (i := 7) h1.blk rfl
  have lk := h1.homes.look2 kdI und69 (zero3 w1) (key_i v hvI)
  cases hv : S0.home v with
  | some r =>
    have e1 : iF S0.home (.int .i64 v) = some (.int .i64 r) := by show (S0.home v).map _ = _; rw [hv]; rfl
    rw [e1] at lk
    have lk' : (Instr.lookup 69 (.map (some X.mb)) (.int .i64 v) true).run Tryd.prog w1 = .ok (.tuple #[.int .i64 r, .bool true]) w1 := lk
    have HX : Hid (G (.returned (.int .i64 r)) w1) := by
      show G _ _
      rw [← HG.out]
      exact ⟨r, S0, ⟨v, S0, r0, .inl ⟨hv, rfl⟩⟩, rfl, h1, k1⟩
    clear r0 h1 k1 lk e1 hv hvI
    go_wp2
    exact HX.out
  | none =>
    have e1 : iF S0.home (.int .i64 v) = none := by show (S0.home v).map _ = _; rw [hv]; rfl
    rw [e1] at lk
    have lk' : (Instr.lookup 69 (.map (some X.mb)) (.int .i64 v) true).run Tryd.prog w1 = .ok (.tuple #[.int .i64 0, .bool false]) w1 := lk
    obtain ⟨w2, hrun, h2, k2⟩ := h1.homed (p : Int) hvI (by rw [va_nm r0]; have := HP.out.2; omega)
    have HX : Hid (G (.returned (.int .i64 (p : Int))) w2) := by
      show G _ _
      rw [← HG.out]
      exact ⟨(p : Int), _, ⟨v, S0, r0, .inr ⟨hv, rfl, rfl⟩⟩, rfl, h2, k1.trans k2⟩
    clear r0 h1 k1 lk e1 hv hvI h2 k2
    go_wp2
    exact HX.out
end Go.Proofs.YtjmbjpimabnohaaDoor.Mid
