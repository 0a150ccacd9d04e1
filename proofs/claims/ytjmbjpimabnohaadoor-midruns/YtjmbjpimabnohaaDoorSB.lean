/- The document's typed, walked. -/
import Derived.Test.YtjmbjpimabnohaaDoorSA
namespace Go.Proofs.YtjmbjpimabnohaaDoor.Mid
set_option linter.unusedVariables false
set_option linter.unusedSimpArgs false
open Go Go.RowKit

def typedB (F : Mf) (ps ts : List Int) : Bool := decide (ps.length = ts.length) && (ps.zip ts).all (fun p => isB F p.1 p.2)
theorem ty_1 {F : Mf} {ps ts : List Int} (h : ps.length ≠ ts.length) : typedB F ps ts = false := by unfold typedB; rw [decide_eq_false h]; rfl
theorem ty_2 {F : Mf} {ps ts : List Int} (h : ps.length = ts.length) : typedB F ps ts = (ps.zip ts).all (fun p => isB F p.1 p.2) := by unfold typedB; rw [decide_eq_true h]; rfl
theorem bel_n (w : World) (n : Nat) : Below w.heap.size w (w.drewN n) := ⟨rfl, rfl, rfl, Nat.le_refl _, fun _ _ => rfl⟩
theorem is_eq {F : Mf} {p k : Int} : isB F p k = (inB p 0 ((F.types.length : Int) - 1) && (F.types.getD p.toNat 0 == k)) := by
  unfold isB inB
  congr 1
  by_cases h : 0 ≤ p ∧ p < F.types.length
  · rw [decide_eq_true h, decide_eq_true (by omega)]
  · rw [decide_eq_false h, decide_eq_false (by omega)]
/-- A function as a value. -/
abbrev fnV (y : ByteArray) (pa : Int) (qt : Option Addr) (nt ct : Nat) (vs : Value) : Value := .agg #[.string y, .int .i64 pa, .slice qt nt ct, vs]
theorem ints_cell {w w' : World} {q : Option Addr} {l : List Int} {c : Nat} (h : IntsAt w (.slice q l.length c) l) (hb : Below w.heap.size w w') {i : Nat} {x : Int} (hx : l[i]? = some x) : ∃ g o, q = some ⟨g, o, none⟩ ∧ w'.cell? ⟨g, o + i, none⟩ = some (.int .i64 x) := by
  obtain ⟨q', c', e, _, _, h⟩ := h
  injection e with e1 e2 e3
  subst e1
  rcases h with h | ⟨g, o, e, h⟩
  · rw [h] at hx; simp at hx
  · exact ⟨g, o, e, by rw [hb.cell (p := ⟨g, o + i, none⟩) (cell_lt (h i x hx))]; exact h i x hx⟩
theorem ints_form {w : World} {v : Value} {l : List Int} (h : IntsAt w v l) : ∃ q c, v = .slice q l.length c ∧ IntsAt w (.slice q l.length c) l := by
  obtain ⟨q, c, rfl, h1⟩ := id h
  exact ⟨q, c, rfl, h⟩
set_option maxRecDepth 100000 in
set_option maxHeartbeats 4000000 in
theorem typed_any (w : World) (F : Mf) (y : ByteArray) (pa : Int) (qt : Option Addr) (ct : Nat) (qs : Option Addr) (ns cs : Nat) (vp vu : Value) (ps ts : List Int) (ht : IntsAt w (.slice qt F.types.length ct) F.types) (hp : IntsAt w vp ps) (hu : IntsAt w vu ts) :
    Calls Tryd.prog 38 #[fnV y pa qt F.types.length ct (.slice qs ns cs), vp, vu] w (LkP (typedB F ps ts) w) := by
  obtain ⟨qp, cp, rfl, hp⟩ := ints_form hp
  obtain ⟨qu, cu, rfl, hu⟩ := ints_form hu
  obtain ⟨nt, hnt⟩ : ∃ nt, nt = F.types.length := ⟨_, rfl⟩
  obtain ⟨np, hnp⟩ : ∃ np, np = ps.length := ⟨_, rfl⟩
  obtain ⟨nu, hnu⟩ : ∃ nu, nu = ts.length := ⟨_, rfl⟩
  have HN : Hid (nt = F.types.length ∧ np = ps.length ∧ nu = ts.length) := ⟨hnt, hnp, hnu⟩
  have hnt6 : nt ≤ 1000000 := by rw [hnt]; obtain ⟨_, _, _, h, _⟩ := ht; exact h
  have hnp6 : np ≤ 1000000 := by rw [hnp]; obtain ⟨_, _, _, h, _⟩ := hp; exact h
  have HT : Hid (IntsAt w (.slice qt F.types.length ct) F.types) := ht
  have HPs : Hid (IntsAt w (.slice qp ps.length cp) ps) := hp
  have HUs : Hid (IntsAt w (.slice qu ts.length cu) ts) := hu
  obtain ⟨W1, hW1⟩ : ∃ W1, W1 = w.alloc (.cells #[.string y, .int .i64 pa, .slice qt nt ct, .slice qs ns cs] 57) := ⟨_, rfl⟩
  have HB1 : Hid (Below w.heap.size w W1) := by rw [hW1]; exact al_bel2 _ _
  have k1 : W1.cell? ⟨w.heap.size, 2, none⟩ = some (.slice qt nt ct) := by rw [hW1]; exact cell_at (i := 2) (heap_alloc_last _ _) rfl
  have HZ1 : Hid (w.heap.size < W1.heap.size) := by rw [hW1]; show _ < _; simp
  generalize hG : LkP (typedB F ps ts) w = G
  have HG : Hid (LkP (typedB F ps ts) w = G) := hG
  have HFin : Hid (∀ W b, Below w.heap.size w W → typedB F ps ts = b → G (.returned (.bool b)) W) := fun W b hb hb2 => by rw [← HG.out, hb2]; exact ⟨rfl, hb⟩
  show Calls Tryd.prog 38 #[.agg #[.string y, .int .i64 pa, .slice qt F.types.length ct, .slice qs ns cs], .slice qp ps.length cp, .slice qu ts.length cu] w G
  rw [← hnt, ← hnp, ← hnu]
  clear ht hp hu hnt hnp hnu hG
  by_cases h1 : np = nu
  rotate_left
  · have HX : Hid (G (.returned (.bool false)) W1) := HFin.out W1 false HB1.out (ty_1 (by have := HN.out; omega))
    have t1 : ((np : Int) != (nu : Int)) = true := by rw [bne_iff_ne]; omega
    rw [hW1] at HX
    clear h1 hW1
    go_enter Tryd.func38, Tryd.ntmps38
    go_wp2
    exact HX.out
  subst h1
  have HTy : Hid (typedB F ps ts = (ps.zip ts).all (fun p => isB F p.1 p.2)) := ty_2 (by have := HN.out; omega)
  go_enter Tryd.func38, Tryd.ntmps38
  go_wp2_with fail
  rw [← hW1]
  clear hW1
  go_loopw [16] (fun v wr => ∃ i : Nat, i ≤ np ∧ v = .int .i64 i ∧ Hid (Below W1.heap.size W1 wr) ∧ Hid (((ps.zip ts).take i).all (fun p => isB F p.1 p.2) = true)) (fun v _ => np - (intOf v).toNat)
  case atStart => exact ⟨0, Nat.zero_le _, rfl, Below.refl _ _, (by show _ = _; simp)⟩
  case round =>
    obtain ⟨i, hin, rfl, HB, HA⟩ := hrel
    have HBw : Hid (Below w.heap.size w wr) := HB1.out.trans (HB.out.mono HB1.out.size)
    by_cases hlt2 : i < np
    · obtain ⟨x, hx⟩ : ∃ x, ps[i]? = some x := ⟨ps[i]'(by rw [← HN.out.2.1]; exact hlt2), List.getElem?_eq_getElem _⟩
      obtain ⟨t, ht⟩ : ∃ t, ts[i]? = some t := ⟨ts[i]'(by rw [← HN.out.2.2]; exact hlt2), List.getElem?_eq_getElem _⟩
      obtain ⟨g1, o1, rfl, c1⟩ := ints_cell HPs.out HBw.out hx
      obtain ⟨g2, o2, rfl, c2⟩ := ints_cell HUs.out HBw.out ht
      have kr : wr.cell? ⟨w.heap.size, 2, none⟩ = some (.slice qt nt ct) := by rw [HB.out.cell (p := ⟨w.heap.size, 2, none⟩) HZ1.out]; exact k1
      have HX : Hid ((ps.zip ts)[i]? = some (x, t)) := by show _ = _; rw [List.getElem?_zip_eq_some]; exact ⟨hx, ht⟩
      have hl9 : (i : Int) < (np : Int) := by omega
      have HI : Hid (I64 x) := by obtain ⟨_, _, _, _, h, _⟩ := HPs.out; exact h x (List.mem_of_getElem? hx)
      have HBn : Hid (∀ n, Below W1.heap.size W1 (wr.drewN n)) := fun n => HB.out.trans ((bel_n wr n).mono HB.out.size)
      have HBwn : Hid (∀ n, Below w.heap.size w (wr.drewN n)) := fun n => HBw.out.trans ((bel_n wr n).mono HBw.out.size)
      have HC : Hid (∀ n b, inB x 0 ((nt : Int) - 1) = b → Calls Tryd.prog 25 #[.int .i64 x, .int .i64 0, .int .i64 ((nt : Int) - 1)] (wr.drewN n) (fun e w' => e = .returned (.bool b) ∧ w' = wr.drewN n)) := fun n b hb => by subst hb; exact in_any _ _ _ _
      clear hx ht
      cases hb : inB x 0 ((nt : Int) - 1) with
      | false =>
        have HE : Hid (∀ n, G (.returned (.bool false)) (wr.drewN n)) := fun n => HFin.out _ false (HBwn.out n) (by rw [HTy.out, all_bad2 HX.out (by show isB F x t = false; rw [is_eq, ← HN.out.1, hb]; rfl)])
        have HIb : Hid (inB x 0 ((nt : Int) - 1) = false) := hb
        clear hb
        go_wp2_with fail
        go_quiet ((go_at_call 25; exact Calls.quiet_of_same (HC.out _ _ HIb.out)))
        go_wp2
        exact HE.out _
      | true =>
        have HIb : Hid (inB x 0 ((nt : Int) - 1) = true) := hb
        obtain ⟨xn, hxn, hxl⟩ : ∃ xn : Nat, x = xn ∧ xn < nt := by
          unfold inB at hb
          simp at hb
          exact ⟨x.toNat, by omega, by omega⟩
        subst hxn
        obtain ⟨ty, hty⟩ : ∃ ty, F.types[xn]? = some ty := ⟨F.types[xn]'(by rw [← HN.out.1]; exact hxl), List.getElem?_eq_getElem _⟩
        have HIs : Hid (isB F (xn : Int) t = (ty == t)) := is_3 hty
        obtain ⟨g3, o3, rfl, c3⟩ := ints_cell HT.out HBw.out hty
        have hl8 : (xn : Int) < (nt : Int) := by omega
        clear hb hty
        by_cases he : ty = t
        · subst he
          have HA2 : Hid (((ps.zip ts).take (i + 1)).all (fun p => isB F p.1 p.2) = true) := by show _ = _; rw [take_snoc HX.out, List.all_append, HA.out]; simp [HIs.out]
          go_wp2_with fail
          go_quiet ((go_at_call 25; exact Calls.quiet_of_same (HC.out _ _ HIb.out)))
          go_wp2
          exact ⟨⟨i + 1, by omega, by go_num, HBn.out _, HA2⟩, by simp [intOf]; omega⟩
        · have HE : Hid (∀ n, G (.returned (.bool false)) (wr.drewN n)) := fun n => HFin.out _ false (HBwn.out n) (by rw [HTy.out, all_bad2 HX.out (by show isB F (xn : Int) t = false; rw [HIs.out]; simpa using he)])
          have t1 : (ty != t) = true := by simpa using he
          clear he
          go_wp2_with fail
          go_quiet ((go_at_call 25; exact Calls.quiet_of_same (HC.out _ _ HIb.out)))
          go_wp2
          exact HE.out _
    · have hin2 : i = np := by omega
      have HX : Hid (G (.returned (.bool true)) wr) := HFin.out wr true HBw.out (by
        have := HA.out
        rw [hin2, List.take_of_length_le (by rw [List.length_zip]; have := HN.out; omega)] at this
        rw [HTy.out, this])
      subst hin2
      go_wp2
      exact HX.out
end Go.Proofs.YtjmbjpimabnohaaDoor.Mid
