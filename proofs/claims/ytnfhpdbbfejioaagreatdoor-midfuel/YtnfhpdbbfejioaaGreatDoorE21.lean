/- CL CM CN GY -/
import Derived.Test.YtnfhpdbbfejioaaGreatDoorE20
import Derived.BigQuiet
namespace Go.Proofs.YtnfhpdbbfejioaaGreatDoor
set_option linter.unusedVariables false
set_option linter.unusedSimpArgs false
set_option maxRecDepth 100000
set_option maxHeartbeats 16000000
open Go Go.RowKit
theorem und63 : Tryz.prog.underlying 92 = some (.map 9 3) := by kernel_rfl
theorem zero3 (w : World) : (zeroValue 3).run Tryz.prog w = .ok (.int .i64 0) w := Tryz.zeroValue3 w
def PlAt (w : World) (b n : Nat) (ps : List (By × Nat)) : Prop := w.ownsMap Tryz.prog 9 (plainElem (H := Unit) Tryz.prog 3) b n (plD ps)
theorem PlAt.below {w w' : World} {b n B : Nat} {ps : List (By × Nat)} (h : PlAt w b n ps) (hb : Below B w w') (hB : b < B) : PlAt w' b n ps := by
 obtain ⟨es, clock, h1, h2⟩ := h
 exact ⟨es, clock, by rw [hb.block b hB]; exact h1, h2⟩
theorem pl_put {w : World} {b n : Nat} {ps : List (By × Nat)} (h : PlAt w b n ps) (hn : n < 100) (x : ByteArray) (hx : x.size ≤ 1000000) (i : Nat) (hi : i ≤ 100) :
  ∃ w', (Instr.mapUpdate 92 (.map (some b)) (.string x) (.int .i64 (i : Int))).run Tryz.prog w = .ok () w' ∧ PlAt w' b (n + 1) ((x.data.toList, i) :: ps) ∧ w.grownBy w' (some b) := by
 have hK : keyOf Tryz.prog 9 (.string x) = some (.string x.data.toList) := Go.WideMaps.keyOf_string_mk Tryz.underlying9 (by unfold maxLen; omega)
 have hV : plainElem (H := Unit) Tryz.prog 3 (.int .i64 (i : Int)) = some (.lit (.int .i64 (i : Int)), []) := plainElem_int Tryz.underlying3 (by simp [Lit.wf, IntKind.min, IntKind.max, IntKind.signed, IntKind.bits]; omega)
 exact World.ownsMap.update h (Maps.string_keyed Tryz.underlying9) und63 (by unfold maxLen; omega) hK hV
theorem pl_has (nm : By) : ∀ ps, Maps.has (plD ps) (.string nm) = (ps.lookup nm).isSome
 | [] => by
  rw [Maps.has_false_of_atKey (fun z => by rw [plD_at]; rfl)]
  rfl
 |(x, i) :: ps => by
  by_cases h : nm = x
  ·subst h
   rw [plD, Maps.has_put_same (plD_map ps) (by trivial)]
   simp [List.lookup]
  ·rw [plD, Maps.has_put_other (key_ne h), pl_has nm ps]
   have : (nm == x) = false := by simpa using h
   simp [List.lookup, this]
theorem pl_look {w : World} {b n : Nat} {ps : List (By × Nat)} (h : PlAt w b n ps) (x : ByteArray) (hx : x.size ≤ 1000000) :
  (Instr.lookup 92 (.map (some b)) (.string x) true).run Tryz.prog w = .ok (.tuple #[.int .i64 (((ps.lookup x.data.toList).getD 0 : Nat) : Int), .bool (ps.lookup x.data.toList).isSome]) w := by
 have hK : keyOf Tryz.prog 9 (.string x) = some (.string x.data.toList) := Go.WideMaps.keyOf_string_mk Tryz.underlying9 (by unfold maxLen; omega)
 have h0 : plainElem (H := Unit) Tryz.prog 3 (.int .i64 0) = some (.lit (.int .i64 0), []) := plainElem_int Tryz.underlying3 (by decide)
 obtain ⟨v, qs, hrun, hR⟩ := World.ownsMap.look_ok h (Maps.string_keyed Tryz.underlying9) und63 (zero3 w) h0 hK
 rw [hrun, pl_has]
 rw [plD_at] at hR
 have hv : v = .int .i64 (((ps.lookup x.data.toList).getD 0 : Nat) : Int) := by
  obtain ⟨a, rfl, h1, _⟩ := plainElem_int_inv Tryz.underlying3 hR
  have h1 := congrArg Prod.fst h1
  clear hR hrun hK h0 h
  cases hl : ps.lookup x.data.toList with
  | none =>
   rw [hl] at h1
   have h2 : (DataW.lit (.int .i64 0) : DataW Unit) = .lit (.int .i64 a) := h1
   simp only [DataW.lit.injEq, Lit.int.injEq, true_and] at h2
   rw [← h2]
   rfl
  | some i =>
   rw [hl] at h1
   have h2 : (DataW.lit (.int .i64 (i : Int)) : DataW Unit) = .lit (.int .i64 a) := h1
   simp only [DataW.lit.injEq, Lit.int.injEq, true_and] at h2
   rw [← h2]
   rfl
 rw [hv]
def plF : Nat → List Fun → List (By × Nat) → List (By × Nat)
 | _, [], ps => ps
 | i, F :: L, ps => plF (i + 1) L ((F.nm, i) :: ps)
theorem plF_snoc : ∀ (L : List Fun) (i : Nat) (ps : List (By × Nat)) (F : Fun), plF i (L ++ [F]) ps = (F.nm, i + L.length) :: plF i L ps
 | [], i, ps, F => rfl
 | G :: L, i, ps, F => by
  show plF (i + 1) (L ++ [F]) _ = _
  rw [plF_snoc L (i + 1) _ F]
  show _ = (F.nm, i + (L.length + 1)) :: _
  rw [show i + 1 + L.length = i + (L.length + 1) by omega]
  rfl
theorem plF_none (nm : By) : ∀ (L : List Fun) (i : Nat) (ps : List (By × Nat)), (∀ F ∈ L, F.nm ≠ nm) → (plF i L ps).lookup nm = ps.lookup nm
 | [], _, _, _ => rfl
 | F :: L, i, ps, h => by
  show (plF (i + 1) L ((F.nm, i) :: ps)).lookup nm = _
  rw [plF_none nm L (i + 1) _ (fun G hG => h G (by simp [hG]))]
  have : (nm == F.nm) = false := by
   simp only [beq_eq_false_iff_ne, ne_eq]
   exact fun e => h F (by simp) e.symm
  simp [List.lookup, this]
theorem plF_look (nm : By) : ∀ (L : List Fun) (i : Nat) (ps : List (By × Nat)), (L.map (·.nm)).Nodup → (∀ F ∈ L, ps.lookup F.nm = none) → (plF i L ps).lookup nm = (match ixF nm L with | some j => some (i + j) | none => ps.lookup nm)
 | [], _, _, _, _ => rfl
 | F :: L, i, ps, hn, hp => by
  rw [List.map_cons, List.nodup_cons] at hn
  show (plF (i + 1) L ((F.nm, i) :: ps)).lookup nm = _
  rw [ixF]
  by_cases h : F.nm = nm
  ·rw [if_pos h, plF_none nm L (i + 1) _ (fun G hG e => hn.1 (List.mem_map.2 ⟨G, hG, by rw [e, h]⟩))]
   subst h
   simp [List.lookup]
  ·rw [if_neg h, plF_look nm L (i + 1) _ hn.2 (fun G hG => by
    have : (G.nm == F.nm) = false := by
     simp only [beq_eq_false_iff_ne, ne_eq]
     exact fun e => hn.1 (List.mem_map.2 ⟨G, hG, e⟩)
    rw [List.lookup_cons, this]
    exact hp G (by simp [hG]))]
   cases ixF nm L with
   | none =>
    have : (nm == F.nm) = false := by
     simp only [beq_eq_false_iff_ne, ne_eq]
     exact fun e => h e.symm
    simp [List.lookup, this]
   | some j =>
    show some (i + 1 + j) = some (i + (j + 1))
    rw [show i + 1 + j = i + (j + 1) by omega]
def PlP (l : List Fun) (n : Nat) (w : World) (e : Ending) (w' : World) : Prop := ((twice [] l = .ok () ∧ e = .returned (.map (some w.heap.size)) ∧ PlAt w' w.heap.size n (plF 0 l [])) ∨ (∃ k a, twice [] l = .error (k, a) ∧ ThrewI k a e w')) ∧ Below w.heap.size w w'
theorem places_any {S : Nat → Prop} (w : World) (v : Value) (n : Nat) (cs : List Value) (l : List Fun) (hr : RowS S w 86 4 v n cs) (hn : n = l.length) (hn12 : n ≤ 12) (hnm : ∀ F ∈ l, F.nm.length ≤ 1000000)
  (ho : ∀ (i : Nat) (f : Fun), l[i]? = some f → ∃ (vp vb : Value) (nb : Nat) (bcs : List Value), RowS S w 144 2 vp f.ps.length (psC f.ps) ∧ RowS S w 147 7 vb nb bcs ∧ StAt S w f.body bcs ∧ cs[i * 4]? = some (str f.nm) ∧ cs[i * 4 + 1]? = some (.int .i64 f.at') ∧ cs[i * 4 + 2]? = some vp ∧ cs[i * 4 + 3]? = some vb) :
  Calls Tryz.prog 39 #[v] w (PlP l n w) := by
 have hmm : ∀ W : World, (Instr.makeMap 92 (some (.int .i64 (n : Int)))).run Tryz.prog W = .ok (.map (some W.heap.size)) (W.alloc (.map #[] 0)) := fun W => by simp [Instr.makeMap, go_sem]
 obtain ⟨q, c, rfl⟩ := zd hr.1
 have m0 : PlAt (w.alloc (.map #[] 0)) w.heap.size 0 [] := World.ownsMap_made w Tryz.prog 9 (plainElem (H := Unit) Tryz.prog 3)
 have HM0 : Hid (PlAt (w.alloc (.map #[] 0)) w.heap.size 0 []) := m0
 have HR : Hid (RowS S w 86 4 (.slice q n c) n cs) := hr
 have HO : Hid (∀ (i : Nat) (f : Fun), l[i]? = some f → ∃ (vp vb : Value) (nb : Nat) (bcs : List Value), RowS S w 144 2 vp f.ps.length (psC f.ps) ∧ RowS S w 147 7 vb nb bcs ∧ StAt S w f.body bcs ∧ cs[i * 4]? = some (str f.nm) ∧ cs[i * 4 + 1]? = some (.int .i64 f.at') ∧ cs[i * 4 + 2]? = some vp ∧ cs[i * 4 + 3]? = some vb) := ho
 have HN : Hid (n = l.length ∧ ∀ F ∈ l, F.nm.length ≤ 1000000) := ⟨hn, hnm⟩
 have HG0 : Hid (∀ e w', PlP l n w e w' → PlP l n w e w') := fun _ _ h => h
 generalize hG : PlP l n w = G at *
 clear HG0
 have HG0 : Hid (∀ e w', PlP l n w e w' → G e w') := fun e w' h => by rw [← hG]; exact h
 clear hr ho hn hnm m0 hG
 go_enter Tryz.func39, Tryz.ntmps39
 go_wp2_with fail
 go_loopw [13] (fun v wr => ∃ i : Nat, i ≤ n ∧ v = .int .i64 i ∧ Hid (∃ ns, twice [] l = twice ns (l.drop i) ∧ ∀ nm, ns.contains nm = ((plF 0 (l.take i) []).lookup nm).isSome) ∧ Hid (PlAt wr w.heap.size i (plF 0 (l.take i) [])) ∧ Hid (Below w.heap.size w wr)) (fun v _ => n - (intOf v).toNat)
 case atStart => exact ⟨0, Nat.zero_le _, rfl, ⟨[], by simp, fun nm => by simp [plF]⟩, HM0.out, (Below.refl _ _).alloc (Nat.le_refl _) _⟩
 case round =>
  obtain ⟨i, hin, rfl, HI, HP, HB⟩ := hrel
  by_cases hlt : i < n
  ·obtain ⟨g, cap, e, -, -⟩ := HR.out.1.form (by omega)
   injection e with e1 e2 e3
   subst e1
   clear e2 e3
   obtain ⟨F, hF⟩ : ∃ F, l[i]? = some F := ⟨l[i]'(by have := HN.out.1; omega), List.getElem?_eq_getElem (by have := HN.out.1; omega)⟩
   obtain ⟨vp, vb, nb, bcs, r1, r2, r3, a0, a1, a2, a3⟩ := HO.out i F hF
   obtain ⟨qp, cp, rfl⟩ := zd r1.1
   obtain ⟨qb, cb, rfl⟩ := zd r2.1
   obtain ⟨y, hy, hyt⟩ := zM F.nm
   rw [hy] at a0
   have hysz : y.size ≤ 1000000 := by rw [← j_len, hyt]; exact HN.out.2 F (List.mem_of_getElem? hF)
   have hrow := HR.out.1.kept (qS HB.out) (.inr (by simp [Value.ownBlock]))
   have hc : ∀ (j : Nat) (u : Value), cs[i * 4 + j]? = some u → wr.cell? ⟨g, i * 4 + j, none⟩ = some u := fun j u hu => by
    have := hrow.cells (g := g) rfl (i * 4 + j) u hu
    rw [zO] at this
    exact this
   have q0 := hc 0 _ a0
   have q1 := hc 1 _ a1
   have q2 := hc 2 _ a2
   have q3 := hc 3 _ a3
   rw [Nat.add_zero] at q0
   have htk : l.take (i + 1) = l.take i ++ [F] := by rw [List.take_add_one, hF]; rfl
   have hpl : plF 0 (l.take (i + 1)) [] = (y.data.toList, i) :: plF 0 (l.take i) [] := by
    rw [htk, plF_snoc, hyt, List.length_take, Nat.min_eq_left (by have := HN.out.1; omega)]
    simp
   have hdr : l.drop i = F :: l.drop (i + 1) := by
    rw [List.drop_eq_getElem_cons (by have := HN.out.1; omega)]
    congr 1
    have := List.getElem?_eq_getElem (l := l) (i := i) (by have := HN.out.1; omega)
    rw [hF] at this
    exact (Option.some.inj this).symm
   obtain ⟨ns, hns1, hns2⟩ := HI.out
   rw [hdr, twice, hns2 F.nm, ← hyt] at hns1
   obtain ⟨aF, haF⟩ : ∃ aF, aF = F.at' := ⟨_, rfl⟩
   rw [← haF] at q1 hns1
   generalize F.ps.length = np at *
   have hbW : Below wr.heap.size wr (wr.alloc (.cells #[.string y, .int .i64 aF, .slice qp np cp, .slice qb nb cb] 86)) := (Below.refl _ _).alloc (Nat.le_refl _) _
   have hMlt : w.heap.size < wr.heap.size := World.ownsMap.lt HP.out
   have hPW : PlAt (wr.alloc (.cells #[.string y, .int .i64 aF, .slice qp np cp, .slice qb nb cb] 86)) w.heap.size i (plF 0 (l.take i) []) := HP.out.below hbW hMlt
   have hlook := pl_look hPW y hysz
   have HBW : Hid (Below w.heap.size w (wr.alloc (.cells #[.string y, .int .i64 aF, .slice qp np cp, .slice qb nb cb] 86))) := HB.out.trans (hbW.mono HB.out.size)
   cases hl : (plF 0 (l.take i) []).lookup y.data.toList with
   | some j =>
    rw [hl] at hlook hns1
    have hlook' : (Instr.lookup 92 (.map (some w.heap.size)) (.string y) true).run Tryz.prog (wr.alloc (.cells #[.string y, .int .i64 aF, .slice qp np cp, .slice qb nb cb] 86)) = .ok (.tuple #[.int .i64 (j : Int), .bool true]) (wr.alloc (.cells #[.string y, .int .i64 aF, .slice qp np cp, .slice qb nb cb] 86)) := hlook
    have HT : Hid (twice [] l = .error (9, aF)) := by show _ = _; rw [hns1]; rfl
    clear hrow hc a0 a1 a2 a3 hF r1 r2 r3 hy hyt htk hpl hdr hns1 hns2 haF hlook hPW hbW hl HI
    go_wp2_with (go_at_call 64; fail)
    refine (qV 9 aF _).mono ?_
    rintro e w2 ⟨⟨b2, rfl, hb2⟩, hw⟩
    exact ⟨rfl, HG0.out _ _ ⟨.inr ⟨9, aF, HT.out, b2, rfl, hb2⟩, HBW.out.trans (hw.mono HBW.out.size)⟩⟩
   | none =>
    rw [hl] at hlook hns1
    have hlook' : (Instr.lookup 92 (.map (some w.heap.size)) (.string y) true).run Tryz.prog (wr.alloc (.cells #[.string y, .int .i64 aF, .slice qp np cp, .slice qb nb cb] 86)) = .ok (.tuple #[.int .i64 0, .bool false]) (wr.alloc (.cells #[.string y, .int .i64 aF, .slice qp np cp, .slice qb nb cb] 86)) := hlook
    obtain ⟨w2, hup, hp2, hg2⟩ := pl_put hPW (by omega) y hysz i (by omega)
    have HI2 : Hid (∃ ns, twice [] l = twice ns (l.drop (i + 1)) ∧ ∀ nm, ns.contains nm = ((plF 0 (l.take (i + 1)) []).lookup nm).isSome) := by
     refine ⟨F.nm :: ns, by rw [hns1, hyt]; rfl, fun nm => ?_⟩
     rw [hpl, List.contains_cons, List.lookup_cons, hns2 nm, hyt]
     cases nm == F.nm <;> simp
    have HP2 : Hid (PlAt w2 w.heap.size (i + 1) (plF 0 (l.take (i + 1)) [])) := by show PlAt _ _ _ _; rw [hpl]; exact hp2
    have HB2 : Hid (Below w.heap.size w w2) := HBW.out.grown hg2 HBW.out.size (fun k e => by injection e with e; omega)
    clear hrow hc a0 a1 a2 a3 hF r1 r2 r3 hy hyt htk hpl hdr hns1 hns2 haF hlook hPW hbW hl HI hp2 hg2
    go_wp2
    exact ⟨⟨i + 1, by omega, by go_num, HI2, HP2, HB2⟩, by simp [intOf]; omega⟩
  ·obtain rfl : i = n := by omega
   have HEnd : Hid (G (.returned (.map (some w.heap.size))) wr) := HG0.out _ _ ⟨.inl ⟨(by
    obtain ⟨ns, h1, _⟩ := HI.out
    rw [h1, List.drop_of_length_le (by have := HN.out.1; omega)]
    rfl), rfl, (by have := HP.out; rw [List.take_of_length_le (by have := HN.out.1; omega)] at this; exact this)⟩, HB.out⟩
   clear hlt
   go_wp2
   exact HEnd.out
theorem found_idle (p : Addr) (w : World) :
  CallsD Tryz.prog 38 #[.pointer (some p)] .returning w fun e u' w' => e = .returned (.tuple #[]) ∧ u' = .returning ∧ w' = w := by
 have h1 := eq_nil
 refine callsD_of_wpS Tryz.func38 rfl fun c₀ cs hu => ?_
 apply wpS_seq
 apply wpS_region
 simp [wpOpsS, go_sem, recoverD, hu, Tryz.ntmps38, Exit.thenS]
 apply wpS_seq
 apply wpS_seq
 apply wpS_region
 simp [wpOpsS, go_sem, Exit.thenS, h1]
 refine wpS_cond (t := true) (by simp [Act.eval, Array.replicate]) ?_
 simp only [if_true]
 refine wpS_of_wp (wp_ret ?_)
 cases c₀
 simp_all [bodyPostS, results, Tryz.results38, Exit.thenS]
theorem found_threw (b1 a : Nat) (x : Value) (w : World) (h1 : w.cell? ⟨b1, 0, none⟩ = some x) (f1 : w.frozen? ⟨b1, 0, none⟩ = false) :
  CallsD Tryz.prog 38 #[.pointer (some ⟨b1, 0, none⟩)] (.panicking [{ v := .iface 72 (.pointer (some ⟨a, 0, none⟩)), recovered := false }]) w fun e u' w' => e = .returned (.tuple #[]) ∧ u' = .panicking [{ v := .iface 72 (.pointer (some ⟨a, 0, none⟩)), recovered := true }] ∧ w' = w.setCell ⟨b1, 0, none⟩ (.iface 72 (.pointer (some ⟨a, 0, none⟩))) := by
 have e1 := eq_some
 have e2 := as_at
 refine callsD_of_wpS Tryz.func38 rfl fun c₀ cs hu => ?_
 apply wpS_seq
 apply wpS_region
 simp [wpOpsS, go_sem, recoverD, hu, Tryz.ntmps38, Exit.thenS]
 apply wpS_seq
 apply wpS_seq
 apply wpS_region
 simp [wpOpsS, go_sem, Exit.thenS, e1]
 refine wpS_cond (t := false) (by simp [Act.eval, Array.replicate]) ?_
 simp only [Bool.false_eq_true, if_false]
 refine wpS_of_wp (wp_skip ?_)
 simp only [Exit.thenS]
 apply wpS_seq
 apply wpS_region
 simp [wpOpsS, go_sem, Exit.thenS, e2]
 apply wpS_seq
 apply wpS_seq
 apply wpS_region
 simp [wpOpsS, go_sem, Exit.thenS]
 refine wpS_cond (t := false) (by simp [Act.eval, Array.replicate]) ?_
 simp only [Bool.false_eq_true, if_false]
 refine wpS_of_wp (wp_skip ?_)
 simp only [Exit.thenS]
 apply wpS_region
 simp [wpOpsS, go_sem, h1, f1, bodyPostS, results, Tryz.results38]
theorem res13 (tmps : Array Value) (W : World) (b1 : Nat) (x : Value) (hp1 : tmps[2]?.getD undef = .pointer (some ⟨b1, 0, none⟩)) (h1 : W.cell? ⟨b1, 0, none⟩ = some x) :
  (results Tryz.f16 tmps).run Tryz.prog W = .ok x W := by
 simp [results, Tryz.results16, go_sem, hp1, h1]
structure LiS (S : Nat → Prop) (w : World) (v : Value) (l : List Fun) : Prop where
 row : ∃ cs, RowS S w 86 4 v l.length cs ∧ ∀ (i : Nat) (f : Fun), l[i]? = some f → ∃ (vp vb : Value) (nb : Nat) (bcs : List Value), RowS S w 144 2 vp f.ps.length (psC f.ps) ∧ RowS S w 147 7 vb nb bcs ∧ StAt S w f.body bcs ∧ cs[i * 4]? = some (str f.nm) ∧ cs[i * 4 + 1]? = some (.int .i64 f.at') ∧ cs[i * 4 + 2]? = some vp ∧ cs[i * 4 + 3]? = some vb
theorem LiS.kept {S : Nat → Prop} {w w' : World} {v : Value} {l : List Fun} (h : LiS S w v l) (hk : Keeps S w w') : LiS S w' v l := by
 obtain ⟨cs, h1, h2⟩ := h.row
 refine ⟨cs, h1.kept hk (by decide), fun i f hf => ?_⟩
 obtain ⟨vp, vb, nb, bcs, a1, a2, a3, a4⟩ := h2 i f hf
 exact ⟨vp, vb, nb, bcs, a1.kept hk (by decide), a2.kept hk (by decide), StAt.kept hk _ _ a3, a4⟩
theorem LiS.mono {S S' : Nat → Prop} {w : World} {v : Value} {l : List Fun} (h : LiS S w v l) (hm : ∀ b, S b → b < w.heap.size → S' b) : LiS S' w v l := by
 obtain ⟨cs, h1, h2⟩ := h.row
 refine ⟨cs, h1.mono hm, fun i f hf => ?_⟩
 obtain ⟨vp, vb, nb, bcs, a1, a2, a3, a4⟩ := h2 i f hf
 exact ⟨vp, vb, nb, bcs, a1.mono hm, a2.mono hm, StAt.mono hm _ _ a3, a4⟩
theorem fx_of {w : World} {C M : Nat} {v : Value} {l : List Fun} (hl : LiS (Lo C) w v l) (hC : C ≤ w.heap.size) (hM : M < C) (hp : PlAt w M l.length (plF 0 l [])) (hn : (l.map (·.nm)).Nodup) (h12 : l.length ≤ 12) (hps : ∀ F ∈ l, F.ps.length ≤ 1000000) : FxS w C v (.map (some M)) l := by
 refine ⟨hC, fun w' hb i F hF => ?_, fun w' hb nm hnm => ?_, h12⟩
 ·obtain ⟨cs, h1, h2⟩ := (hl.kept (zi hb)).row
  obtain ⟨vp, vb, nb, bcs, a1, a2, a3, a4, a5, a6, a7⟩ := h2 i F hF
  have hlt : i < l.length := (List.getElem?_eq_some_iff.1 hF).1
  obtain ⟨g, cap, e, -, -⟩ := h1.1.form (by omega)
  subst e
  refine ⟨g, cap, vp, rfl, ?_, a1.1, hps F (List.mem_of_getElem? hF)⟩
  have := h1.1.cells (g := g) rfl (i * 4 + 2) vp a6
  rw [zO] at this
  exact this
 ·have hp' := hp.below hb hM
  rw [pl_look hp' nm hnm, plF_look nm.data.toList l 0 [] hn (fun F _ => rfl)]
  cases ixF nm.data.toList l with
  | none => rfl
  | some j => simp
def ChP (r : X Bool) (w : World) (e : Ending) (w' : World) : Prop := ((r = .ok true ∧ e = .returned .nilIface) ∨ (r = .ok false ∧ e = .returned (.iface 46 (.int .i64 8))) ∨ (∃ k a b, r = .error (k, a) ∧ e = .returned (.iface 72 (.pointer (some ⟨b, 0, none⟩))) ∧ w'.heap[b]? = some (.cells #[.int .i64 k, .int .i64 a] 139))) ∧ Below w.heap.size w w'
theorem check_any (w : World) (v : Value) (l : List Fun) (hl : LiS (Lo w.heap.size) w v l) (h12 : l.length ≤ 12) (hg : ∀ F ∈ l, GoodF F ∧ RF F) :
  Calls Tryz.prog 16 #[v] w (ChP (chk l) w) := by
 have hmf : ∀ (fn : Fn) (first cap : Array Value) (w : World), (Instr.makeFunc fn first cap).run Tryz.prog w = .ok (.func fn first cap) w := fun _ _ _ _ => rfl
 obtain ⟨cs0, hr0, ho0⟩ := hl.row
 obtain ⟨q, c, rfl⟩ := zd hr0.1
 obtain ⟨W0, hW0⟩ : ∃ W0, W0 = w.alloc (.cells #[.nilIface] 34) := ⟨_, rfl⟩
 have hb0 : Below w.heap.size w W0 := by rw [hW0]; exact (Below.refl _ _).alloc (Nat.le_refl _) _
 have hz0 : W0.heap.size = w.heap.size + 1 := by rw [hW0]; simp
 have he0 : W0.heap[w.heap.size]? = some (.cells #[.nilIface] 34) := by rw [hW0]; exact heap_alloc_last w _
 have hl0 : LiS (Lo W0.heap.size) W0 (.slice q l.length c) l := (hl.kept (zi hb0)).mono (fun b hb _ => by have : b < w.heap.size := hb; show b < W0.heap.size; omega)
 obtain ⟨cs, hr, ho⟩ := hl0.row
 have hnm : ∀ F ∈ l, F.nm.length ≤ 1000000 := fun F hF => by have := (hg F hF).2.2.1.2.2.2.2; omega
 have HPl : Hid (Calls Tryz.prog 39 #[.slice q l.length c] W0 (PlP l l.length W0)) := places_any W0 _ l.length cs l hr rfl h12 hnm ho
 have HL0 : Hid (LiS (Lo W0.heap.size) W0 (.slice q l.length c) l) := hl0
 have HB0 : Hid (Below w.heap.size w W0) := hb0
 have HZ0 : Hid (W0.heap.size = w.heap.size + 1) := hz0
 have HE0 : Hid (W0.heap[w.heap.size]? = some (.cells #[.nilIface] 34)) := he0
 have HGd : Hid (∀ F ∈ l, GoodF F ∧ RF F) := hg
 have HG0 : Hid (∀ e w', ChP (chk l) w e w' → ChP (chk l) w e w') := fun _ _ h => h
 generalize hG : ChP (chk l) w = G at *
 clear HG0
 have HG0 : Hid (∀ e w', ChP (chk l) w e w' → G e w') := fun e w' h => by rw [← hG]; exact h
 have HEnd : Hid (∀ (k a : Int) (b : Nat) (W : World), W.heap[b]? = some (.cells #[.int .i64 k, .int .i64 a] 139) → Below W0.heap.size W0 W → chk l = .error (k, a) →
   W.cell? ⟨w.heap.size, 0, none⟩ = some .nilIface ∧ W.frozen? ⟨w.heap.size, 0, none⟩ = false ∧
   (W.setCell ⟨w.heap.size, 0, none⟩ (.iface 72 (.pointer (some ⟨b, 0, none⟩)))).cell? ⟨w.heap.size, 0, none⟩ = some (.iface 72 (.pointer (some ⟨b, 0, none⟩))) ∧
   G (.returned (.iface 72 (.pointer (some ⟨b, 0, none⟩)))) (W.setCell ⟨w.heap.size, 0, none⟩ (.iface 72 (.pointer (some ⟨b, 0, none⟩))))) := fun k a b W ha hb hr => by
  have hz := HZ0.out
  have he : W.heap[w.heap.size]? = some (.cells #[.nilIface] 34) := by rw [hb.block _ (by omega)]; exact HE0.out
  have n1 : b ≠ w.heap.size := fun e => by
   rw [e, he] at ha
   injection ha with ha
   injection ha with _ h2
   exact absurd h2 (by decide)
  have l2 : (W.setCell ⟨w.heap.size, 0, none⟩ (.iface 72 (.pointer (some ⟨b, 0, none⟩)))).heap[w.heap.size]? = some (.cells #[.iface 72 (.pointer (some ⟨b, 0, none⟩))] 34) := heap_setCell_same _ _ _ _ _ _ he
  refine ⟨z_ (i := 0) he rfl, zb he 0, z_ (i := 0) l2 rfl, HG0.out _ _ ⟨.inr (.inr ⟨k, a, b, hr, rfl, ?_⟩), ?_⟩⟩
  ·rw [heap_setCell_other _ _ _ _ (by show b ≠ w.heap.size; exact n1)]
   exact ha
  ·exact (HB0.out.trans (hb.mono (by omega))).setCell (p := ⟨w.heap.size, 0, none⟩) (Nat.le_refl _) _
 obtain ⟨n, hn⟩ : ∃ n, n = l.length := ⟨_, rfl⟩
 have HN : Hid (n = l.length) := hn
 rw [← hn] at HPl HL0 h12 ⊢
 clear hl hg hr0 ho0 hb0 hz0 he0 hl0 hr ho hnm hG hn
 go_enter_defers Tryz.func16, Tryz.ntmps16
 go_wp2_with (go_at_call 39; fail)
 rw [← hW0]
 clear hW0
 refine HPl.out.mono ?_
 rintro e w1 ⟨⟨ht, rfl, hp⟩ | ⟨k, a, ht, b, rfl, hb⟩, hw⟩
 rotate_left
 ·have hck : chk l = .error (k, a) := by unfold chk; rw [ht]; rfl
  obtain ⟨c1, f1, d1, hG⟩ := HEnd.out k a b w1 hb hw hck
  refine leaves_cons (f := 38) (args := #[.pointer (some ⟨w.heap.size, 0, none⟩)]) (by simp) (by simp [go_sem]) ?_
  refine (found_threw w.heap.size b _ w1 c1 f1).mono ?_
  rintro e u' w2 ⟨rfl, rfl, rfl⟩
  exact ⟨_, res13 _ _ w.heap.size _ rfl d1, hG⟩
 have HT : Hid (twice [] l = .ok ()) := ht
 have HP1 : Hid (PlAt w1 W0.heap.size n (plF 0 l [])) := hp
 have HB1 : Hid (Below W0.heap.size W0 w1) := hw
 have HL1 : Hid (LiS (Lo W0.heap.size) w1 (.slice q n c) l) := HL0.out.kept (zi hw)
 have HM1 : Hid (W0.heap.size < w1.heap.size) := World.ownsMap.lt hp
 clear ht hp hw
 obtain ⟨M, hM⟩ : ∃ M, M = W0.heap.size := ⟨_, rfl⟩
 have HMM : Hid (M = W0.heap.size) := hM
 rw [← hM]
 clear hM
 have HP2 : Hid (PlAt w1 M n (plF 0 l [])) := by show PlAt _ _ _ _; rw [HMM.out]; exact HP1.out
 have HM2 : Hid (M < w1.heap.size) := by show _ < _; rw [HMM.out]; exact HM1.out
 have HNd : Hid ((l.map (·.nm)).Nodup) := ((twice_ok l []).1 HT.out).1
 have HLo : Hid (∀ W, Below w1.heap.size w1 W → LiS (Lo W0.heap.size) W (.slice q n c) l) := fun W hb => HL1.out.kept (zi (hb.mono (Nat.le_of_lt HM1.out)))
 have HBt : Hid (∀ W, Below w1.heap.size w1 W → Below W0.heap.size W0 W) := fun W hb => HB1.out.trans (hb.mono (Nat.le_of_lt HM1.out))
 have HChk : Hid (chk l = bx (ckFs (lkL l) l) fun _ => .ok (match lkL l mainB with | some [] => true | _ => false)) := by show _ = _; unfold chk; rw [HT.out]; rfl
 go_wp2_with fail
 go_loopw [14] (fun v wr => ∃ i : Nat, i ≤ n ∧ v = .int .i64 i ∧ Hid (ckFs (lkL l) l = ckFs (lkL l) (l.drop i)) ∧ Hid (Below w1.heap.size w1 wr)) (fun v _ => n - (intOf v).toNat)
 case atStart => exact ⟨0, Nat.zero_le _, rfl, by show _ = _; simp, Below.refl _ _⟩
 case round =>
  obtain ⟨i, hin, rfl, HI, HB⟩ := hrel
  have hLr := HLo.out wr HB.out
  by_cases hlt : i < n
  ·obtain ⟨cs1, hr1, ho1⟩ := hLr.row
   have hr1' : RowS (Lo W0.heap.size) wr 86 4 (.slice q n c) n cs1 := by rw [HN.out] at hr1 ⊢; exact hr1
   obtain ⟨g, cap, e, -, -⟩ := hr1'.1.form (by omega)
   injection e with e1 e2 e3
   subst e1
   clear e2 e3
   obtain ⟨F, hF⟩ : ∃ F, l[i]? = some F := ⟨l[i]'(by have := HN.out; omega), List.getElem?_eq_getElem (by have := HN.out; omega)⟩
   obtain ⟨vp, vb, nb, bcs, r1, r2, r3, a0, a1, a2, a3⟩ := ho1 i F hF
   obtain ⟨y, hy, hyt⟩ := zM F.nm
   rw [hy] at a0
   have hc : ∀ (j : Nat) (u : Value), cs1[i * 4 + j]? = some u → wr.cell? ⟨g, i * 4 + j, none⟩ = some u := fun j u hu => by
    have := hr1'.1.cells (g := g) rfl (i * 4 + j) u hu
    rw [zO] at this
    exact this
   have q0 := hc 0 _ a0
   have q1 := hc 1 _ a1
   have q2 := hc 2 _ a2
   have q3 := hc 3 _ a3
   rw [Nat.add_zero] at q0
   obtain ⟨gF, rF⟩ := HGd.out F (List.mem_of_getElem? hF)
   obtain ⟨_, _, _, xs, e0, hbody, hxs⟩ := rF
   have IB : BlC F.body := by rw [hbody]; exact body_all hxs (by rw [← hbody]; exact gF.1) (by rw [← hbody]; exact gF.2.1)
   have hdr : l.drop i = F :: l.drop (i + 1) := by
    rw [List.drop_eq_getElem_cons (by have := HN.out; omega)]
    congr 1
    have := List.getElem?_eq_getElem (l := l) (i := i) (by have := HN.out; omega)
    rw [hF] at this
    exact (Option.some.inj this).symm
   have HSt : Hid (ckFs (lkL l) (l.drop i) = bx (ckF (lkL l) F) fun _ => ckFs (lkL l) (l.drop (i + 1))) := by show _ = _; rw [hdr]; rfl
   obtain ⟨qp, cp, rfl⟩ := zd r1.1
   obtain ⟨qb, cb, rfl⟩ := zd r2.1
   obtain ⟨W2, hW2⟩ : ∃ W2, W2 = (wr.alloc (.cells #[.string y, .int .i64 F.at', .slice qp F.ps.length cp, .slice qb nb cb] 86)).alloc (.cells #[.slice (some ⟨g, 0, none⟩) n c, .map (some M), .slice none 0 0, .int .i64 0] 96) := ⟨_, rfl⟩
   have hbW : Below wr.heap.size wr W2 := by rw [hW2]; exact ((Below.refl _ _).alloc (Nat.le_refl _) _).alloc (by simp) _
   have hszW : W2.heap.size = wr.heap.size + 2 := by rw [hW2]; simp
   have hblkC : W2.heap[wr.heap.size + 1]? = some (.cells #[.slice (some ⟨g, 0, none⟩) n c, .map (some M), .slice none 0 0, .int .i64 0] 96) := by
    rw [hW2]
    have := heap_alloc_last (wr.alloc (.cells #[.string y, .int .i64 F.at', .slice qp F.ps.length cp, .slice qb nb cb] 86)) (.cells #[.slice (some ⟨g, 0, none⟩) n c, .map (some M), .slice none 0 0, .int .i64 0] 96)
    simpa using this
   have hblkF : W2.heap[wr.heap.size]? = some (.cells #[.string y, .int .i64 F.at', .slice qp F.ps.length cp, .slice qb nb cb] 86) := by rw [hW2]; exact qJ (heap_alloc_last wr _) _
   have hw1r : w1.heap.size ≤ wr.heap.size := HB.out.size
   have hM1 := HM1.out
   have hup : ∀ b, Lo W0.heap.size b → b < W2.heap.size → Lo (wr.heap.size + 1) b := fun b hb _ => by have : b < W0.heap.size := hb; show b < _; omega
   have hkW : Keeps (Lo W0.heap.size) wr W2 := fun b ds t hb _ hk => by rw [hbW.block b (Array.getElem?_eq_some_iff.1 hk).1]; exact hk
   have hLW : LiS (Lo (wr.heap.size + 1)) W2 (.slice (some ⟨g, 0, none⟩) n c) l := (hLr.kept hkW).mono hup
   have hPW : PlAt W2 M n (plF 0 l []) := HP2.out.below (HB.out.trans (hbW.mono hw1r)) HM2.out
   have hfx : FxS W2 (wr.heap.size + 1) (.slice (some ⟨g, 0, none⟩) n c) (.map (some M)) l := fx_of hLW (by omega) (by have := HM2.out; omega) (by rw [← HN.out]; exact hPW) HNd.out (by rw [← HN.out]; exact h12) (fun G hG => (HGd.out G hG).1.2.2)
   have hck : CkS W2 (wr.heap.size + 1) (.slice (some ⟨g, 0, none⟩) n c) (.map (some M)) (.slice none 0 0) [] 0 := ⟨hblkC, World.ownsRow_nil _ _ _ _, Nat.le_refl _, by omega⟩
   have HFn : Hid (Calls Tryz.prog 40 #[.pointer (some ⟨wr.heap.size + 1, 0, none⟩), .agg #[.string y, .int .i64 F.at', .slice qp F.ps.length cp, .slice qb nb cb]] W2 (FnP (ckF (lkL l) F) (wr.heap.size + 1) W2)) :=
    function_any IB gF.2.2 W2 _ _ _ _ l _ _ nb bcs y hck hfx ((r1.kept hkW (by decide)).mono hup) ((r2.kept hkW (by decide)).mono hup) (StAt.mono hup _ _ (StAt.kept hkW _ _ r3))
   have HBW : Hid (∀ W, Below (wr.heap.size + 1) W2 W → Below w1.heap.size w1 W) := fun W hb => (HB.out.trans (hbW.mono hw1r)).trans (hb.mono (by omega))
   have z0 := z_ (i := 0) hblkF rfl
   have z1 := z_ (i := 1) hblkF rfl
   have z2 := z_ (i := 2) hblkF rfl
   have z3 := z_ (i := 3) hblkF rfl
   rw [hW2] at z0 z1 z2 z3
   generalize F.at' = aF at *
   generalize F.ps.length = np at *
   clear hLr hr1 ho1 hr1' hF r1 r2 r3 a0 a1 a2 a3 hy hyt hc gF hbody hxs IB hdr hbW hszW hblkC hblkF hw1r hM1 hup hkW hLW hPW hfx hck
   go_wp2_with (go_at_call 40; fail)
   rw [← hW2]
   clear hW2 z0 z1 z2 z3 q0 q1 q2 q3
   refine HFn.out.mono ?_
   rintro e w2 ⟨⟨hr, rfl⟩ | ⟨k, a, hr, b, rfl, hb⟩, hw, hkt⟩
   ·have HI2 : Hid (ckFs (lkL l) l = ckFs (lkL l) (l.drop (i + 1))) := by show _ = _; rw [HI.out, HSt.out, hr]; rfl
    have HB2 : Hid (Below w1.heap.size w1 w2) := HBW.out _ hw
    clear hr hw hkt
    go_wp2
    exact ⟨⟨i + 1, by omega, by go_num, HI2, HB2⟩, by simp [intOf]; omega⟩
   ·have hck : chk l = .error (k, a) := by rw [HChk.out, HI.out, HSt.out, hr]; rfl
    obtain ⟨c1, f1, d1, hG⟩ := HEnd.out k a b w2 hb (HBt.out _ (HBW.out _ hw)) hck
    refine leaves_cons (f := 38) (args := #[.pointer (some ⟨w.heap.size, 0, none⟩)]) (by simp) (by simp [go_sem]) ?_
    refine (found_threw w.heap.size b _ w2 c1 f1).mono ?_
    rintro e u' w3 ⟨rfl, rfl, rfl⟩
    exact ⟨_, res13 _ _ w.heap.size _ rfl d1, hG⟩
  ·obtain rfl : i = n := by omega
   have HC2 : Hid (chk l = .ok (match lkL l mainB with | some [] => true | _ => false)) := by
    show _ = _
    rw [HChk.out, HI.out, List.drop_of_length_le (by have := HN.out; omega)]
    rfl
   have hPr : PlAt wr M i (plF 0 l []) := HP2.out.below HB.out HM2.out
   have hlk := pl_look hPr ⟨#[109, 97, 105, 110]⟩ (by decide)
   have emn : (⟨#[109, 97, 105, 110]⟩ : ByteArray).data.toList = mainB := rfl
   rw [emn, plF_look mainB l 0 [] HNd.out (fun F _ => rfl)] at hlk
   have hz := HZ0.out
   have her : wr.heap[w.heap.size]? = some (.cells #[.nilIface] 34) := by rw [(HBt.out _ HB.out).block _ (by omega)]; exact HE0.out
   have f1 := zb her 0
   have c1e := z_ (i := 0) her rfl
   have HEr : Hid (wr.heap[w.heap.size]? = some (.cells #[.nilIface] 34)) := her
   have HBw : Hid (∀ x, Below w.heap.size w (wr.setCell ⟨w.heap.size, 0, none⟩ x)) := fun x => (HB0.out.trans ((HBt.out _ HB.out).mono (by omega))).setCell (p := ⟨w.heap.size, 0, none⟩) (Nat.le_refl _) _
   have HFin : Hid (∀ x, (wr.setCell ⟨w.heap.size, 0, none⟩ x).cell? ⟨w.heap.size, 0, none⟩ = some x) := fun x => z_ (i := 0) (heap_setCell_same _ _ _ _ _ _ HEr.out) rfl
   clear hlt hPr emn hz her
   rcases ixf_lk mainB l with ⟨j, F, e1, e2, e3, e4⟩ | ⟨e1, e2⟩
   ·rw [e1] at hlk
    have hlk' : (Instr.lookup 92 (.map (some M)) (.string ⟨#[109, 97, 105, 110]⟩) true).run Tryz.prog wr = .ok (.tuple #[.int .i64 (j : Int), .bool true]) wr := by simpa using hlk
    clear hlk
    obtain ⟨cs1, hr1, ho1⟩ := hLr.row
    obtain ⟨vp, vb, nb, bcs, r1, r2, r3, a0, a1, a2, a3⟩ := ho1 j F e2
    obtain ⟨qp, cp, rfl⟩ := zd r1.1
    have hr1' : RowS (Lo W0.heap.size) wr 86 4 (.slice q i c) i cs1 := by rw [HN.out] at hr1 ⊢; exact hr1
    have hji : j < i := by rw [HN.out]; exact e3
    obtain ⟨g, cap, e, -, -⟩ := hr1'.1.form (by omega)
    injection e with x1 x2 x3
    subst x1
    clear x2 x3
    have q2 : wr.cell? ⟨g, j * 4 + 2, none⟩ = some (.slice qp F.ps.length cp) := by
     have := hr1'.1.cells (g := g) rfl (j * 4 + 2) _ a2
     rw [zO] at this
     exact this
    cases hps : F.ps with
    | nil =>
     have HC3 : Hid (chk l = .ok true) := by show _ = _; rw [HC2.out, e4, hps]
     rw [hps] at q2
     clear hLr e1 e2 e3 e4 hr1 ho1 r1 r2 r3 a0 a1 a2 a3 hr1' hps
     go_wp2
     refine leaves_cons (f := 38) (args := #[.pointer (some ⟨w.heap.size, 0, none⟩)]) (by simp) (by simp [go_sem]) ?_
     refine (found_idle ⟨w.heap.size, 0, none⟩ _).mono ?_
     rintro e u' w4 ⟨rfl, rfl, rfl⟩
     exact ⟨_, res13 _ _ w.heap.size _ rfl (HFin.out _), HG0.out _ _ ⟨.inl ⟨HC3.out, rfl⟩, HBw.out _⟩⟩
    | cons p ps =>
     have HC3 : Hid (chk l = .ok false) := by show _ = _; rw [HC2.out, e4, hps]
     rw [hps] at q2
     obtain ⟨np, hnp⟩ : ∃ np, np = (p :: ps).length := ⟨_, rfl⟩
     have hnp0 : 0 < np := by rw [hnp]; simp
     rw [← hnp] at q2
     have hnp1 : (0 : Int) < (np : Int) := by omega
     clear hLr e1 e2 e3 e4 hr1 ho1 r1 r2 r3 a0 a1 a2 a3 hr1' hps hnp
     go_wp2
     refine leaves_cons (f := 38) (args := #[.pointer (some ⟨w.heap.size, 0, none⟩)]) (by simp) (by simp [go_sem]) ?_
     refine (found_idle ⟨w.heap.size, 0, none⟩ _).mono ?_
     rintro e u' w4 ⟨rfl, rfl, rfl⟩
     exact ⟨_, res13 _ _ w.heap.size _ rfl (HFin.out _), HG0.out _ _ ⟨.inr (.inl ⟨HC3.out, rfl⟩), HBw.out _⟩⟩
   ·rw [e1] at hlk
    have hlk' : (Instr.lookup 92 (.map (some M)) (.string ⟨#[109, 97, 105, 110]⟩) true).run Tryz.prog wr = .ok (.tuple #[.int .i64 0, .bool false]) wr := by simpa using hlk
    have HC3 : Hid (chk l = .ok false) := by show _ = _; rw [HC2.out, e2]
    clear hlk hLr e1 e2
    go_wp2
    refine leaves_cons (f := 38) (args := #[.pointer (some ⟨w.heap.size, 0, none⟩)]) (by simp) (by simp [go_sem]) ?_
    refine (found_idle ⟨w.heap.size, 0, none⟩ _).mono ?_
    rintro e u' w4 ⟨rfl, rfl, rfl⟩
    exact ⟨_, res13 _ _ w.heap.size _ rfl (HFin.out _), HG0.out _ _ ⟨.inr (.inl ⟨HC3.out, rfl⟩), HBw.out _⟩⟩
theorem ClE.nil {w : World} {P : Nat} {v : Value} (h : ClE w P .nil v) : False := by unfold ClE at h; exact h
end Go.Proofs.YtnfhpdbbfejioaaGreatDoor
