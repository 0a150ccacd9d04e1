/- Package check, walked: Check. Package run: all functions are made ready. Plain: where nothing is found, calls have what functions ask for. Package run: Run's deferred closure. -/
import Derived.Test.YtnfhpdbbfejioaaGreatDoorL41
import Derived.Test.YtnfhpdbbfejioaaGreatDoorL24
import Derived.Test.YtnfhpdbbfejioaaGreatDoorL30
import Derived.Test.YtnfhpdbbfejioaaGreatDoorL31
import Derived.Test.YtnfhpdbbfejioaaGreatDoorL16
namespace Go.Proofs.YtnfhpdbbfejioaaGreatDoor
set_option linter.unusedVariables false
set_option linter.unusedSimpArgs false
open Go Go.RowKit
/-- What Check leaves. -/
def ChP (r : X Bool) (w : World) (e : Ending) (w' : World) : Prop := ((r = .ok true ∧ e = .returned .nilIface) ∨ (r = .ok false ∧ e = .returned (.iface 46 (.int .i64 8))) ∨ (∃ k a b, r = .error (k, a) ∧ e = .returned (.iface 72 (.pointer (some ⟨b, 0, none⟩))) ∧ w'.heap[b]? = some (.cells #[.int .i64 k, .int .i64 a] 139))) ∧ Below w.heap.size w w'
set_option maxRecDepth 100000 in
set_option maxHeartbeats 8000000 in
theorem check_any (w : World) (v : Value) (l : List Fun) (hl : LiS (Lo w.heap.size) w v l) (h12 : l.length ≤ 12) (hg : ∀ F ∈ l, GoodF F ∧ RF F) :
    Calls Tryz.prog 16 #[v] w (ChP (chk l) w) := by
  have hmf : ∀ (fn : Fn) (first cap : Array Value) (w : World), (Instr.makeFunc fn first cap).run Tryz.prog w = .ok (.func fn first cap) w := fun _ _ _ _ => rfl
  obtain ⟨cs0, hr0, ho0⟩ := hl.row
  obtain ⟨q, c, rfl⟩ := own_slice hr0.1
  obtain ⟨W0, hW0⟩ : ∃ W0, W0 = w.alloc (.cells #[.nilIface] 34) := ⟨_, rfl⟩
  have hb0 : Below w.heap.size w W0 := by rw [hW0]; exact (Below.refl _ _).alloc (Nat.le_refl _) _
  have hz0 : W0.heap.size = w.heap.size + 1 := by rw [hW0]; simp
  have he0 : W0.heap[w.heap.size]? = some (.cells #[.nilIface] 34) := by rw [hW0]; exact heap_alloc_last w _
  have hl0 : LiS (Lo W0.heap.size) W0 (.slice q l.length c) l := (hl.kept (lo_keeps hb0)).mono (fun b hb _ => by have : b < w.heap.size := hb; show b < W0.heap.size; omega)
  obtain ⟨cs, hr, ho⟩ := hl0.row
  have hnm : ∀ F ∈ l, F.nm.length ≤ 1000000 := fun F hF => by have := (hg F hF).2.2.1.2.2.2.2; omega
  have HPl : Hid (Calls Tryz.prog 39 #[.slice q l.length c] W0 (PlP l l.length W0)) := places_any W0 _ l.length cs l hr rfl h12 hnm ho
  have HL0 : Hid (LiS (Lo W0.heap.size) W0 (.slice q l.length c) l) := hl0
  have HB0 : Hid (Below w.heap.size w W0) := hb0
  have HZ0 : Hid (W0.heap.size = w.heap.size + 1) := hz0
  have HE0 : Hid (W0.heap[w.heap.size]? = some (.cells #[.nilIface] 34)) := he0
  have HGd : Hid (∀ F ∈ l, GoodF F ∧ RF F) := hg
  have HG0 : Hid (∀ e w', ChP (chk l) w e w' → ChP (chk l) w e w') := fun _ _ h => h
  generalize hG : ChP (chk l) w = G at *
  clear HG0
  have HG0 : Hid (∀ e w', ChP (chk l) w e w' → G e w') := fun e w' h => by rw [← hG]; exact h
  -- a panic's end
  have HEnd : Hid (∀ (k a : Int) (b : Nat) (W : World), W.heap[b]? = some (.cells #[.int .i64 k, .int .i64 a] 139) → Below W0.heap.size W0 W → chk l = .error (k, a) →
      W.cell? ⟨w.heap.size, 0, none⟩ = some .nilIface ∧ W.frozen? ⟨w.heap.size, 0, none⟩ = false ∧
      (W.setCell ⟨w.heap.size, 0, none⟩ (.iface 72 (.pointer (some ⟨b, 0, none⟩)))).cell? ⟨w.heap.size, 0, none⟩ = some (.iface 72 (.pointer (some ⟨b, 0, none⟩))) ∧
      G (.returned (.iface 72 (.pointer (some ⟨b, 0, none⟩)))) (W.setCell ⟨w.heap.size, 0, none⟩ (.iface 72 (.pointer (some ⟨b, 0, none⟩))))) := fun k a b W ha hb hr => by
    have hz := HZ0.out
    have he : W.heap[w.heap.size]? = some (.cells #[.nilIface] 34) := by rw [hb.block _ (by omega)]; exact HE0.out
    have n1 : b ≠ w.heap.size := fun e => by
      rw [e, he] at ha
      injection ha with ha
      injection ha with _ h2
      exact absurd h2 (by decide)
    have l2 : (W.setCell ⟨w.heap.size, 0, none⟩ (.iface 72 (.pointer (some ⟨b, 0, none⟩)))).heap[w.heap.size]? = some (.cells #[.iface 72 (.pointer (some ⟨b, 0, none⟩))] 34) := heap_setCell_same _ _ _ _ _ _ he
    refine ⟨cell_at (i := 0) he rfl, row_free he 0, cell_at (i := 0) l2 rfl, HG0.out _ _ ⟨.inr (.inr ⟨k, a, b, hr, rfl, ?_⟩), ?_⟩⟩
    · rw [heap_setCell_other _ _ _ _ (by show b ≠ w.heap.size; exact n1)]
      exact ha
    · exact (HB0.out.trans (hb.mono (by omega))).setCell (p := ⟨w.heap.size, 0, none⟩) (Nat.le_refl _) _
  obtain ⟨n, hn⟩ : ∃ n, n = l.length := ⟨_, rfl⟩
  have HN : Hid (n = l.length) := hn
  rw [← hn] at HPl HL0 h12 ⊢
  clear hl hg hr0 ho0 hb0 hz0 he0 hl0 hr ho hnm hG hn
  go_enter_defers Tryz.func16, Tryz.ntmps16
  go_wp2_with (go_at_call 39; fail)
  rw [← hW0]
  clear hW0
  refine HPl.out.mono ?_
  rintro e w1 ⟨⟨ht, rfl, hp⟩ | ⟨k, a, ht, b, rfl, hb⟩, hw⟩
  rotate_left
  · have hck : chk l = .error (k, a) := by unfold chk; rw [ht]; rfl
    obtain ⟨c1, f1, d1, hG⟩ := HEnd.out k a b w1 hb hw hck
    refine leaves_cons (f := 38) (args := #[.pointer (some ⟨w.heap.size, 0, none⟩)]) (by simp) (by simp [go_sem]) ?_
    refine (found_threw w.heap.size b _ w1 c1 f1).mono ?_
    rintro e u' w2 ⟨rfl, rfl, rfl⟩
    exact ⟨_, res13 _ _ w.heap.size _ rfl d1, hG⟩
  have HT : Hid (twice [] l = .ok ()) := ht
  have HP1 : Hid (PlAt w1 W0.heap.size n (plF 0 l [])) := hp
  have HB1 : Hid (Below W0.heap.size W0 w1) := hw
  have HL1 : Hid (LiS (Lo W0.heap.size) w1 (.slice q n c) l) := HL0.out.kept (lo_keeps hw)
  have HM1 : Hid (W0.heap.size < w1.heap.size) := World.ownsMap.lt hp
  clear ht hp hw
  obtain ⟨M, hM⟩ : ∃ M, M = W0.heap.size := ⟨_, rfl⟩
  have HMM : Hid (M = W0.heap.size) := hM
  rw [← hM]
  clear hM
  have HP2 : Hid (PlAt w1 M n (plF 0 l [])) := by show PlAt _ _ _ _; rw [HMM.out]; exact HP1.out
  have HM2 : Hid (M < w1.heap.size) := by show _ < _; rw [HMM.out]; exact HM1.out
  have HNd : Hid ((l.map (·.nm)).Nodup) := ((twice_ok l []).1 HT.out).1
  have HLo : Hid (∀ W, Below w1.heap.size w1 W → LiS (Lo W0.heap.size) W (.slice q n c) l) := fun W hb => HL1.out.kept (lo_keeps (hb.mono (Nat.le_of_lt HM1.out)))
  have HBt : Hid (∀ W, Below w1.heap.size w1 W → Below W0.heap.size W0 W) := fun W hb => HB1.out.trans (hb.mono (Nat.le_of_lt HM1.out))
  have HChk : Hid (chk l = bx (ckFs (lkL l) l) fun _ => .ok (match lkL l mainB with | some [] => true | _ => false)) := by show _ = _; unfold chk; rw [HT.out]; rfl
  go_wp2_with fail
  go_loopw [14] (fun v wr => ∃ i : Nat, i ≤ n ∧ v = .int .i64 i ∧ Hid (ckFs (lkL l) l = ckFs (lkL l) (l.drop i)) ∧ Hid (Below w1.heap.size w1 wr)) (fun v _ => n - (intOf v).toNat)
  case atStart => exact ⟨0, Nat.zero_le _, rfl, by show _ = _; simp, Below.refl _ _⟩
  case round =>
    obtain ⟨i, hin, rfl, HI, HB⟩ := hrel
    have hLr := HLo.out wr HB.out
    by_cases hlt : i < n
    · obtain ⟨cs1, hr1, ho1⟩ := hLr.row
      have hr1' : RowS (Lo W0.heap.size) wr 86 4 (.slice q n c) n cs1 := by rw [HN.out] at hr1 ⊢; exact hr1
      obtain ⟨g, cap, e, -, -⟩ := hr1'.1.form (by omega)
      injection e with e1 e2 e3
      subst e1
      clear e2 e3
      obtain ⟨F, hF⟩ : ∃ F, l[i]? = some F := ⟨l[i]'(by have := HN.out; omega), List.getElem?_eq_getElem (by have := HN.out; omega)⟩
      obtain ⟨vp, vb, nb, bcs, r1, r2, r3, a0, a1, a2, a3⟩ := ho1 i F hF
      obtain ⟨y, hy, hyt⟩ := str_y F.nm
      rw [hy] at a0
      have hc : ∀ (j : Nat) (u : Value), cs1[i * 4 + j]? = some u → wr.cell? ⟨g, i * 4 + j, none⟩ = some u := fun j u hu => by
        have := hr1'.1.cells (g := g) rfl (i * 4 + j) u hu
        rw [add_plain'] at this
        exact this
      have q0 := hc 0 _ a0
      have q1 := hc 1 _ a1
      have q2 := hc 2 _ a2
      have q3 := hc 3 _ a3
      rw [Nat.add_zero] at q0
      obtain ⟨gF, rF⟩ := HGd.out F (List.mem_of_getElem? hF)
      obtain ⟨_, _, _, xs, e0, hbody, hxs⟩ := rF
      have IB : BlC F.body := by rw [hbody]; exact body_all hxs (by rw [← hbody]; exact gF.1) (by rw [← hbody]; exact gF.2.1)
      have hdr : l.drop i = F :: l.drop (i + 1) := by
        rw [List.drop_eq_getElem_cons (by have := HN.out; omega)]
        congr 1
        have := List.getElem?_eq_getElem (l := l) (i := i) (by have := HN.out; omega)
        rw [hF] at this
        exact (Option.some.inj this).symm
      have HSt : Hid (ckFs (lkL l) (l.drop i) = bx (ckF (lkL l) F) fun _ => ckFs (lkL l) (l.drop (i + 1))) := by show _ = _; rw [hdr]; rfl
      obtain ⟨qp, cp, rfl⟩ := own_slice r1.1
      obtain ⟨qb, cb, rfl⟩ := own_slice r2.1
      obtain ⟨W2, hW2⟩ : ∃ W2, W2 = (wr.alloc (.cells #[.string y, .int .i64 F.at', .slice qp F.ps.length cp, .slice qb nb cb] 86)).alloc (.cells #[.slice (some ⟨g, 0, none⟩) n c, .map (some M), .slice none 0 0, .int .i64 0] 96) := ⟨_, rfl⟩
      have hbW : Below wr.heap.size wr W2 := by rw [hW2]; exact ((Below.refl _ _).alloc (Nat.le_refl _) _).alloc (by simp) _
      have hszW : W2.heap.size = wr.heap.size + 2 := by rw [hW2]; simp
      have hblkC : W2.heap[wr.heap.size + 1]? = some (.cells #[.slice (some ⟨g, 0, none⟩) n c, .map (some M), .slice none 0 0, .int .i64 0] 96) := by
        rw [hW2]
        have := heap_alloc_last (wr.alloc (.cells #[.string y, .int .i64 F.at', .slice qp F.ps.length cp, .slice qb nb cb] 86)) (.cells #[.slice (some ⟨g, 0, none⟩) n c, .map (some M), .slice none 0 0, .int .i64 0] 96)
        simpa using this
      have hblkF : W2.heap[wr.heap.size]? = some (.cells #[.string y, .int .i64 F.at', .slice qp F.ps.length cp, .slice qb nb cb] 86) := by rw [hW2]; exact row_alloc (heap_alloc_last wr _) _
      have hw1r : w1.heap.size ≤ wr.heap.size := HB.out.size
      have hM1 := HM1.out
      have hup : ∀ b, Lo W0.heap.size b → b < W2.heap.size → Lo (wr.heap.size + 1) b := fun b hb _ => by have : b < W0.heap.size := hb; show b < _; omega
      have hkW : Keeps (Lo W0.heap.size) wr W2 := fun b ds t hb _ hk => by rw [hbW.block b (Array.getElem?_eq_some_iff.1 hk).1]; exact hk
      have hLW : LiS (Lo (wr.heap.size + 1)) W2 (.slice (some ⟨g, 0, none⟩) n c) l := (hLr.kept hkW).mono hup
      have hPW : PlAt W2 M n (plF 0 l []) := HP2.out.below (HB.out.trans (hbW.mono hw1r)) HM2.out
      have hfx : FxS W2 (wr.heap.size + 1) (.slice (some ⟨g, 0, none⟩) n c) (.map (some M)) l := fx_of hLW (by omega) (by have := HM2.out; omega) (by rw [← HN.out]; exact hPW) HNd.out (by rw [← HN.out]; exact h12) (fun G hG => (HGd.out G hG).1.2.2)
      have hck : CkS W2 (wr.heap.size + 1) (.slice (some ⟨g, 0, none⟩) n c) (.map (some M)) (.slice none 0 0) [] 0 := ⟨hblkC, World.ownsRow_nil _ _ _ _, Nat.le_refl _, by omega⟩
      have HFn : Hid (Calls Tryz.prog 40 #[.pointer (some ⟨wr.heap.size + 1, 0, none⟩), .agg #[.string y, .int .i64 F.at', .slice qp F.ps.length cp, .slice qb nb cb]] W2 (FnP (ckF (lkL l) F) (wr.heap.size + 1) W2)) :=
        function_any IB gF.2.2 W2 _ _ _ _ l _ _ nb bcs y hck hfx ((r1.kept hkW (by decide)).mono hup) ((r2.kept hkW (by decide)).mono hup) (StAt.mono hup _ _ (StAt.kept hkW _ _ r3))
      have HBW : Hid (∀ W, Below (wr.heap.size + 1) W2 W → Below w1.heap.size w1 W) := fun W hb => (HB.out.trans (hbW.mono hw1r)).trans (hb.mono (by omega))
      have z0 := cell_at (i := 0) hblkF rfl
      have z1 := cell_at (i := 1) hblkF rfl
      have z2 := cell_at (i := 2) hblkF rfl
      have z3 := cell_at (i := 3) hblkF rfl
      rw [hW2] at z0 z1 z2 z3
      generalize F.at' = aF at *
      generalize F.ps.length = np at *
      clear hLr hr1 ho1 hr1' hF r1 r2 r3 a0 a1 a2 a3 hy hyt hc gF hbody hxs IB hdr hbW hszW hblkC hblkF hw1r hM1 hup hkW hLW hPW hfx hck
      go_wp2_with (go_at_call 40; fail)
      rw [← hW2]
      clear hW2 z0 z1 z2 z3 q0 q1 q2 q3
      refine HFn.out.mono ?_
      rintro e w2 ⟨⟨hr, rfl⟩ | ⟨k, a, hr, b, rfl, hb⟩, hw, hkt⟩
      · have HI2 : Hid (ckFs (lkL l) l = ckFs (lkL l) (l.drop (i + 1))) := by show _ = _; rw [HI.out, HSt.out, hr]; rfl
        have HB2 : Hid (Below w1.heap.size w1 w2) := HBW.out _ hw
        clear hr hw hkt
        go_wp2
        exact ⟨⟨i + 1, by omega, by go_num, HI2, HB2⟩, by simp [intOf]; omega⟩
      · have hck : chk l = .error (k, a) := by rw [HChk.out, HI.out, HSt.out, hr]; rfl
        obtain ⟨c1, f1, d1, hG⟩ := HEnd.out k a b w2 hb (HBt.out _ (HBW.out _ hw)) hck
        refine leaves_cons (f := 38) (args := #[.pointer (some ⟨w.heap.size, 0, none⟩)]) (by simp) (by simp [go_sem]) ?_
        refine (found_threw w.heap.size b _ w2 c1 f1).mono ?_
        rintro e u' w3 ⟨rfl, rfl, rfl⟩
        exact ⟨_, res13 _ _ w.heap.size _ rfl d1, hG⟩
    · obtain rfl : i = n := by omega
      have HC2 : Hid (chk l = .ok (match lkL l mainB with | some [] => true | _ => false)) := by
        show _ = _
        rw [HChk.out, HI.out, List.drop_of_length_le (by have := HN.out; omega)]
        rfl
      have hPr : PlAt wr M i (plF 0 l []) := HP2.out.below HB.out HM2.out
      have hlk := pl_look hPr ⟨#[109, 97, 105, 110]⟩ (by decide)
      have emn : (⟨#[109, 97, 105, 110]⟩ : ByteArray).data.toList = mainB := rfl
      rw [emn, plF_look mainB l 0 [] HNd.out (fun F _ => rfl)] at hlk
      have hz := HZ0.out
      have her : wr.heap[w.heap.size]? = some (.cells #[.nilIface] 34) := by rw [(HBt.out _ HB.out).block _ (by omega)]; exact HE0.out
      have f1 := row_free her 0
      have c1e := cell_at (i := 0) her rfl
      have HEr : Hid (wr.heap[w.heap.size]? = some (.cells #[.nilIface] 34)) := her
      have HBw : Hid (∀ x, Below w.heap.size w (wr.setCell ⟨w.heap.size, 0, none⟩ x)) := fun x => (HB0.out.trans ((HBt.out _ HB.out).mono (by omega))).setCell (p := ⟨w.heap.size, 0, none⟩) (Nat.le_refl _) _
      have HFin : Hid (∀ x, (wr.setCell ⟨w.heap.size, 0, none⟩ x).cell? ⟨w.heap.size, 0, none⟩ = some x) := fun x => cell_at (i := 0) (heap_setCell_same _ _ _ _ _ _ HEr.out) rfl
      clear hlt hPr emn hz her
      rcases ixf_lk mainB l with ⟨j, F, e1, e2, e3, e4⟩ | ⟨e1, e2⟩
      · rw [e1] at hlk
        have hlk' : (Instr.lookup 92 (.map (some M)) (.string ⟨#[109, 97, 105, 110]⟩) true).run Tryz.prog wr = .ok (.tuple #[.int .i64 (j : Int), .bool true]) wr := by simpa using hlk
        clear hlk
        obtain ⟨cs1, hr1, ho1⟩ := hLr.row
        obtain ⟨vp, vb, nb, bcs, r1, r2, r3, a0, a1, a2, a3⟩ := ho1 j F e2
        obtain ⟨qp, cp, rfl⟩ := own_slice r1.1
        have hr1' : RowS (Lo W0.heap.size) wr 86 4 (.slice q i c) i cs1 := by rw [HN.out] at hr1 ⊢; exact hr1
        have hji : j < i := by rw [HN.out]; exact e3
        obtain ⟨g, cap, e, -, -⟩ := hr1'.1.form (by omega)
        injection e with x1 x2 x3
        subst x1
        clear x2 x3
        have q2 : wr.cell? ⟨g, j * 4 + 2, none⟩ = some (.slice qp F.ps.length cp) := by
          have := hr1'.1.cells (g := g) rfl (j * 4 + 2) _ a2
          rw [add_plain'] at this
          exact this
        cases hps : F.ps with
        | nil =>
          have HC3 : Hid (chk l = .ok true) := by show _ = _; rw [HC2.out, e4, hps]
          rw [hps] at q2
          clear hLr e1 e2 e3 e4 hr1 ho1 r1 r2 r3 a0 a1 a2 a3 hr1' hps
          go_wp2
          refine leaves_cons (f := 38) (args := #[.pointer (some ⟨w.heap.size, 0, none⟩)]) (by simp) (by simp [go_sem]) ?_
          refine (found_idle ⟨w.heap.size, 0, none⟩ _).mono ?_
          rintro e u' w4 ⟨rfl, rfl, rfl⟩
          exact ⟨_, res13 _ _ w.heap.size _ rfl (HFin.out _), HG0.out _ _ ⟨.inl ⟨HC3.out, rfl⟩, HBw.out _⟩⟩
        | cons p ps =>
          have HC3 : Hid (chk l = .ok false) := by show _ = _; rw [HC2.out, e4, hps]
          rw [hps] at q2
          obtain ⟨np, hnp⟩ : ∃ np, np = (p :: ps).length := ⟨_, rfl⟩
          have hnp0 : 0 < np := by rw [hnp]; simp
          rw [← hnp] at q2
          have hnp1 : (0 : Int) < (np : Int) := by omega
          clear hLr e1 e2 e3 e4 hr1 ho1 r1 r2 r3 a0 a1 a2 a3 hr1' hps hnp
          go_wp2
          refine leaves_cons (f := 38) (args := #[.pointer (some ⟨w.heap.size, 0, none⟩)]) (by simp) (by simp [go_sem]) ?_
          refine (found_idle ⟨w.heap.size, 0, none⟩ _).mono ?_
          rintro e u' w4 ⟨rfl, rfl, rfl⟩
          exact ⟨_, res13 _ _ w.heap.size _ rfl (HFin.out _), HG0.out _ _ ⟨.inr (.inl ⟨HC3.out, rfl⟩), HBw.out _⟩⟩
      · rw [e1] at hlk
        have hlk' : (Instr.lookup 92 (.map (some M)) (.string ⟨#[109, 97, 105, 110]⟩) true).run Tryz.prog wr = .ok (.tuple #[.int .i64 0, .bool false]) wr := by simpa using hlk
        have HC3 : Hid (chk l = .ok false) := by show _ = _; rw [HC2.out, e2]
        clear hlk hLr e1 e2
        go_wp2
        refine leaves_cons (f := 38) (args := #[.pointer (some ⟨w.heap.size, 0, none⟩)]) (by simp) (by simp [go_sem]) ?_
        refine (found_idle ⟨w.heap.size, 0, none⟩ _).mono ?_
        rintro e u' w4 ⟨rfl, rfl, rfl⟩
        exact ⟨_, res13 _ _ w.heap.size _ rfl (HFin.out _), HG0.out _ _ ⟨.inr (.inl ⟨HC3.out, rfl⟩), HBw.out _⟩⟩
/-- Functions that are ready, so many. -/
structure FsI (w : World) (P : Nat) (L : List Fun) (cs : List Value) (wr : World) (i : Nat) : Prop where
  at' : ∃ f, Below w.heap.size w wr ∧ w.heap.size < wr.heap.size ∧ MapV wr w.heap.size i f ∧ ∀ (j : Nat) (F : Fun), j < i → L[j]? = some F → ∃ vp cb, cs[j * 4 + 2]? = some vp ∧ f F.nm = some (.agg #[vp, .func (.func 87) #[] cb]) ∧ BlV wr P F.body (.func (.func 87) #[] cb)
theorem ks_grown {w w' : World} {M : Nat} {es : Array MapEntry} {ck : Nat} (hm : w.heap[M]? = some (.map es ck)) (hg : w.grownBy w' (some M)) : Ks w w' := fun b cs t _ _ hb => by
  have hne : b ≠ M := fun e => by subst e; rw [hm] at hb; cases hb
  rw [hg.block b (Array.getElem?_eq_some_iff.1 hb).1 (fun e => hne (by injection e))]
  exact hb
theorem fs_next {w : World} {P : Nat} {L : List Fun} {cs : List Value} {wr w1 w9 : World} {i : Nat} {F : Fun} {f : By → Option Value} {vp : Value} {cb : Array Value} (hn : (L.map (·.nm)).Nodup) (hF : L[i]? = some F) (hvp : cs[i * 4 + 2]? = some vp)
    (h1 : Below w.heap.size w wr) (hz : w.heap.size < wr.heap.size) (hm : MapV wr w.heap.size i f) (ho : ∀ (j : Nat) (F : Fun), j < i → L[j]? = some F → ∃ vp cb, cs[j * 4 + 2]? = some vp ∧ f F.nm = some (.agg #[vp, .func (.func 87) #[] cb]) ∧ BlV wr P F.body (.func (.func 87) #[] cb))
    (hb : Below wr.heap.size wr w1) (hbl : BlV w1 P F.body (.func (.func 87) #[] cb)) (hm9 : MapV w9 w.heap.size (i + 1) (fun y => if y = F.nm then some (.agg #[vp, .func (.func 87) #[] cb]) else f y)) (hg : w1.grownBy w9 (some w.heap.size)) : FsI w P L cs w9 (i + 1) := by
  obtain ⟨es, ck, hmo⟩ := (hm.kept (hb.block _ hz)).obj
  have hks := ks_grown hmo hg
  refine ⟨⟨_, ?_, Nat.lt_of_lt_of_le hz (Nat.le_trans hb.size hg.size), hm9, fun j G hj hG => ?_⟩⟩
  · exact (h1.trans (hb.mono (by omega))).grown hg (by have := hb.size; omega) (fun k e => by injection e with e; omega)
  · by_cases hji : j = i
    · subst hji
      rw [hF] at hG
      injection hG with hG
      subst hG
      exact ⟨vp, cb, hvp, by simp, hbl.kept hks⟩
    · obtain ⟨vp', cb', q1, q2, q3⟩ := ho j G (by omega) hG
      refine ⟨vp', cb', q1, ?_, (q3.below hb).kept hks⟩
      have hne : G.nm ≠ F.nm := fun e => by
        obtain ⟨b1, rfl⟩ := List.getElem?_eq_some_iff.1 hG
        obtain ⟨b2, rfl⟩ := List.getElem?_eq_some_iff.1 hF
        have := List.pairwise_iff_getElem.1 hn j i (by simpa using b1) (by simpa using b2) (by omega)
        simp at this
        exact this e
      rw [if_neg hne]
      exact q2
/-- What making them ready leaves. -/
def FnsP (P : Nat) (L : List Fun) (cs : List Value) (w : World) (e : Ending) (w' : World) : Prop := e = .returned (.map (some w.heap.size)) ∧ FsI w P L cs w' L.length
set_option maxRecDepth 100000 in
set_option maxHeartbeats 4000000 in
theorem functions_any (w : World) (v : Value) (P : Nat) (L : List Fun) (cs : List Value) (hrow : RowS (Lo w.heap.size) w 86 4 v L.length cs) (hcs : ∀ (i : Nat) (f : Fun), L[i]? = some f → ∃ (vp vb : Value) (nb : Nat) (bcs : List Value), RowS (Lo w.heap.size) w 144 2 vp f.ps.length (psC f.ps) ∧ RowS (Lo w.heap.size) w 147 7 vb nb bcs ∧ StAt (Lo w.heap.size) w f.body bcs ∧ cs[i * 4]? = some (str f.nm) ∧ cs[i * 4 + 1]? = some (.int .i64 f.at') ∧ cs[i * 4 + 2]? = some vp ∧ cs[i * 4 + 3]? = some vb)
    (h12 : L.length ≤ 12) (hg : ∀ F ∈ L, GoodF F ∧ RF F) (hn : (L.map (·.nm)).Nodup) : Calls Tryz.prog 29 #[ptr P, v] w (FnsP P L cs w) := by
  obtain ⟨pv, cv, hv, hcell⟩ : ∃ pv cv, v = .slice pv L.length cv ∧ ∀ i, i < L.length → ∃ g cur, pv = some ⟨g, 0, none⟩ ∧ w.heap[g]? = some (.cells cur 86) ∧ ∀ j, j < 4 → cur[i * 4 + j]? = cs[i * 4 + j]? := by
    obtain ⟨⟨e1, hh⟩, -⟩ := hrow
    rcases hh with ⟨rfl, e2⟩ | ⟨g, cap, cur, rfl, _, hg, hc, _, _, ht⟩
    · rw [e2]
      exact ⟨none, 0, rfl, fun i hi => by omega⟩
    · refine ⟨_, cap, rfl, fun i hi => ⟨g, cur, rfl, hg, fun j hj => ?_⟩⟩
      rw [← ht, List.getElem?_take, if_pos (by omega)]
      simp
  subst hv
  obtain ⟨n, hnn⟩ : ∃ n, n = L.length := ⟨_, rfl⟩
  have HN : Hid (n = L.length) := hnn
  have hn6 : n ≤ 12 := by rw [hnn]; exact h12
  rw [← hnn] at hcell ⊢
  have hmm : ∀ W : World, (Instr.makeMap 58 (some (.int .i64 (n : Int)))).run Tryz.prog W = .ok (.map (some W.heap.size)) (W.alloc (.map #[] 0)) := fun W => by simp [Instr.makeMap, go_sem]
  have HCe : Hid (∀ i, i < n → ∃ g cur, pv = some ⟨g, 0, none⟩ ∧ w.heap[g]? = some (.cells cur 86) ∧ ∀ j, j < 4 → cur[i * 4 + j]? = cs[i * 4 + j]?) := hcell
  have HCs : Hid (∀ (i : Nat) (f : Fun), L[i]? = some f → ∃ (vp vb : Value) (nb : Nat) (bcs : List Value), RowS (Lo w.heap.size) w 144 2 vp f.ps.length (psC f.ps) ∧ RowS (Lo w.heap.size) w 147 7 vb nb bcs ∧ StAt (Lo w.heap.size) w f.body bcs ∧ cs[i * 4]? = some (str f.nm) ∧ cs[i * 4 + 1]? = some (.int .i64 f.at') ∧ cs[i * 4 + 2]? = some vp ∧ cs[i * 4 + 3]? = some vb) := hcs
  have HGd : Hid (∀ F ∈ L, GoodF F ∧ RF F) := hg
  have HNd : Hid ((L.map (·.nm)).Nodup) := hn
  clear hrow hcs hcell hg hn h12 hnn
  generalize hG : FnsP P L cs w = G
  have HG : Hid (FnsP P L cs w = G) := hG
  clear hG
  go_enter Tryz.func29, Tryz.ntmps29
  go_upto_region 2 with fail
  have HS0 : Hid (FsI w P L cs (w.alloc (.map #[] 0)) 0) := ⟨⟨_, al_below _ _, by simp, MapV.made w, fun j F hj => by omega⟩⟩
  obtain ⟨W4, hW4⟩ : ∃ W4, W4 = w.alloc (.map #[] 0) := ⟨_, rfl⟩
  rw [← hW4] at HS0 ⊢
  clear hW4
  go_wp2_with fail
  go_loopw [13] (fun v wr => ∃ i : Nat, i ≤ n ∧ v = .int .i64 i ∧ Hid (FsI w P L cs wr i)) (fun v _ => n - (intOf v).toNat)
  case atStart => exact ⟨0, Nat.zero_le _, rfl, HS0⟩
  case round =>
    obtain ⟨i, hin, rfl, HI⟩ := hrel
    by_cases hlt2 : i < n
    · obtain ⟨F, hF⟩ : ∃ F, L[i]? = some F := ⟨L[i]'(by rw [← HN.out]; exact hlt2), List.getElem?_eq_getElem _⟩
      obtain ⟨g, cur, rfl, hg, hgi⟩ := HCe.out i hlt2
      obtain ⟨vp, vb, nb, bcs, a1, a2, a3, q0, q1, q2, q3⟩ := HCs.out i F hF
      obtain ⟨pp, cp, rfl⟩ := slice_form a1
      obtain ⟨pb, cb, rfl⟩ := slice_form a2
      obtain ⟨⟨gd, gc, _⟩, ⟨_, hnam, _, xs, e9, hbd, hrs⟩⟩ := HGd.out F (List.mem_of_getElem? hF)
      have hcm : CmB F.body := by rw [hbd] at gd gc ⊢; exact cmb_all hrs gd gc
      obtain ⟨f, h1, hz, hm, ho⟩ := HI.out.at'
      obtain ⟨ys, hys⟩ : ∃ ys : ByteArray, ys = ⟨F.nm.toArray⟩ := ⟨_, rfl⟩
      have hB := blkm_at h1 hg
      have d0 : wr.cell? ⟨g, i * 4, none⟩ = some (.string ys) := by rw [hys]; exact cell_at hB ((hgi 0 (by omega)).trans q0)
      have d1 : wr.cell? ⟨g, i * 4 + 1, none⟩ = some (.int .i64 F.at') := cell_at hB ((hgi 1 (by omega)).trans q1)
      have d2 : wr.cell? ⟨g, i * 4 + 2, none⟩ = some (.slice pp F.ps.length cp) := cell_at hB ((hgi 2 (by omega)).trans q2)
      have d3 : wr.cell? ⟨g, i * 4 + 3, none⟩ = some (.slice pb nb cb) := cell_at hB ((hgi 3 (by omega)).trans q3)
      have hsz : ys.size ≤ 1000000 := by
        have := hnam.2.2.2.2
        rw [hys]
        simp only [ByteArray.size, List.size_toArray]
        omega
      have HC : Hid (∀ W, Below w.heap.size w W → Calls Tryz.prog 53 #[ptr P, .slice pb nb cb] W (BlP P F.body W)) := fun W hb => hcm (Lo w.heap.size) W P _ nb bcs (a2.kept (keeps_below hb) (by decide)) (StAt.kept (keeps_below hb) _ _ a3)
      have HQ : Hid (L[i]? = some F ∧ cs[i * 4 + 2]? = some (.slice pp F.ps.length cp) ∧ Below w.heap.size w wr ∧ w.heap.size < wr.heap.size ∧ MapV wr w.heap.size i f ∧ (∀ (j : Nat) (F : Fun), j < i → L[j]? = some F → ∃ vp cb, cs[j * 4 + 2]? = some vp ∧ f F.nm = some (.agg #[vp, .func (.func 87) #[] cb]) ∧ BlV wr P F.body (.func (.func 87) #[] cb))) := ⟨hF, q2, h1, hz, hm, ho⟩
      have HYs : Hid (ys.data.toList = F.nm) := by rw [hys]; show _ = _; simp
      obtain ⟨np, hnp⟩ : ∃ np, np = F.ps.length := ⟨_, rfl⟩
      obtain ⟨at9, hat9⟩ : ∃ at9, at9 = F.at' := ⟨_, rfl⟩
      rw [← hnp] at d2 HQ
      rw [← hat9] at d1
      have hl9 : (i : Int) < (n : Int) := by omega
      have hzz : w.heap.size ≠ wr.heap.size := by omega
      clear hF hg hgi a1 a2 a3 q0 q1 q2 q3 gd gc hnam hbd hrs hcm h1 hz hm ho hys hB hnp hat9
      go_wp2_with fail
      obtain ⟨W7, hW7⟩ : ∃ W7, W7 = wr.alloc (.cells #[.string ys, .int .i64 at9, .slice pp np cp, .slice pb nb cb] 86) := ⟨_, rfl⟩
      have hB7 : Below wr.heap.size wr W7 := by rw [hW7]; exact al_below _ _
      have g7 : W7.heap[wr.heap.size]? = some (.cells #[.string ys, .int .i64 at9, .slice pp np cp, .slice pb nb cb] 86) := by rw [hW7]; exact heap_alloc_last _ _
      have k0 : W7.cell? ⟨wr.heap.size, 0, none⟩ = some (.string ys) := cell_at (i := 0) g7 rfl
      have k2 : W7.cell? ⟨wr.heap.size, 2, none⟩ = some (.slice pp np cp) := cell_at (i := 2) g7 rfl
      have k3 : W7.cell? ⟨wr.heap.size, 3, none⟩ = some (.slice pb nb cb) := cell_at (i := 3) g7 rfl
      have hz7 : wr.heap.size < W7.heap.size := (Array.getElem?_eq_some_iff.1 g7).1
      have HB7 : Hid (Below wr.heap.size wr W7) := hB7
      rw [← hW7]
      clear hW7 g7 hB7 d0 d1 d2 d3
      go_region_held3 (fun w' => w'.cell? ⟨wr.heap.size, 0, none⟩ = some (.string ys) ∧ w'.cell? ⟨wr.heap.size, 2, none⟩ = some (.slice pp np cp) ∧ w'.cell? ⟨wr.heap.size, 3, none⟩ = some (.slice pb nb cb))
        (first | (go_keep; done) | ((try dsimp only); refine ⟨?_, ?_, ?_⟩ <;> first | (go_keep; done) | (go_simp; done) | (simp [*]; done) | assumption))
        (first | (go_at_call 53; refine (HC.out _ ((HQ.out.2.2.1.trans (HB7.out.mono (Nat.le_of_lt HQ.out.2.2.2.1))).drew)).mono ?_; rintro e w1 ⟨cp1, rfl, hbl, hb1⟩; have hb2 : Below wr.heap.size wr w1 := HB7.out.trans ((undrew hb1).mono (Nat.le_of_lt hz7)); have hcc := fun b o h => hb1.cell (p := ⟨b, o, none⟩) h; have t0 : w1.cell? ⟨wr.heap.size, 0, none⟩ = some (.string ys) := (hcc _ _ (by simp; omega)).trans (by go_simp); have t2 : w1.cell? ⟨wr.heap.size, 2, none⟩ = some (.slice pp np cp) := (hcc _ _ (by simp; omega)).trans (by go_simp); have t3 : w1.cell? ⟨wr.heap.size, 3, none⟩ = some (.slice pb nb cb) := (hcc _ _ (by simp; omega)).trans (by go_simp); have hmp := (HQ.out.2.2.2.2.1.kept (hb2.block _ HQ.out.2.2.2.1)).put und58 (by omega) ys hsz (.agg #[.slice pp np cp, .func (.func 87) #[] cp1]); obtain ⟨w9, hup, hm9, hg9⟩ := hmp; have s0 : w9.cell? ⟨wr.heap.size, 0, none⟩ = some (.string ys) := (World.cell?_of_block (hg9.block _ (World.block_lt_of_cell? w1 _ t0) (fun e => hzz (Option.some.inj e).symm))).trans t0; have s2 : w9.cell? ⟨wr.heap.size, 2, none⟩ = some (.slice pp np cp) := (World.cell?_of_block (hg9.block _ (World.block_lt_of_cell? w1 _ t2) (fun e => hzz (Option.some.inj e).symm))).trans t2; have s3 : w9.cell? ⟨wr.heap.size, 3, none⟩ = some (.slice pb nb cb) := (World.cell?_of_block (hg9.block _ (World.block_lt_of_cell? w1 _ t3) (fun e => hzz (Option.some.inj e).symm))).trans t3; rw [HYs.out] at hm9; have HI2 : Hid (FsI w P L cs w9 (i + 1)) := fs_next HNd.out HQ.out.1 HQ.out.2.1 HQ.out.2.2.1 HQ.out.2.2.2.1 HQ.out.2.2.2.2.1 HQ.out.2.2.2.2.2 hb2 hbl hm9 hg9; clear hcc hbl hb1 hb2 hm9 hg9))
      go_wp2
      exact ⟨⟨i + 1, by omega, by go_num, HI2⟩, by simp [intOf]; omega⟩
    · have hin2 : i = n := by omega
      subst hin2
      have HE : Hid (G (.returned (.map (some w.heap.size))) wr) := by
        show G _ _
        rw [← HG.out]
        exact ⟨rfl, by rw [← HN.out]; exact HI.out⟩
      go_wp2
      exact HE.out
/-- A program's functions by their names. -/
abbrev fsL (L : List Fun) : By → Option Fun := fun nm => L.find? (fun F => F.nm == nm)
theorem cok_nil (fs : By → Option Fun) : cokE fs .nil := by unfold cokE; trivial
theorem cok_ce (fs : By → Option Fun) : cokE fs ce := by unfold cokE; trivial
theorem cokb_ce (fs : By → Option Fun) : cokB fs ce := by unfold cokB; trivial
theorem cok_chain {fs : By → Option Fun} : ∀ (xs : List Tr), (∀ x ∈ xs, cokE fs x) → cokE fs (chain xs)
  | [], _ => cok_ce fs
  | x :: xs, h => by
    unfold chain
    rw [cokE]
    exact ⟨h x (by simp), cok_chain xs fun y hy => h y (by simp [hy])⟩
theorem args_ck {lk : By → Option Nm} {ns : Nm} : ∀ (xs : List Tr) (ps : Nm) (r : Int), xs.length = ps.length → ck lk ns (chain xs) ps = .ok r → ∀ x ∈ xs, ∃ k, ck lk ns x [] = .ok k
  | [], _, _, _, _, x, hx => by simp at hx
  | y :: xs, [], _, hl, _, x, hx => by simp at hl
  | y :: xs, p :: ps, r, hl, h, x, hx => by
    unfold chain at h
    rw [ck] at h
    obtain ⟨t, h1, h⟩ := bx_ok h
    obtain ⟨_, _, h⟩ := bx_ok h
    rcases List.mem_cons.1 hx with rfl | hx
    · exact ⟨t, h1⟩
    · exact args_ck xs ps r (by simpa using hl) h x hx
theorem nam_few {nm : By} (h : Nam nm) : nm.length ≤ 1000000 := by
  have := h.2.2.2.2
  omega
theorem ck_cok {L : List Fun} : ∀ (f d : Nat) (t : Tr), RE f d t → ∀ (ns : Nm) (k : Int), ck (lkL L) ns t [] = .ok k → cokE (fsL L) t
  | 0, _, _, h, _, _, _ => by rw [RE] at h; exact h.elim
  | f + 1, d, t, h, ns, k, hk => by
    rw [RE] at h
    obtain ⟨_, h⟩ := h
    have n0 := cok_nil (fsL L)
    have n1 := cok_ce (fsL L)
    rcases h with ⟨a, n, _, _, rfl⟩ | ⟨a, nm, hn, rfl⟩ | ⟨a, op, l, r, _, hl, hr, rfl⟩ | ⟨a, op, l, _, hl, rfl⟩ | ⟨a, nm, xs, hn, hx, rfl⟩ | ⟨a, l, hl, rfl⟩ | ⟨a, l, hl, rfl⟩ | ⟨a, l, r, hl, hr, rfl⟩ | ⟨a, rfl⟩
    all_goals rw [cokE]
    all_goals rw [ck] at hk
    · exact ⟨by simp, n0, n0, n1, fun e => absurd e (by decide)⟩
    · exact ⟨nam_few hn, n0, n0, n1, fun e => absurd e (by decide)⟩
    · rw [if_neg (by decide), if_pos rfl] at hk
      obtain ⟨_, h1, hk⟩ := bx_ok hk
      obtain ⟨_, _, hk⟩ := bx_ok hk
      obtain ⟨_, h2, hk⟩ := bx_ok hk
      exact ⟨by simp, ck_cok f _ l hl ns _ h1, ck_cok f _ r hr ns _ h2, n1, fun e => absurd e (by decide)⟩
    · rw [if_neg (by decide), if_neg (by decide), if_pos rfl] at hk
      obtain ⟨_, h1, hk⟩ := bx_ok hk
      exact ⟨by simp, ck_cok f _ l hl ns _ h1, n0, n1, fun e => absurd e (by decide)⟩
    · rw [if_neg (by decide), if_neg (by decide), if_neg (by decide), if_pos rfl] at hk
      unfold lkL at hk
      cases hF : L.find? (fun F => F.nm == nm) with
      | none => rw [hF] at hk; cases hk
      | some F =>
        rw [hF] at hk
        simp only [Option.map_some] at hk
        by_cases hc : chl (chain xs) = F.ps.length
        · rw [if_neg (by simp [hc])] at hk
          obtain ⟨_, h1, hk⟩ := bx_ok hk
          have hl : xs.length = F.ps.length := by rw [← hc, chl_chain]
          refine ⟨nam_few hn, n0, n0, cok_chain xs fun x hx' => ?_, fun _ => ⟨F, hF, hc.symm⟩⟩
          obtain ⟨k', hk'⟩ := args_ck xs F.ps _ hl h1 x hx'
          exact ck_cok f _ x (hx x hx') ns k' hk'
        · rw [if_pos hc] at hk
          cases hk
    · rw [if_neg (by decide), if_neg (by decide), if_neg (by decide), if_neg (by decide), if_pos rfl] at hk
      obtain ⟨_, h1, hk⟩ := bx_ok hk
      exact ⟨by simp, ck_cok f _ l hl ns _ h1, n0, n1, fun e => absurd e (by decide)⟩
    · rw [if_neg (by decide), if_neg (by decide), if_neg (by decide), if_neg (by decide), if_neg (by decide), if_pos rfl] at hk
      obtain ⟨_, h1, hk⟩ := bx_ok hk
      exact ⟨by simp, ck_cok f _ l hl ns _ h1, n0, n1, fun e => absurd e (by decide)⟩
    · rw [if_neg (by decide), if_neg (by decide), if_neg (by decide), if_neg (by decide), if_neg (by decide), if_neg (by decide), if_pos rfl] at hk
      obtain ⟨_, h1, hk⟩ := bx_ok hk
      obtain ⟨_, _, hk⟩ := bx_ok hk
      obtain ⟨_, h2, hk⟩ := bx_ok hk
      exact ⟨by simp, ck_cok f _ l hl ns _ h1, ck_cok f _ r hr ns _ h2, n1, fun e => absurd e (by decide)⟩
    · exact ⟨by simp, n0, n0, n1, fun e => absurd e (by decide)⟩
theorem mu_cok {L : List Fun} {d : Nat} {t : Tr} (h : REx d t) {ns : Nm} {k : Int} (hk : mu (lkL L) ns t k = .ok ()) : cokE (fsL L) t := by
  obtain ⟨e, h⟩ := h
  unfold mu at hk
  obtain ⟨t', h1, _⟩ := bx_ok hk
  exact ck_cok e d t h ns t' h1
/-- A statement, alone. -/
def cksS (lk : By → Option Nm) (s : Nm × Nat) (c a : Int) (nm : By) (ix v th el : Tr) : X (Nm × Nat) :=
  if c = 1 then bx (ck lk s.1 v []) fun t => addV s (nm, t) a
  else if c = 2 then (match fndN s.1 nm with | none => .error (7, a) | some k => bx (mu lk s.1 v k) fun _ => .ok s)
  else if c = 3 then (match fndN s.1 nm with | none => .error (7, a) | some k => if k ≠ 2 then .error (1, a) else bx (mu lk s.1 ix 1) fun _ => bx (mu lk s.1 v 1) fun _ => .ok s)
  else bx (mu lk s.1 v 1) fun _ => bx (cks lk th s) fun s1 => bx (cks lk el (s.1, s1.2)) fun s2 => .ok (s.1, s2.2)
theorem cks_cons (lk : By → Option Nm) (c a : Int) (nm : By) (ix v th el g : Tr) (s : Nm × Nat) : cks lk (cc (st c a nm ix v th el) g) s = bx (cksS lk s c a nm ix v th el) fun s' => cks lk g s' := by rw [cks]; rfl
theorem cks_cok {L : List Fun} : ∀ (f d : Nat) (xs : List Tr), (∀ x ∈ xs, RS f d x) → ∀ (s s' : Nm × Nat), cks (lkL L) (chain xs) s = .ok s' → cokB (fsL L) (chain xs)
  | 0, d, xs, h, s, s', hk => by
    cases xs with
    | nil => exact cokb_ce _
    | cons x xs => exact (h x (by simp)).elim
  | f + 1, d, [], h, s, s', hk => cokb_ce _
  | f + 1, d, x :: xs, h, s, s', hk => by
    have hx := h x (by simp)
    have IH := fun (d : Nat) (xs : List Tr) (h : ∀ x ∈ xs, RS f d x) (s s' : Nm × Nat) (hk : cks (lkL L) (chain xs) s = .ok s') => cks_cok (L := L) f d xs h s s' hk
    have n0 := cok_nil (fsL L)
    have nb := cokb_ce (fsL L)
    unfold chain at hk ⊢
    rw [RS] at hx
    rcases hx with ⟨a', nm', v', hn, hv, rfl⟩ | ⟨a', nm', v', hn, hv, rfl⟩ | ⟨a', nm', i, v', hn, hi, hv, rfl⟩ | ⟨a', v', ys, zs, hd, hv, hy, hz, rfl⟩ | ⟨a', v', ys, hd, hv, hy, rfl⟩ | ⟨a', v', hv, rfl⟩ | ⟨a', v', hv, rfl⟩ | ⟨a', b, nm', ys, hn, ⟨e0, hy⟩, rfl⟩
    all_goals rw [cks_cons] at hk
    all_goals obtain ⟨s1, h1, hk⟩ := bx_ok hk
    all_goals have hrest := cks_cok (f + 1) d xs (fun y hy => h y (by simp [hy])) s1 s' hk
    all_goals rw [cokB]
    all_goals unfold cksS at h1
    · rw [if_pos rfl] at h1
      obtain ⟨t, h2, _⟩ := bx_ok h1
      obtain ⟨e, hv⟩ := hv
      exact ⟨nam_few hn, n0, ck_cok e _ v' hv _ _ h2, nb, nb, hrest⟩
    · rw [if_neg (by decide), if_pos rfl] at h1
      cases hf : fndN s.1 nm' with
      | none => rw [hf] at h1; cases h1
      | some k =>
        rw [hf] at h1
        obtain ⟨_, h2, _⟩ := bx_ok h1
        exact ⟨nam_few hn, n0, mu_cok hv h2, nb, nb, hrest⟩
    · rw [if_neg (by decide), if_neg (by decide), if_pos rfl] at h1
      cases hf : fndN s.1 nm' with
      | none => rw [hf] at h1; cases h1
      | some k =>
        rw [hf] at h1
        simp only at h1
        by_cases hk2 : k = 2
        · rw [if_neg (by simp [hk2])] at h1
          obtain ⟨_, h2, h1⟩ := bx_ok h1
          obtain ⟨_, h3, h1⟩ := bx_ok h1
          exact ⟨nam_few hn, mu_cok hi h2, mu_cok hv h3, nb, nb, hrest⟩
        · rw [if_pos hk2] at h1
          cases h1
    · rw [if_neg (by decide), if_neg (by decide), if_neg (by decide)] at h1
      obtain ⟨_, h2, h1⟩ := bx_ok h1
      obtain ⟨s2, h3, h1⟩ := bx_ok h1
      obtain ⟨s3, h4, h1⟩ := bx_ok h1
      exact ⟨by simp, n0, mu_cok hv h2, IH _ ys hy _ _ h3, IH _ zs hz _ _ h4, hrest⟩
    · rw [if_neg (by decide), if_neg (by decide), if_neg (by decide)] at h1
      obtain ⟨_, h2, h1⟩ := bx_ok h1
      obtain ⟨s2, h3, h1⟩ := bx_ok h1
      exact ⟨by simp, n0, mu_cok hv h2, IH _ ys hy _ _ h3, nb, hrest⟩
    · rw [if_neg (by decide), if_neg (by decide), if_neg (by decide)] at h1
      obtain ⟨_, h2, h1⟩ := bx_ok h1
      exact ⟨by simp, n0, mu_cok hv h2, nb, nb, hrest⟩
    · rw [if_neg (by decide), if_neg (by decide), if_neg (by decide)] at h1
      obtain ⟨_, h2, h1⟩ := bx_ok h1
      exact ⟨by simp, n0, mu_cok hv h2, nb, nb, hrest⟩
    · rw [if_neg (by decide), if_neg (by decide), if_neg (by decide)] at h1
      obtain ⟨_, h2, h1⟩ := bx_ok h1
      have hv : REx 0 (nd 5 b 0 nm' [] .nil .nil (chain ys)) := ⟨e0 + 1, by
        rw [RE]
        exact ⟨by omega, .inr (.inr (.inr (.inr (.inl ⟨_, _, _, hn, hy, rfl⟩))))⟩⟩
      exact ⟨by simp, n0, mu_cok hv h2, nb, nb, hrest⟩
/-- Of a right program. -/
theorem chk_cok {L : List Fun} (hr : ∀ F ∈ L, RF F) (hc : chk L = .ok true) : (L.map (·.nm)).Nodup ∧ (∀ F ∈ L, cokB (fsL L) F.body) ∧ ∃ F, fsL L mainB = some F ∧ F.ps = [] := by
  unfold chk at hc
  obtain ⟨_, h1, hc⟩ := bx_ok hc
  obtain ⟨_, h2, hc⟩ := bx_ok hc
  refine ⟨((twice_ok L []).1 h1).1, fun F hF => ?_, ?_⟩
  · have h3 := (fs_ok (lkL L) L).1 h2 F hF
    unfold ckF at h3
    obtain ⟨s, _, h3⟩ := bx_ok h3
    obtain ⟨s', h4, _⟩ := bx_ok h3
    obtain ⟨_, _, _, xs, e, hb, hx⟩ := hr F hF
    rw [hb] at h4 ⊢
    exact cks_cok e 1 xs hx _ _ h4
  · unfold lkL at hc
    cases hf : L.find? (fun F => F.nm == mainB) with
    | none => rw [hf] at hc; cases hc
    | some F =>
      rw [hf] at hc
      refine ⟨F, hf, ?_⟩
      cases hp : F.ps with
      | nil => rfl
      | cons p ps =>
        simp only [Option.map_some, hp] at hc
        cases hc
theorem as_nil61 (w : World) : (Instr.typeAssert .nilIface 20 61 true).run Tryz.prog w = .ok (.tuple #[.int .i64 0, .bool false]) w := by kernel_rfl
theorem as_end61 (k : Int) (w : World) : (Instr.typeAssert (.iface 61 (.int .i64 k)) 20 61 true).run Tryz.prog w = .ok (.tuple #[.int .i64 k, .bool true]) w := by kernel_rfl
theorem fr16 (a b : Value) : (#[a, b] : Array Value) ++ Array.replicate (16 - (#[a, b] : Array Value).size) undef = #[a, b, undef, undef, undef, undef, undef, undef, undef, undef, undef, undef, undef, undef, undef, undef] := by kernel_rfl
set_option maxRecDepth 100000 in
set_option maxHeartbeats 800000 in
theorem run_idle (B7 B6 : Nat) (w : World) : CallsD Tryz.prog 28 #[ptr B7, ptr B6] .returning w fun e u' w' => e = .returned (.tuple #[]) ∧ u' = .returning ∧ w' = w := by
  have e1 := as_nil61
  refine callsD_of_wpS Tryz.func28 rfl fun c₀ cs hu => ?_
  rw [Tryz.ntmps28, fr16]
  apply wpS_seq
  apply wpS_region
  simp [wpOpsS, go_sem, recoverD, hu, Exit.thenS, e1]
  apply wpS_seq
  apply wpS_region
  simp [wpOpsS, go_sem, Exit.thenS]
  refine wpS_cond (t := false) (by simp [Act.eval]) ?_
  simp only [Bool.false_eq_true, if_false]
  refine wpS_of_wp (wp_skip ?_)
  cases c₀
  simp_all [bodyPostS, results, Tryz.results28, Exit.thenS]
set_option maxRecDepth 100000 in
set_option maxHeartbeats 2000000 in
theorem run_end (B7 B6 P : Nat) (k : Int) (older : List PanicEntry) (p : Option Addr) (l c : Nat) (w : World) (h1 : w.cell? ⟨B7, 0, none⟩ = some (ptr P)) (h2 : w.cell? ⟨P, 2, none⟩ = some (.slice p l c)) {x y z : Value} (h6 : w.heap[B6]? = some (.cells #[x, y, z] 29)) :
    CallsD Tryz.prog 28 #[ptr B7, ptr B6] (.panicking ({ v := .iface 61 (.int .i64 k), recovered := false } :: older)) w fun e u' w' => e = .returned (.tuple #[]) ∧ u' = .panicking ({ v := .iface 61 (.int .i64 k), recovered := true } :: older) ∧ w' = ((w.setCell ⟨B6, 0, none⟩ (.int .i64 k)).setCell ⟨B6, 1, none⟩ (.int .i64 0)).setCell ⟨B6, 2, none⟩ (.slice p l c) := by
  have e1 := as_end61
  have c0 := cell_at (i := 0) h6 rfl
  have c1 := cell_at (i := 1) h6 rfl
  have c2 := cell_at (i := 2) h6 rfl
  have f0 := row_free h6 0
  have f1 := row_free h6 1
  have f2 := row_free h6 2
  refine callsD_of_wpS Tryz.func28 rfl fun c₀ cs hu => ?_
  rw [Tryz.ntmps28, fr16]
  apply wpS_seq
  apply wpS_region
  simp [wpOpsS, go_sem, recoverD, hu, Exit.thenS, e1]
  apply wpS_seq
  apply wpS_region
  simp [wpOpsS, go_sem, Exit.thenS]
  refine wpS_cond (t := true) (by simp [Act.eval]) ?_
  simp only [if_true]
  refine wpS_of_wp ?_
  go_wp2
  simp_all [bodyPostS, results, Tryz.results28, Exit.thenS]
end Go.Proofs.YtnfhpdbbfejioaaGreatDoor
