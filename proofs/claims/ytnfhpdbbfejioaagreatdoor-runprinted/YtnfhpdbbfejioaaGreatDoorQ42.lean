/- HH HI HJ GY -/
import Derived.Test.YtnfhpdbbfejioaaGreatDoorQ24
import Derived.Test.YtnfhpdbbfejioaaGreatDoorQ30
import Derived.Test.YtnfhpdbbfejioaaGreatDoorQ41
namespace Go.Proofs.YtnfhpdbbfejioaaGreatDoor
set_option linter.unusedVariables false
set_option linter.unusedSimpArgs false
set_option maxRecDepth 100000
set_option maxHeartbeats 4000000
open Go Go.RowKit
structure FsI (w : World) (P : Nat) (L : List Fun) (cs : List Value) (wr : World) (i : Nat) : Prop where
 at' : ∃ f, Below w.heap.size w wr ∧ w.heap.size < wr.heap.size ∧ MapV wr w.heap.size i f ∧ ∀ (j : Nat) (F : Fun), j < i → L[j]? = some F → ∃ vp cb, cs[j * 4 + 2]? = some vp ∧ f F.nm = some (.agg #[vp, .func (.func 87) #[] cb]) ∧ BlV wr P F.body (.func (.func 87) #[] cb)
theorem ks_grown {w w' : World} {M : Nat} {es : Array MapEntry} {ck : Nat} (hm : w.heap[M]? = some (.map es ck)) (hg : w.grownBy w' (some M)) : Ks w w' := fun b cs t _ _ hb => by
 have hne : b ≠ M := fun e => by subst e; rw [hm] at hb; cases hb
 rw [hg.block b (Array.getElem?_eq_some_iff.1 hb).1 (fun e => hne (by injection e))]
 exact hb
theorem fs_next {w : World} {P : Nat} {L : List Fun} {cs : List Value} {wr w1 w9 : World} {i : Nat} {F : Fun} {f : By → Option Value} {vp : Value} {cb : Array Value} (hn : (L.map (·.nm)).Nodup) (hF : L[i]? = some F) (hvp : cs[i * 4 + 2]? = some vp)
  (h1 : Below w.heap.size w wr) (hz : w.heap.size < wr.heap.size) (hm : MapV wr w.heap.size i f) (ho : ∀ (j : Nat) (F : Fun), j < i → L[j]? = some F → ∃ vp cb, cs[j * 4 + 2]? = some vp ∧ f F.nm = some (.agg #[vp, .func (.func 87) #[] cb]) ∧ BlV wr P F.body (.func (.func 87) #[] cb))
  (hb : Below wr.heap.size wr w1) (hbl : BlV w1 P F.body (.func (.func 87) #[] cb)) (hm9 : MapV w9 w.heap.size (i + 1) (fun y => if y = F.nm then some (.agg #[vp, .func (.func 87) #[] cb]) else f y)) (hg : w1.grownBy w9 (some w.heap.size)) : FsI w P L cs w9 (i + 1) := by
 obtain ⟨es, ck, hmo⟩ := (hm.kept (hb.block _ hz)).obj
 have hks := ks_grown hmo hg
 refine ⟨⟨_, ?_, Nat.lt_of_lt_of_le hz (Nat.le_trans hb.size hg.size), hm9, fun j G hj hG => ?_⟩⟩
 ·exact (h1.trans (hb.mono (by omega))).grown hg (by have := hb.size; omega) (fun k e => by injection e with e; omega)
 ·by_cases hji : j = i
  ·subst hji
   rw [hF] at hG
   injection hG with hG
   subst hG
   exact ⟨vp, cb, hvp, by simp, hbl.kept hks⟩
  ·obtain ⟨vp', cb', q1, q2, q3⟩ := ho j G (by omega) hG
   refine ⟨vp', cb', q1, ?_, (q3.below hb).kept hks⟩
   have hne : G.nm ≠ F.nm := fun e => by
    obtain ⟨b1, rfl⟩ := List.getElem?_eq_some_iff.1 hG
    obtain ⟨b2, rfl⟩ := List.getElem?_eq_some_iff.1 hF
    have := List.pairwise_iff_getElem.1 hn j i (by simpa using b1) (by simpa using b2) (by omega)
    simp at this
    exact this e
   rw [if_neg hne]
   exact q2
def FnsP (P : Nat) (L : List Fun) (cs : List Value) (w : World) (e : Ending) (w' : World) : Prop := e = .returned (.map (some w.heap.size)) ∧ FsI w P L cs w' L.length
theorem functions_any (w : World) (v : Value) (P : Nat) (L : List Fun) (cs : List Value) (hrow : RowS (Lo w.heap.size) w 86 4 v L.length cs) (hcs : ∀ (i : Nat) (f : Fun), L[i]? = some f → ∃ (vp vb : Value) (nb : Nat) (bcs : List Value), RowS (Lo w.heap.size) w 144 2 vp f.ps.length (psC f.ps) ∧ RowS (Lo w.heap.size) w 147 7 vb nb bcs ∧ StAt (Lo w.heap.size) w f.body bcs ∧ cs[i * 4]? = some (str f.nm) ∧ cs[i * 4 + 1]? = some (.int .i64 f.at') ∧ cs[i * 4 + 2]? = some vp ∧ cs[i * 4 + 3]? = some vb)
  (h12 : L.length ≤ 12) (hg : ∀ F ∈ L, GoodF F ∧ RF F) (hn : (L.map (·.nm)).Nodup) : Calls Tryz.prog 29 #[ptr P, v] w (FnsP P L cs w) := by
 obtain ⟨pv, cv, hv, hcell⟩ : ∃ pv cv, v = .slice pv L.length cv ∧ ∀ i, i < L.length → ∃ g cur, pv = some ⟨g, 0, none⟩ ∧ w.heap[g]? = some (.cells cur 86) ∧ ∀ j, j < 4 → cur[i * 4 + j]? = cs[i * 4 + j]? := by
  obtain ⟨⟨e1, hh⟩, -⟩ := hrow
  rcases hh with ⟨rfl, e2⟩ | ⟨g, cap, cur, rfl, _, hg, hc, _, _, ht⟩
  ·rw [e2]
   exact ⟨none, 0, rfl, fun i hi => by omega⟩
  ·refine ⟨_, cap, rfl, fun i hi => ⟨g, cur, rfl, hg, fun j hj => ?_⟩⟩
   rw [← ht, List.getElem?_take, if_pos (by omega)]
   simp
 subst hv
 obtain ⟨n, hnn⟩ : ∃ n, n = L.length := ⟨_, rfl⟩
 have HN : Hid (n = L.length) := hnn
 have hn6 : n ≤ 12 := by rw [hnn]; exact h12
 rw [← hnn] at hcell ⊢
 have hmm : ∀ W : World, (Instr.makeMap 58 (some (.int .i64 (n : Int)))).run Tryz.prog W = .ok (.map (some W.heap.size)) (W.alloc (.map #[] 0)) := fun W => by simp [Instr.makeMap, go_sem]
 have HCe : Hid (∀ i, i < n → ∃ g cur, pv = some ⟨g, 0, none⟩ ∧ w.heap[g]? = some (.cells cur 86) ∧ ∀ j, j < 4 → cur[i * 4 + j]? = cs[i * 4 + j]?) := hcell
 have HCs : Hid (∀ (i : Nat) (f : Fun), L[i]? = some f → ∃ (vp vb : Value) (nb : Nat) (bcs : List Value), RowS (Lo w.heap.size) w 144 2 vp f.ps.length (psC f.ps) ∧ RowS (Lo w.heap.size) w 147 7 vb nb bcs ∧ StAt (Lo w.heap.size) w f.body bcs ∧ cs[i * 4]? = some (str f.nm) ∧ cs[i * 4 + 1]? = some (.int .i64 f.at') ∧ cs[i * 4 + 2]? = some vp ∧ cs[i * 4 + 3]? = some vb) := hcs
 have HGd : Hid (∀ F ∈ L, GoodF F ∧ RF F) := hg
 have HNd : Hid ((L.map (·.nm)).Nodup) := hn
 clear hrow hcs hcell hg hn h12 hnn
 generalize hG : FnsP P L cs w = G
 have HG : Hid (FnsP P L cs w = G) := hG
 clear hG
 go_enter Tryz.func29, Tryz.ntmps29
 go_upto_region 2 with fail
 have HS0 : Hid (FsI w P L cs (w.alloc (.map #[] 0)) 0) := ⟨⟨_, qm _ _, by simp, MapV.made w, fun j F hj => by omega⟩⟩
 obtain ⟨W4, hW4⟩ : ∃ W4, W4 = w.alloc (.map #[] 0) := ⟨_, rfl⟩
 rw [← hW4] at HS0 ⊢
 clear hW4
 go_wp2_with fail
 go_loopw [13] (fun v wr => ∃ i : Nat, i ≤ n ∧ v = .int .i64 i ∧ Hid (FsI w P L cs wr i)) (fun v _ => n - (intOf v).toNat)
 case atStart => exact ⟨0, Nat.zero_le _, rfl, HS0⟩
 case round =>
  obtain ⟨i, hin, rfl, HI⟩ := hrel
  by_cases hlt2 : i < n
  ·obtain ⟨F, hF⟩ : ∃ F, L[i]? = some F := ⟨L[i]'(by rw [← HN.out]; exact hlt2), List.getElem?_eq_getElem _⟩
   obtain ⟨g, cur, rfl, hg, hgi⟩ := HCe.out i hlt2
   obtain ⟨vp, vb, nb, bcs, a1, a2, a3, q0, q1, q2, q3⟩ := HCs.out i F hF
   obtain ⟨pp, cp, rfl⟩ := slice_form a1
   obtain ⟨pb, cb, rfl⟩ := slice_form a2
   obtain ⟨⟨gd, gc, _⟩, ⟨_, hnam, _, xs, e9, hbd, hrs⟩⟩ := HGd.out F (List.mem_of_getElem? hF)
   have hcm : CmB F.body := by rw [hbd] at gd gc ⊢; exact cmb_all hrs gd gc
   obtain ⟨f, h1, hz, hm, ho⟩ := HI.out.at'
   obtain ⟨ys, hys⟩ : ∃ ys : ByteArray, ys = ⟨F.nm.toArray⟩ := ⟨_, rfl⟩
   have hB := zx h1 hg
   have d0 : wr.cell? ⟨g, i * 4, none⟩ = some (.string ys) := by rw [hys]; exact z_ hB ((hgi 0 (by omega)).trans q0)
   have d1 : wr.cell? ⟨g, i * 4 + 1, none⟩ = some (.int .i64 F.at') := z_ hB ((hgi 1 (by omega)).trans q1)
   have d2 : wr.cell? ⟨g, i * 4 + 2, none⟩ = some (.slice pp F.ps.length cp) := z_ hB ((hgi 2 (by omega)).trans q2)
   have d3 : wr.cell? ⟨g, i * 4 + 3, none⟩ = some (.slice pb nb cb) := z_ hB ((hgi 3 (by omega)).trans q3)
   have hsz : ys.size ≤ 1000000 := by
    have := hnam.2.2.2.2
    rw [hys]
    simp only [ByteArray.size, List.size_toArray]
    omega
   have HC : Hid (∀ W, Below w.heap.size w W → Calls Tryz.prog 53 #[ptr P, .slice pb nb cb] W (BlP P F.body W)) := fun W hb => hcm (Lo w.heap.size) W P _ nb bcs (a2.kept (qa hb) (by decide)) (StAt.kept (qa hb) _ _ a3)
   have HQ : Hid (L[i]? = some F ∧ cs[i * 4 + 2]? = some (.slice pp F.ps.length cp) ∧ Below w.heap.size w wr ∧ w.heap.size < wr.heap.size ∧ MapV wr w.heap.size i f ∧ (∀ (j : Nat) (F : Fun), j < i → L[j]? = some F → ∃ vp cb, cs[j * 4 + 2]? = some vp ∧ f F.nm = some (.agg #[vp, .func (.func 87) #[] cb]) ∧ BlV wr P F.body (.func (.func 87) #[] cb))) := ⟨hF, q2, h1, hz, hm, ho⟩
   have HYs : Hid (ys.data.toList = F.nm) := by rw [hys]; show _ = _; simp
   obtain ⟨np, hnp⟩ : ∃ np, np = F.ps.length := ⟨_, rfl⟩
   obtain ⟨at9, hat9⟩ : ∃ at9, at9 = F.at' := ⟨_, rfl⟩
   rw [← hnp] at d2 HQ
   rw [← hat9] at d1
   have hl9 : (i : Int) < (n : Int) := by omega
   have hzz : w.heap.size ≠ wr.heap.size := by omega
   clear hF hg hgi a1 a2 a3 q0 q1 q2 q3 gd gc hnam hbd hrs hcm h1 hz hm ho hys hB hnp hat9
   go_wp2_with fail
   obtain ⟨W7, hW7⟩ : ∃ W7, W7 = wr.alloc (.cells #[.string ys, .int .i64 at9, .slice pp np cp, .slice pb nb cb] 86) := ⟨_, rfl⟩
   have hB7 : Below wr.heap.size wr W7 := by rw [hW7]; exact qm _ _
   have g7 : W7.heap[wr.heap.size]? = some (.cells #[.string ys, .int .i64 at9, .slice pp np cp, .slice pb nb cb] 86) := by rw [hW7]; exact heap_alloc_last _ _
   have k0 : W7.cell? ⟨wr.heap.size, 0, none⟩ = some (.string ys) := z_ (i := 0) g7 rfl
   have k2 : W7.cell? ⟨wr.heap.size, 2, none⟩ = some (.slice pp np cp) := z_ (i := 2) g7 rfl
   have k3 : W7.cell? ⟨wr.heap.size, 3, none⟩ = some (.slice pb nb cb) := z_ (i := 3) g7 rfl
   have hz7 : wr.heap.size < W7.heap.size := (Array.getElem?_eq_some_iff.1 g7).1
   have HB7 : Hid (Below wr.heap.size wr W7) := hB7
   rw [← hW7]
   clear hW7 g7 hB7 d0 d1 d2 d3
   go_region_held3 (fun w' => w'.cell? ⟨wr.heap.size, 0, none⟩ = some (.string ys) ∧ w'.cell? ⟨wr.heap.size, 2, none⟩ = some (.slice pp np cp) ∧ w'.cell? ⟨wr.heap.size, 3, none⟩ = some (.slice pb nb cb))
    (first | (go_keep; done) | ((try dsimp only); refine ⟨?_, ?_, ?_⟩ <;> first | (go_keep; done) | (go_simp; done) | (simp [*]; done) | assumption))
    (first | (go_at_call 53; refine (HC.out _ ((HQ.out.2.2.1.trans (HB7.out.mono (Nat.le_of_lt HQ.out.2.2.2.1))).drew)).mono ?_; rintro e w1 ⟨cp1, rfl, hbl, hb1⟩; have hb2 : Below wr.heap.size wr w1 := HB7.out.trans ((zu hb1).mono (Nat.le_of_lt hz7)); have hcc := fun b o h => hb1.cell (p := ⟨b, o, none⟩) h; have t0 : w1.cell? ⟨wr.heap.size, 0, none⟩ = some (.string ys) := (hcc _ _ (by simp; omega)).trans (by go_simp); have t2 : w1.cell? ⟨wr.heap.size, 2, none⟩ = some (.slice pp np cp) := (hcc _ _ (by simp; omega)).trans (by go_simp); have t3 : w1.cell? ⟨wr.heap.size, 3, none⟩ = some (.slice pb nb cb) := (hcc _ _ (by simp; omega)).trans (by go_simp); have hmp := (HQ.out.2.2.2.2.1.kept (hb2.block _ HQ.out.2.2.2.1)).put und58 (by omega) ys hsz (.agg #[.slice pp np cp, .func (.func 87) #[] cp1]); obtain ⟨w9, hup, hm9, hg9⟩ := hmp; have s0 : w9.cell? ⟨wr.heap.size, 0, none⟩ = some (.string ys) := (World.cell?_of_block (hg9.block _ (World.block_lt_of_cell? w1 _ t0) (fun e => hzz (Option.some.inj e).symm))).trans t0; have s2 : w9.cell? ⟨wr.heap.size, 2, none⟩ = some (.slice pp np cp) := (World.cell?_of_block (hg9.block _ (World.block_lt_of_cell? w1 _ t2) (fun e => hzz (Option.some.inj e).symm))).trans t2; have s3 : w9.cell? ⟨wr.heap.size, 3, none⟩ = some (.slice pb nb cb) := (World.cell?_of_block (hg9.block _ (World.block_lt_of_cell? w1 _ t3) (fun e => hzz (Option.some.inj e).symm))).trans t3; rw [HYs.out] at hm9; have HI2 : Hid (FsI w P L cs w9 (i + 1)) := fs_next HNd.out HQ.out.1 HQ.out.2.1 HQ.out.2.2.1 HQ.out.2.2.2.1 HQ.out.2.2.2.2.1 HQ.out.2.2.2.2.2 hb2 hbl hm9 hg9; clear hcc hbl hb1 hb2 hm9 hg9))
   go_wp2
   exact ⟨⟨i + 1, by omega, by go_num, HI2⟩, by simp [intOf]; omega⟩
  ·have hin2 : i = n := by omega
   subst hin2
   have HE : Hid (G (.returned (.map (some w.heap.size))) wr) := by
    show G _ _
    rw [← HG.out]
    exact ⟨rfl, by rw [← HN.out]; exact HI.out⟩
   go_wp2
   exact HE.out
abbrev fsL (L : List Fun) : By → Option Fun := fun nm => L.find? (fun F => F.nm == nm)
theorem cok_nil (fs : By → Option Fun) : cokE fs .nil := by unfold cokE; trivial
theorem cok_ce (fs : By → Option Fun) : cokE fs ce := by unfold cokE; trivial
theorem cokb_ce (fs : By → Option Fun) : cokB fs ce := by unfold cokB; trivial
theorem cok_chain {fs : By → Option Fun} : ∀ (xs : List Tr), (∀ x ∈ xs, cokE fs x) → cokE fs (chain xs)
 | [], _ => cok_ce fs
 | x :: xs, h => by
  unfold chain
  rw [cokE]
  exact ⟨h x (by simp), cok_chain xs fun y hy => h y (by simp [hy])⟩
theorem args_ck {lk : By → Option Nm} {ns : Nm} : ∀ (xs : List Tr) (ps : Nm) (r : Int), xs.length = ps.length → ck lk ns (chain xs) ps = .ok r → ∀ x ∈ xs, ∃ k, ck lk ns x [] = .ok k
 | [], _, _, _, _, x, hx => by simp at hx
 | y :: xs, [], _, hl, _, x, hx => by simp at hl
 | y :: xs, p :: ps, r, hl, h, x, hx => by
  unfold chain at h
  rw [ck] at h
  obtain ⟨t, h1, h⟩ := zP h
  obtain ⟨_, _, h⟩ := zP h
  rcases List.mem_cons.1 hx with rfl | hx
  ·exact ⟨t, h1⟩
  ·exact args_ck xs ps r (by simpa using hl) h x hx
theorem nam_few {nm : By} (h : Nam nm) : nm.length ≤ 1000000 := by
 have := h.2.2.2.2
 omega
theorem ck_cok {L : List Fun} : ∀ (f d : Nat) (t : Tr), RE f d t → ∀ (ns : Nm) (k : Int), ck (lkL L) ns t [] = .ok k → cokE (fsL L) t
 | 0, _, _, h, _, _, _ => by rw [RE] at h; exact h.elim
 | f + 1, d, t, h, ns, k, hk => by
  rw [RE] at h
  obtain ⟨_, h⟩ := h
  have n0 := cok_nil (fsL L)
  have n1 := cok_ce (fsL L)
  rcases h with ⟨a, n, _, _, rfl⟩ | ⟨a, nm, hn, rfl⟩ | ⟨a, op, l, r, _, hl, hr, rfl⟩ | ⟨a, op, l, _, hl, rfl⟩ | ⟨a, nm, xs, hn, hx, rfl⟩ | ⟨a, l, hl, rfl⟩ | ⟨a, l, hl, rfl⟩ | ⟨a, l, r, hl, hr, rfl⟩ | ⟨a, rfl⟩
  all_goals rw [cokE]
  all_goals rw [ck] at hk
  ·exact ⟨by simp, n0, n0, n1, fun e => absurd e (by decide)⟩
  ·exact ⟨nam_few hn, n0, n0, n1, fun e => absurd e (by decide)⟩
  ·rw [if_neg (by decide), if_pos rfl] at hk
   obtain ⟨_, h1, hk⟩ := zP hk
   obtain ⟨_, _, hk⟩ := zP hk
   obtain ⟨_, h2, hk⟩ := zP hk
   exact ⟨by simp, ck_cok f _ l hl ns _ h1, ck_cok f _ r hr ns _ h2, n1, fun e => absurd e (by decide)⟩
  ·rw [if_neg (by decide), if_neg (by decide), if_pos rfl] at hk
   obtain ⟨_, h1, hk⟩ := zP hk
   exact ⟨by simp, ck_cok f _ l hl ns _ h1, n0, n1, fun e => absurd e (by decide)⟩
  ·rw [if_neg (by decide), if_neg (by decide), if_neg (by decide), if_pos rfl] at hk
   unfold lkL at hk
   cases hF : L.find? (fun F => F.nm == nm) with
   | none => rw [hF] at hk; cases hk
   | some F =>
    rw [hF] at hk
    simp only [Option.map_some] at hk
    by_cases hc : chl (chain xs) = F.ps.length
    ·rw [if_neg (by simp [hc])] at hk
     obtain ⟨_, h1, hk⟩ := zP hk
     have hl : xs.length = F.ps.length := by rw [← hc, qc]
     refine ⟨nam_few hn, n0, n0, cok_chain xs fun x hx' => ?_, fun _ => ⟨F, hF, hc.symm⟩⟩
     obtain ⟨k', hk'⟩ := args_ck xs F.ps _ hl h1 x hx'
     exact ck_cok f _ x (hx x hx') ns k' hk'
    ·rw [if_pos hc] at hk
     cases hk
  ·rw [if_neg (by decide), if_neg (by decide), if_neg (by decide), if_neg (by decide), if_pos rfl] at hk
   obtain ⟨_, h1, hk⟩ := zP hk
   exact ⟨by simp, ck_cok f _ l hl ns _ h1, n0, n1, fun e => absurd e (by decide)⟩
  ·rw [if_neg (by decide), if_neg (by decide), if_neg (by decide), if_neg (by decide), if_neg (by decide), if_pos rfl] at hk
   obtain ⟨_, h1, hk⟩ := zP hk
   exact ⟨by simp, ck_cok f _ l hl ns _ h1, n0, n1, fun e => absurd e (by decide)⟩
  ·rw [if_neg (by decide), if_neg (by decide), if_neg (by decide), if_neg (by decide), if_neg (by decide), if_neg (by decide), if_pos rfl] at hk
   obtain ⟨_, h1, hk⟩ := zP hk
   obtain ⟨_, _, hk⟩ := zP hk
   obtain ⟨_, h2, hk⟩ := zP hk
   exact ⟨by simp, ck_cok f _ l hl ns _ h1, ck_cok f _ r hr ns _ h2, n1, fun e => absurd e (by decide)⟩
  ·exact ⟨by simp, n0, n0, n1, fun e => absurd e (by decide)⟩
theorem mu_cok {L : List Fun} {d : Nat} {t : Tr} (h : REx d t) {ns : Nm} {k : Int} (hk : mu (lkL L) ns t k = .ok ()) : cokE (fsL L) t := by
 obtain ⟨e, h⟩ := h
 unfold mu at hk
 obtain ⟨t', h1, _⟩ := zP hk
 exact ck_cok e d t h ns t' h1
def cksS (lk : By → Option Nm) (s : Nm × Nat) (c a : Int) (nm : By) (ix v th el : Tr) : X (Nm × Nat) :=
 if c = 1 then bx (ck lk s.1 v []) fun t => addV s (nm, t) a
 else if c = 2 then (match ja s.1 nm with | none => .error (7, a) | some k => bx (mu lk s.1 v k) fun _ => .ok s)
 else if c = 3 then (match ja s.1 nm with | none => .error (7, a) | some k => if k ≠ 2 then .error (1, a) else bx (mu lk s.1 ix 1) fun _ => bx (mu lk s.1 v 1) fun _ => .ok s)
 else bx (mu lk s.1 v 1) fun _ => bx (cks lk th s) fun s1 => bx (cks lk el (s.1, s1.2)) fun s2 => .ok (s.1, s2.2)
theorem cks_cons (lk : By → Option Nm) (c a : Int) (nm : By) (ix v th el g : Tr) (s : Nm × Nat) : cks lk (cc (st c a nm ix v th el) g) s = bx (cksS lk s c a nm ix v th el) fun s' => cks lk g s' := by rw [cks]; rfl
theorem cks_cok {L : List Fun} : ∀ (f d : Nat) (xs : List Tr), (∀ x ∈ xs, RS f d x) → ∀ (s s' : Nm × Nat), cks (lkL L) (chain xs) s = .ok s' → cokB (fsL L) (chain xs)
 | 0, d, xs, h, s, s', hk => by
  cases xs with
  | nil => exact cokb_ce _
  | cons x xs => exact (h x (by simp)).elim
 | f + 1, d, [], h, s, s', hk => cokb_ce _
 | f + 1, d, x :: xs, h, s, s', hk => by
  have hx := h x (by simp)
  have IH := fun (d : Nat) (xs : List Tr) (h : ∀ x ∈ xs, RS f d x) (s s' : Nm × Nat) (hk : cks (lkL L) (chain xs) s = .ok s') => cks_cok (L := L) f d xs h s s' hk
  have n0 := cok_nil (fsL L)
  have nb := cokb_ce (fsL L)
  unfold chain at hk ⊢
  rw [RS] at hx
  rcases hx with ⟨a', nm', v', hn, hv, rfl⟩ | ⟨a', nm', v', hn, hv, rfl⟩ | ⟨a', nm', i, v', hn, hi, hv, rfl⟩ | ⟨a', v', ys, zs, hd, hv, hy, hz, rfl⟩ | ⟨a', v', ys, hd, hv, hy, rfl⟩ | ⟨a', v', hv, rfl⟩ | ⟨a', v', hv, rfl⟩ | ⟨a', b, nm', ys, hn, ⟨e0, hy⟩, rfl⟩
  all_goals rw [cks_cons] at hk
  all_goals obtain ⟨s1, h1, hk⟩ := zP hk
  all_goals have hrest := cks_cok (f + 1) d xs (fun y hy => h y (by simp [hy])) s1 s' hk
  all_goals rw [cokB]
  all_goals unfold cksS at h1
  ·rw [if_pos rfl] at h1
   obtain ⟨t, h2, _⟩ := zP h1
   obtain ⟨e, hv⟩ := hv
   exact ⟨nam_few hn, n0, ck_cok e _ v' hv _ _ h2, nb, nb, hrest⟩
  ·rw [if_neg (by decide), if_pos rfl] at h1
   cases hf : ja s.1 nm' with
   | none => rw [hf] at h1; cases h1
   | some k =>
    rw [hf] at h1
    obtain ⟨_, h2, _⟩ := zP h1
    exact ⟨nam_few hn, n0, mu_cok hv h2, nb, nb, hrest⟩
  ·rw [if_neg (by decide), if_neg (by decide), if_pos rfl] at h1
   cases hf : ja s.1 nm' with
   | none => rw [hf] at h1; cases h1
   | some k =>
    rw [hf] at h1
    simp only at h1
    by_cases hk2 : k = 2
    ·rw [if_neg (by simp [hk2])] at h1
     obtain ⟨_, h2, h1⟩ := zP h1
     obtain ⟨_, h3, h1⟩ := zP h1
     exact ⟨nam_few hn, mu_cok hi h2, mu_cok hv h3, nb, nb, hrest⟩
    ·rw [if_pos hk2] at h1
     cases h1
  ·rw [if_neg (by decide), if_neg (by decide), if_neg (by decide)] at h1
   obtain ⟨_, h2, h1⟩ := zP h1
   obtain ⟨s2, h3, h1⟩ := zP h1
   obtain ⟨s3, h4, h1⟩ := zP h1
   exact ⟨by simp, n0, mu_cok hv h2, IH _ ys hy _ _ h3, IH _ zs hz _ _ h4, hrest⟩
  ·rw [if_neg (by decide), if_neg (by decide), if_neg (by decide)] at h1
   obtain ⟨_, h2, h1⟩ := zP h1
   obtain ⟨s2, h3, h1⟩ := zP h1
   exact ⟨by simp, n0, mu_cok hv h2, IH _ ys hy _ _ h3, nb, hrest⟩
  ·rw [if_neg (by decide), if_neg (by decide), if_neg (by decide)] at h1
   obtain ⟨_, h2, h1⟩ := zP h1
   exact ⟨by simp, n0, mu_cok hv h2, nb, nb, hrest⟩
  ·rw [if_neg (by decide), if_neg (by decide), if_neg (by decide)] at h1
   obtain ⟨_, h2, h1⟩ := zP h1
   exact ⟨by simp, n0, mu_cok hv h2, nb, nb, hrest⟩
  ·rw [if_neg (by decide), if_neg (by decide), if_neg (by decide)] at h1
   obtain ⟨_, h2, h1⟩ := zP h1
   have hv : REx 0 (nd 5 b 0 nm' [] .nil .nil (chain ys)) := ⟨e0 + 1, by
    rw [RE]
    exact ⟨by omega, .inr (.inr (.inr (.inr (.inl ⟨_, _, _, hn, hy, rfl⟩))))⟩⟩
   exact ⟨by simp, n0, mu_cok hv h2, nb, nb, hrest⟩
theorem chk_cok {L : List Fun} (hr : ∀ F ∈ L, RF F) (hc : chk L = .ok true) : (L.map (·.nm)).Nodup ∧ (∀ F ∈ L, cokB (fsL L) F.body) ∧ ∃ F, fsL L mainB = some F ∧ F.ps = [] := by
 unfold chk at hc
 obtain ⟨_, h1, hc⟩ := zP hc
 obtain ⟨_, h2, hc⟩ := zP hc
 refine ⟨((twice_ok L []).1 h1).1, fun F hF => ?_, ?_⟩
 ·have h3 := (fs_ok (lkL L) L).1 h2 F hF
  unfold ckF at h3
  obtain ⟨s, _, h3⟩ := zP h3
  obtain ⟨s', h4, _⟩ := zP h3
  obtain ⟨_, _, _, xs, e, hb, hx⟩ := hr F hF
  rw [hb] at h4 ⊢
  exact cks_cok e 1 xs hx _ _ h4
 ·unfold lkL at hc
  cases hf : L.find? (fun F => F.nm == mainB) with
  | none => rw [hf] at hc; cases hc
  | some F =>
   rw [hf] at hc
   refine ⟨F, hf, ?_⟩
   cases hp : F.ps with
   | nil => rfl
   | cons p ps =>
    simp only [Option.map_some, hp] at hc
    cases hc
theorem as_nil61 (w : World) : (Instr.typeAssert .nilIface 20 61 true).run Tryz.prog w = .ok (.tuple #[.int .i64 0, .bool false]) w := by kernel_rfl
theorem as_end61 (k : Int) (w : World) : (Instr.typeAssert (.iface 61 (.int .i64 k)) 20 61 true).run Tryz.prog w = .ok (.tuple #[.int .i64 k, .bool true]) w := by kernel_rfl
theorem fr16 (a b : Value) : (#[a, b] : Array Value) ++ Array.replicate (16 - (#[a, b] : Array Value).size) undef = #[a, b, undef, undef, undef, undef, undef, undef, undef, undef, undef, undef, undef, undef, undef, undef] := by kernel_rfl
theorem run_idle (B7 B6 : Nat) (w : World) : CallsD Tryz.prog 28 #[ptr B7, ptr B6] .returning w fun e u' w' => e = .returned (.tuple #[]) ∧ u' = .returning ∧ w' = w := by
 have e1 := as_nil61
 refine callsD_of_wpS Tryz.func28 rfl fun c₀ cs hu => ?_
 rw [Tryz.ntmps28, fr16]
 apply wpS_seq
 apply wpS_region
 simp [wpOpsS, go_sem, recoverD, hu, Exit.thenS, e1]
 apply wpS_seq
 apply wpS_region
 simp [wpOpsS, go_sem, Exit.thenS]
 refine wpS_cond (t := false) (by simp [Act.eval]) ?_
 simp only [Bool.false_eq_true, if_false]
 refine wpS_of_wp (wp_skip ?_)
 cases c₀
 simp_all [bodyPostS, results, Tryz.results28, Exit.thenS]
theorem run_end (B7 B6 P : Nat) (k : Int) (older : List PanicEntry) (p : Option Addr) (l c : Nat) (w : World) (h1 : w.cell? ⟨B7, 0, none⟩ = some (ptr P)) (h2 : w.cell? ⟨P, 2, none⟩ = some (.slice p l c)) {x y z : Value} (h6 : w.heap[B6]? = some (.cells #[x, y, z] 29)) :
  CallsD Tryz.prog 28 #[ptr B7, ptr B6] (.panicking ({ v := .iface 61 (.int .i64 k), recovered := false } :: older)) w fun e u' w' => e = .returned (.tuple #[]) ∧ u' = .panicking ({ v := .iface 61 (.int .i64 k), recovered := true } :: older) ∧ w' = ((w.setCell ⟨B6, 0, none⟩ (.int .i64 k)).setCell ⟨B6, 1, none⟩ (.int .i64 0)).setCell ⟨B6, 2, none⟩ (.slice p l c) := by
 have e1 := as_end61
 have c0 := z_ (i := 0) h6 rfl
 have c1 := z_ (i := 1) h6 rfl
 have c2 := z_ (i := 2) h6 rfl
 have f0 := zb h6 0
 have f1 := zb h6 1
 have f2 := zb h6 2
 refine callsD_of_wpS Tryz.func28 rfl fun c₀ cs hu => ?_
 rw [Tryz.ntmps28, fr16]
 apply wpS_seq
 apply wpS_region
 simp [wpOpsS, go_sem, recoverD, hu, Exit.thenS, e1]
 apply wpS_seq
 apply wpS_region
 simp [wpOpsS, go_sem, Exit.thenS]
 refine wpS_cond (t := true) (by simp [Act.eval]) ?_
 simp only [if_true]
 refine wpS_of_wp ?_
 go_wp2
 simp_all [bodyPostS, results, Tryz.results28, Exit.thenS]
theorem ClE.nil {w : World} {P : Nat} {v : Value} (h : ClE w P .nil v) : False := by unfold ClE at h; exact h
theorem ClE.form {w : World} {P : Nat} {t : Tr} {v : Value} (hn : IsNd t) (h : ClE w P t v) : ∃ k cap, v = .func (.func k) #[] cap ∧ Ent k := by
 obtain ⟨c, a, n, nm, op, l, r, g, rfl⟩ := hn
 rw [ClE] at h
 rcases h with ⟨_, bx, rfl, _⟩ | ⟨_, bx, rfl, _⟩ | ⟨_, bx, bl, br, vl, vr, rfl, _⟩ | ⟨_, bl, vl, rfl, _⟩ | ⟨_, bp, bx, ba, g, ys, rfl, _⟩ | ⟨_, bl, vl, rfl, _⟩ | ⟨_, bl, vl, rfl, _⟩ | ⟨_, bl, br, vl, vr, rfl, _⟩ | ⟨_, bp, rfl, _⟩
 ·exact ⟨_, _, rfl, ent200⟩
 ·exact ⟨_, _, rfl, ent189⟩
 ·split
  ·exact ⟨_, _, rfl, ent222⟩
  ·split
   ·exact ⟨_, _, rfl, ent224⟩
   ·exact ⟨_, _, rfl, ent225⟩
 ·split
  ·exact ⟨_, _, rfl, ent227⟩
  ·exact ⟨_, _, rfl, ent228⟩
 ·exact ⟨_, _, rfl, ent229⟩
 ·exact ⟨_, _, rfl, ent193⟩
 ·exact ⟨_, _, rfl, ent195⟩
 ·exact ⟨_, _, rfl, ent197⟩
 ·exact ⟨_, _, rfl, ent198⟩
theorem jg {t : Tr} (h : t = .nil ∨ IsNd t) {w : World} {P : Nat} {v : Value} (hc : ClE w P t v) : IsNd t := by
 rcases h with rfl | h
 ·exact hc.nil.elim
 ·exact h
theorem cle_chain {w : World} {P : Nat} {fs : By → Option Fun} : ∀ (xs : List Tr) (ys : List Value), ClE w P (chain xs) (.tuple ys.toArray) → zy (chain xs) → cokE fs (chain xs) →
  ys.length = xs.length ∧ ∀ (i : Nat) (x : Tr) (u : Value), xs[i]? = some x → ys[i]? = some u → IsNd x ∧ zy x ∧ ClE w P x u ∧ cokE fs x
 | [], ys, h, _, _ => by
  unfold chain at h
  rw [ClE] at h
  have : ys = [] := by simpa using h
  subst this
  exact ⟨rfl, fun i x u hx => by simp at hx⟩
 | x :: xs, ys, h, hg, hk => by
  unfold chain at h hg hk
  rw [ClE] at h
  rw [zy] at hg
  rw [cokE] at hk
  obtain ⟨y, ys', e, h1, h2⟩ := h
  have e' : ys = y :: ys' := by simpa using e
  subst e'
  obtain ⟨a1, a2⟩ := cle_chain xs ys' h2 hg.2.2 hk.2
  refine ⟨by simp [a1], fun i x' u hx hu => ?_⟩
  cases i with
  | zero =>
   simp only [List.getElem?_cons_zero, Option.some.injEq] at hx hu
   subst hx hu
   exact ⟨hg.1, hg.2.1, h1, hk.1⟩
  | succ i =>
   simp only [List.getElem?_cons_succ] at hx hu
   exact a2 i x' u hx hu
theorem clb_open {w : World} {P : Nat} {fs : By → Option Fun} : ∀ (t : Tr) (us : List Value), zM t → ClB w P t us → cokB fs t →
  ∃ xs, t = chain xs ∧ us.length = xs.length ∧ ∀ (i : Nat) (x : Tr) (u : Value), xs[i]? = some x → us[i]? = some u → ∃ t' us', zM (cc x t') ∧ ClB w P (cc x t') (u :: us') ∧ cokB fs (cc x t')
 | t, us, hg, h, hk => by
  have hg0 := hg
  unfold zM at hg
  split at hg
  ·rename_i c a nm ix v th el g
   have h0 := h
   have hk0 := hk
   rw [ClB] at h
   rw [cokB] at hk
   obtain ⟨u, rest, rfl, hr, _⟩ := h
   obtain ⟨_, _, _, _, _, _, _, _, _, _, gg⟩ := hg
   obtain ⟨xs, e, a1, a2⟩ := clb_open g rest gg hr hk.2.2.2.2.2
   refine ⟨_ :: xs, by rw [e]; rfl, by simp [a1], fun i x' u' hx hu => ?_⟩
   cases i with
   | zero =>
    simp only [List.getElem?_cons_zero, Option.some.injEq] at hx hu
    subst hx hu
    exact ⟨g, rest, hg0, h0, hk0⟩
   | succ i =>
    simp only [List.getElem?_cons_succ] at hx hu
    exact a2 i x' u' hx hu
  ·rw [ClB] at h
   subst h
   exact ⟨[], rfl, rfl, fun i x u hx => by simp at hx⟩
  ·exact hg.elim
theorem clb_form {w : World} {P : Nat} {x t : Tr} {u : Value} {us : List Value} (hg : zM (cc x t)) (h : ClB w P (cc x t) (u :: us)) : ∃ kf cf, u = .func (.func kf) #[] cf := by
 obtain ⟨c, a, nm, ix, v, th, el, rfl, _⟩ := qQ hg
 rw [ClB] at h
 obtain ⟨u', rest, e, _, h⟩ := h
 injection e with e _
 subst e
 rcases h with ⟨_, bi, bv, bs, vi, vv, rfl, _⟩ | ⟨_, bv, bt, be, vt, ve, vv, at', ae, pt, pe, gt', ge, ts, es, rfl, _⟩ | ⟨_, bv, bt, bp, vv, vt, at', pt, gt', ts, rfl, _⟩ | ⟨_, bv, vv, rfl, _⟩ | ⟨_, bp, bv, vv, rfl, _⟩ | ⟨_, bv, vv, rfl, _⟩ | ⟨_, bv, bs, vv, rfl, _⟩
 all_goals exact ⟨_, _, rfl⟩
structure FnR (X : Cx) (nm : By) (F : Fun) : Prop where
 go : ∃ (q9 : Option Addr) (cp kb : Nat) (cb : Array Value), (∃ Mf nf f, X.fv = .map (some Mf) ∧ MapV X.w0 Mf nf f ∧ f nm = some (.agg #[.slice q9 F.ps.length cp, .func (.func kb) #[] cb])) ∧ (∀ (i : Nat) (p : By × Int), F.ps[i]? = some p → ∃ g9 cs, q9 = some ⟨g9, 0, none⟩ ∧ X.w0.heap[g9]? = some (.cells cs 144) ∧ cs[i * 2]? = some (str p.1)) ∧ BlV X.w0 X.P F.body (.func (.func kb) #[] cb)
 few : ∀ p ∈ F.ps, p.1.length ≤ 1000000
 good : GoodF F
 ok : cokB X.fs F.body
abbrev AllE (X : Cx) (g : Nat) : Prop := ∀ t v, IsNd t → zy t → ClE X.w0 X.P t v → cokE X.fs t → GoE X g t v
abbrev AllS (X : Cx) (g : Nat) : Prop := ∀ x t u us, zM (cc x t) → ClB X.w0 X.P (cc x t) (u :: us) → cokB X.fs (cc x t) → GoS X g x u
abbrev AllB (X : Cx) (g : Nat) : Prop := ∀ t v, zM t → chl t ≤ 1000000 → BlV X.w0 X.P t v → cokB X.fs t → GoB X g t v
theorem blk_all {X : Cx} (hP : PbO X) {g : Nat} (hS : ∀ g', g' ≤ g → AllS X g') : AllB X g := fun t v hg hc hb hk => by
 obtain ⟨a, p, gr, ts, rfl, h1, h2, h3, h4⟩ := hb
 obtain ⟨xs, rfl, e1, e2⟩ := clb_open t ts hg h4 hk
 rw [qc] at hc
 refine go_block hP h1 h2 h3 e1 hc (fun i u hu => ?_) (fun i x u hx hu g' hg' => ?_)
 ·obtain ⟨x, hx⟩ : ∃ x, xs[i]? = some x := ⟨xs[i]'(by rw [← e1]; exact (List.getElem?_eq_some_iff.1 hu).1), List.getElem?_eq_getElem _⟩
  obtain ⟨t', us', b1, b2, _⟩ := e2 i x u hx hu
  exact clb_form b1 b2
 ·obtain ⟨t', us', b1, b2, b3⟩ := e2 i x u hx hu
  exact hS g' hg' x t' u us' b1 b2 b3
theorem ex_step {X : Cx} (hP : PbO X) (hF : ∀ nm F, X.fs nm = some F → FnR X nm F) {g : Nat} (hE : ∀ g', g' ≤ g → AllE X g') (hS : ∀ g', g' ≤ g → AllS X g') : AllE X (g + 1) := fun t v hn hg hc hk => by
 obtain ⟨c, a, n, nm, op, l, r, xg, rfl⟩ := hn
 have iE := hE g (Nat.le_refl _)
 rw [zy] at hg
 rw [cokE] at hk
 rw [ClE] at hc
 obtain ⟨_, _, _, _, tl, tr, gl, gr, gg, xs, hxs, hlen⟩ := hg
 obtain ⟨hnm, kl, kr, kg, kc⟩ := hk
 rcases hc with ⟨rfl, bx, rfl, e1⟩ | ⟨rfl, bx, rfl, e1⟩ | ⟨rfl, bx, bl, br, vl, vr, rfl, e1, e2, e3, e4, e5⟩ | ⟨rfl, bl, vl, rfl, e1, e2⟩ | ⟨rfl, bp, bx, ba, gq, ys, rfl, e1, e2, e3, e4, e5⟩ | ⟨rfl, bl, vl, rfl, e1, e2⟩ | ⟨rfl, bl, vl, rfl, e1, e2⟩ | ⟨rfl, bl, br, vl, vr, rfl, e1, e2, e3, e4⟩ | ⟨rfl, bp, rfl, e1⟩
 ·exact go_num hP e1
 ·exact go_name hP e1 hnm
 ·have iL := iE l vl (jg tl e4) gl e4 kl
  have iR := iE r vr (jg tr e5) gr e5 kr
  split
  ·rename_i h; exact go_and hP h e2 e3 iL iR
  ·split
   ·rename_i h; exact go_or hP h e2 e3 iL iR
   ·rename_i h1 h2; exact go_two hP h1 h2 e1 e2 e3 iL iR
 ·have iL := iE l vl (jg tl e2) gl e2 kl
  split
  ·rename_i h; exact go_neg hP h e1 iL
  ·rename_i h; exact go_not hP h e1 iL
 ·obtain ⟨F, hf, hps⟩ := kc rfl
  subst hxs
  rw [qc] at hps
  obtain ⟨b1, b2⟩ := cle_chain xs ys e5 gg kg
  have R := hF nm F hf
  obtain ⟨q9, cp, kb, cb, f1, f2, f3⟩ := R.go
  have ek : Ent kb := by
   obtain ⟨_, _, _, _, e, _⟩ := f3
   injection e with e _ _
   injection e with e
   subst e
   exact ent87
  refine go_call hP (q9 := q9) (cp := cp) (kb := kb) (cb := cb) ⟨hf, f1, f2, R.few, fun g' hg' => blk_all hP (fun g'' h => hS g'' (by omega)) F.body _ R.good.1 R.good.2.1 f3 R.ok, ek⟩ hnm e1 e2 e3 e4 b1 hps hlen (fun i u hu => ?_) (fun i x u hx hu g' hg' => ?_)
  ·obtain ⟨x, hx⟩ : ∃ x, xs[i]? = some x := ⟨xs[i]'(by rw [← b1]; exact (List.getElem?_eq_some_iff.1 hu).1), List.getElem?_eq_getElem _⟩
   obtain ⟨d1, _, d3, _⟩ := b2 i x u hx hu
   obtain ⟨k, cap, e, _⟩ := d3.form d1
   exact ⟨k, cap, e⟩
  ·obtain ⟨d1, d2, d3, d4⟩ := b2 i x u hx hu
   exact hE g' hg' x u d1 d2 d3 d4
 ·exact go_new hP e1 (iE l vl (jg tl e2) gl e2 kl)
 ·exact go_len hP e1 (iE l vl (jg tl e2) gl e2 kl)
 ·exact go_item hP e1 e2 (iE l vl (jg tl e3) gl e3 kl) (iE r vr (jg tr e4) gr e4 kr)
 ·exact go_input hP e1
theorem st_step {X : Cx} (hP : PbO X) {g : Nat} (hE : ∀ g', g' ≤ g → AllE X g') (hS : ∀ g', g' ≤ g → AllS X g') : AllS X (g + 1) := fun x t u us hg hc hk => by
 obtain ⟨c, a, nm, ix, v, th, el, rfl, _, _, ti, gi, tv, gv, gt, lt, ge, le, _⟩ := qQ hg
 have iE := hE g (Nat.le_refl _)
 have iB : ∀ g', g' ≤ g → AllB X g' := fun g' h => blk_all hP (fun g'' h' => hS g'' (by omega))
 rw [cokB] at hk
 rw [ClB] at hc
 obtain ⟨hnm, ki, kv, kt, ke, _⟩ := hk
 obtain ⟨u', rest, e, _, hc⟩ := hc
 injection e with e _
 subst e
 rcases hc with ⟨rfl, bi, bv, bs, vi, vv, rfl, e1, e2, e3, e4, e5⟩ | ⟨rfl, bv, bt, be, vt, ve, vv, at', ae, pt, pe, gt', ge', ts, es, rfl, e1, e2, e3, e4, t1, t2, t3, t4, t5, s1, s2, s3, s4, s5⟩ | ⟨rfl, bv, bt, bp, vv, vt, at', pt, gt', ts, rfl, e1, e2, e3, e4, t1, t2, t3, t4, t5⟩ | ⟨rfl, bv, vv, rfl, e1, e2⟩ | ⟨rfl, bp, bv, vv, rfl, e1, e2, e3⟩ | ⟨rfl, bv, vv, rfl, e1, e2⟩ | ⟨hc12, bv, bs, vv, rfl, e1, e2, e3⟩
 ·exact go_put3 hP hnm e3 e1 e2 (iE ix vi (jg ti e4) gi e4 ki) (iE v vv (jg tv e5) gv e5 kv)
 ·exact go_if4 hP e1 e2 e3 (iE v vv (jg tv e4) gv e4 kv) (iB g (Nat.le_refl _) th vt gt lt ⟨at', pt, gt', ts, t1, t2, t3, t4, t5⟩ kt) (iB g (Nat.le_refl _) el ve ge le ⟨ae, pe, ge', es, s1, s2, s3, s4, s5⟩ ke)
 ·have nv := jg tv e4
  obtain ⟨kk, cap, rfl, ek⟩ := e4.form nv
  subst t1
  exact go_while5 hP e1 e2 e3 (fun g' h => hE g' h v _ nv gv e4 kv) (fun g' h => iB g' h th _ gt lt ⟨at', pt, gt', ts, rfl, t2, t3, t4, t5⟩ kt) ek ent87
 ·exact go_ret6 hP e1 (iE v vv (jg tv e2) gv e2 kv)
 ·exact go_print7 hP e1 e2 (iE v vv (jg tv e3) gv e3 kv)
 ·exact go_do8 hP e1 (iE v vv (jg tv e2) gv e2 kv)
 ·exact go_set1 hP hc12 hnm e2 e1 (iE v vv (jg tv e3) gv e3 kv)
theorem all_go {X : Cx} (hP : PbO X) (hF : ∀ nm F, X.fs nm = some F → FnR X nm F) : ∀ g : Nat, ∀ g', g' ≤ g → AllE X g' ∧ AllS X g'
 | 0, g', h => by
  obtain rfl : g' = 0 := by omega
  exact ⟨fun t v _ _ _ _ w r d M n o _ _ hne => absurd rfl (hne r.s.out), fun x t u us _ _ _ w r d M n K o _ _ _ _ _ hne => absurd rfl (hne r.s.out)⟩
 | g + 1, g', h => by
  by_cases hg : g' ≤ g
  ·exact all_go hP hF g g' hg
  ·obtain rfl : g' = g + 1 := by omega
   exact ⟨ex_step hP hF (fun g' h => (all_go hP hF g g' h).1) (fun g' h => (all_go hP hF g g' h).2), st_step hP (fun g' h => (all_go hP hF g g' h).1) (fun g' h => (all_go hP hF g g' h).2)⟩
theorem body_go {X : Cx} (hP : PbO X) (hF : ∀ nm F, X.fs nm = some F → FnR X nm F) (g : Nat) : AllB X g := blk_all hP fun g' h => (all_go hP hF g g' h).2
end Go.Proofs.YtnfhpdbbfejioaaGreatDoor
