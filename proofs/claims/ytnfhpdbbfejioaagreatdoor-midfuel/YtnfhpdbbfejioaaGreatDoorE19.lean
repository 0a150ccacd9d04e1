/- CG CH -/
import Derived.Test.YtnfhpdbbfejioaaGreatDoorE18
namespace Go.Proofs.YtnfhpdbbfejioaaGreatDoor
set_option linter.unusedVariables false
set_option linter.unusedSimpArgs false
set_option maxRecDepth 100000
set_option maxHeartbeats 16000000
open Go Go.RowKit
theorem j_len (A : ByteArray) : A.data.toList.length = A.size := by simp
theorem ixf_lk (nm : By) : ∀ (fs : List Fun), (∃ (i : Nat) (F : Fun), ixF nm fs = some i ∧ fs[i]? = some F ∧ i < fs.length ∧ lkL fs nm = some F.ps) ∨ (ixF nm fs = none ∧ lkL fs nm = none)
 | [] => .inr ⟨rfl, rfl⟩
 | G :: fs => by
  unfold lkL
  rw [ixF, List.find?_cons]
  by_cases h : G.nm = nm
  ·have : (G.nm == nm) = true := by simpa using h
   rw [if_pos h, this]
   exact .inl ⟨0, G, rfl, rfl, by simp, rfl⟩
  ·have : (G.nm == nm) = false := by simpa using h
   rw [if_neg h, this]
   rcases ixf_lk nm fs with ⟨i, x, h1, h2, h3, h4⟩ | ⟨h1, h2⟩
   ·exact .inl ⟨i + 1, x, by rw [h1]; rfl, by simpa using h2, by simpa using h3, h4⟩
   ·exact .inr ⟨by rw [h1]; rfl, h2⟩
theorem ck_5 (lk : By → Option Nm) (ns : Nm) (a n : Int) (nm op : By) (l r g : Tr) : ck lk ns (nd 5 a n nm op l r g) [] = (match lk nm with | none => .error (7, a) | some ps => if chl g ≠ ps.length then .error (2, a) else bx (ck lk ns g ps) fun _ => .ok 1) := by
 rw [ck]
 simp
 cases lk nm <;> simp
theorem ck_cc (lk : By → Option Nm) (ns : Nm) (x : Tr) (xs : List Tr) (p : By × Int) (ps : Nm) : ck lk ns (chain (x :: xs)) (p :: ps) = bx (mu lk ns x p.2) fun _ => ck lk ns (chain xs) ps := by
 show ck lk ns (.slice [x] [chain xs]) (p :: ps) = _
 rw [ck]
 simp [mu, qw]
theorem ck_end (lk : By → Option Nm) (ns : Nm) : ck lk ns (chain []) [] = .ok 0 := by
 show ck lk ns (.slice [] []) [] = _
 rw [ck]
 all_goals simp
def cv (lk : By → Option Nm) (ns : Nm) (t : Tr) : X Unit := bx (ck lk ns t []) fun _ => .ok ()
theorem call_any {a n : Int} {nm op : By} {l r : Tr} {xs : List Tr} (IH : ∀ x ∈ xs, MuC x ∧ IsNd x) (hnm : nm.length ≤ 12) (hxs : xs.length ≤ 1000000) (w : World) (C : Nat) (fv mv nv : Value) (fs : List Fun) (ns : Nm) (k : Nat) (v : Value) (hs : CkS w C fv mv nv ns k) (hf : FxS w C fv mv fs) (hx : ExAt (Lo C) w (nd 5 a n nm op l r (chain xs)) v) :
  Calls Tryz.prog 210 #[.pointer (some ⟨C, 0, none⟩), v] w (MuP (cv (lkL fs) ns (nd 5 a n nm op l r (chain xs))) w) := by
 obtain ⟨b, vl, vr, vg, ys, hb, rfl, hblk, hxl, hxr, hrow, hro, hxg⟩ := nd_open hx
 obtain ⟨xs', hch, hlen, hat⟩ := chain_open ys _ hxg
 have := chain_inj hch
 subst this
 obtain ⟨qg, cg, rfl⟩ := zd hrow
 obtain ⟨y, hy, hyt⟩ := zM nm
 have hysz : y.size ≤ 1000000 := by rw [← j_len, hyt]; omega
 have c3 : w.cell? ⟨b, 3, none⟩ = some (.string y) := by rw [← hy]; exact z_ (i := 3) hblk rfl
 have c1 := z_ (i := 1) hblk rfl
 have c7 := z_ (i := 7) hblk rfl
 have d0 := z_ (i := 0) hs.blk rfl
 have d1 := z_ (i := 1) hs.blk rfl
 have hlk := hf.look w.drew (Below.refl _ _).drew y hysz
 rw [hyt] at hlk
 have HS : Hid (CkS w C fv mv nv ns k) := hs
 have HF : Hid (FxS w C fv mv fs) := hf
 have HIH : Hid (∀ x ∈ xs, MuC x ∧ IsNd x) := IH
 have HAt : Hid (∀ (i : Nat) (x : Tr) (y : Value), xs[i]? = some x → ys[i]? = some y → ExAt (Lo C) w x y) := hat
 have HRow : Hid (w.ownsRow 0 145 1 (.slice qg ys.length cg) ys.length ys) := hrow
 have HLo : Hid (∀ i, (Value.slice qg ys.length cg).ownBlock = some i → Lo C i) := hro
 have HLn : Hid (xs.length = ys.length) := hlen
 have HCK : Hid (cv (lkL fs) ns (nd 5 a n nm op l r (chain xs)) = (match lkL fs nm with | none => .error (7, a) | some ps => if xs.length ≠ ps.length then .error (2, a) else bx (ck (lkL fs) ns (chain xs) ps) fun _ => .ok ())) := by
  show _ = _
  unfold cv
  rw [ck_5, chl_chain]
  cases lkL fs nm with
  | none => rfl
  | some ps =>
   show bx (if xs.length ≠ ps.length then _ else _) _ = if xs.length ≠ ps.length then _ else _
   split
   ·rfl
   ·rw [qw]
    rfl
 have HG0 : Hid (∀ e w', MuP (cv (lkL fs) ns (nd 5 a n nm op l r (chain xs))) w e w' → MuP (cv (lkL fs) ns (nd 5 a n nm op l r (chain xs))) w e w') := fun _ _ h => h
 generalize hG : MuP (cv (lkL fs) ns (nd 5 a n nm op l r (chain xs))) w = G at *
 clear HG0
 have HG0 : Hid (∀ e w', MuP (cv (lkL fs) ns (nd 5 a n nm op l r (chain xs))) w e w' → G e w') := fun e w' h => by rw [← hG]; exact h
 generalize cv (lkL fs) ns (nd 5 a n nm op l r (chain xs)) = R0 at *
 clear IH hs hf hx hblk hxl hxr hrow hro hxg hG hch hat hy hyt hysz hlen
 rcases ixf_lk nm fs with ⟨i, F, e1, e2, e3, e4⟩ | ⟨e1, e2⟩
 ·rw [e1] at hlk
  have hlk' : (Instr.lookup 92 mv (.string y) true).run Tryz.prog w.drew = .ok (.tuple #[.int .i64 (i : Int), .bool true]) w.drew := hlk
  clear hlk
  obtain ⟨fg, fc, vp, hfv, q2, hpr, hpl⟩ := HF.out.par w (Below.refl _ _) i F e2
  obtain ⟨qp, cp, rfl⟩ := zd hpr
  have HPr : Hid (w.ownsRow 0 144 2 (.slice qp F.ps.length cp) F.ps.length (psC F.ps)) := hpr
  have hfew := HF.out.few
  have HR1 : Hid (R0 = if xs.length ≠ F.ps.length then .error (2, a) else bx (ck (lkL fs) ns (chain xs) F.ps) fun _ => .ok ()) := by
   show _ = _
   rw [HCK.out, e4]
  rw [hfv] at d0
  obtain ⟨nf, hnf⟩ : ∃ nf, nf = fs.length := ⟨_, rfl⟩
  rw [← hnf] at d0 e3 hfew
  obtain ⟨np, hnp⟩ : ∃ np, np = F.ps.length := ⟨_, rfl⟩
  have HNp : Hid (np = F.ps.length) := hnp
  rw [← hnp] at HPr HR1 q2 hpl
  obtain ⟨m, hm⟩ : ∃ m, m = ys.length := ⟨_, rfl⟩
  have HM : Hid (m = ys.length) := hm
  rw [← hm] at HRow HLo HLn c7
  rw [HLn.out] at HR1 hxs
  clear e1 e2 e4 hfv hpr hnf hnp hm HCK
  by_cases hmp : m = np
  ·subst hmp
   have HR2 : Hid (R0 = bx (ck (lkL fs) ns (chain xs) F.ps) fun _ => .ok ()) := by
    show _ = _
    rw [HR1.out, if_neg (by simp)]
   clear HR1
   go_enter Tryz.func210, Tryz.ntmps210
   go_wp2_with fail
   go_region
   all_goals
    go_wp2_with fail
    go_loopw [54] (fun v wr => ∃ j : Nat, j ≤ m ∧ v = .int .i64 j ∧ Hid (ck (lkL fs) ns (chain xs) F.ps = ck (lkL fs) ns (chain (xs.drop j)) (F.ps.drop j)) ∧ Hid (Below w.heap.size w wr)) (fun v _ => m - (intOf v).toNat)
    case atStart => exact ⟨0, Nat.zero_le _, rfl, by show _ = _; simp, (Below.refl _ _).drew⟩
    case round =>
     obtain ⟨j, hj, rfl, HI, HB⟩ := hrel
     by_cases hlt : j < m
     ·obtain ⟨x, hxj⟩ : ∃ x, xs[j]? = some x := ⟨xs[j]'(by have := HLn.out; omega), List.getElem?_eq_getElem (by have := HLn.out; omega)⟩
      obtain ⟨p, hpj⟩ : ∃ p, F.ps[j]? = some p := ⟨F.ps[j]'(by have := HNp.out; omega), List.getElem?_eq_getElem (by have := HNp.out; omega)⟩
      obtain ⟨yv, hyj⟩ : ∃ yv, ys[j]? = some yv := ⟨ys[j]'(by have := HM.out; omega), List.getElem?_eq_getElem (by have := HM.out; omega)⟩
      have hex := HAt.out j x yv hxj hyj
      obtain ⟨hmu, hnd⟩ := HIH.out x (List.mem_of_getElem? hxj)
      obtain ⟨yb, rfl⟩ := IsNd.ptr hnd hex
      obtain ⟨gq, capq, eq1, -, -⟩ := HRow.out.form (by omega)
      injection eq1 with eq1 eq2 eq3
      subst eq1
      clear eq2 eq3
      obtain ⟨gp, capp, ep1, -, -⟩ := HPr.out.form (by omega)
      injection ep1 with ep1 ep2 ep3
      subst ep1
      clear ep2 ep3
      have q0 : wr.cell? ⟨gq, j, none⟩ = some (.pointer (some ⟨yb, 0, none⟩)) := by
       have := (HRow.out.kept (qS HB.out) (.inr (by simp [Value.ownBlock]))).cells (g := gq) rfl j _ hyj
       rw [zO] at this
       exact this
      have q1 : wr.cell? ⟨gp, j * 2 + 1, none⟩ = some (.int .i64 p.2) := by
       have := (HPr.out.kept (qS HB.out) (.inr (by simp [Value.ownBlock]))).cells (g := gp) rfl (j * 2 + 1) _ (psC_get F.ps j p hpj).2
       rw [zO] at this
       exact this
      have hloC := HB.out.mono (Nat.le_of_lt HS.out.lt)
      have HMu : Hid (Calls Tryz.prog 157 #[.pointer (some ⟨C, 0, none⟩), .pointer (some ⟨yb, 0, none⟩), .int .i64 p.2] wr (MuP (mu (lkL fs) ns x p.2) wr)) := hmu wr C fv mv nv fs ns k _ p.2 (HS.out.below HB.out) (HF.out.below hloC) ((zi hloC).ex hex)
      have HSt : Hid (ck (lkL fs) ns (chain (xs.drop j)) (F.ps.drop j) = bx (mu (lkL fs) ns x p.2) fun _ => ck (lkL fs) ns (chain (xs.drop (j + 1))) (F.ps.drop (j + 1))) := by
       show _ = _
       have e1 : xs.drop j = x :: xs.drop (j + 1) := by
        rw [List.drop_eq_getElem_cons (by have := HLn.out; omega)]
        congr 1
        have := List.getElem?_eq_getElem (l := xs) (i := j) (by have := HLn.out; omega)
        rw [hxj] at this
        exact (Option.some.inj this).symm
       have e2 : F.ps.drop j = p :: F.ps.drop (j + 1) := by
        rw [List.drop_eq_getElem_cons (by have := HNp.out; omega)]
        congr 1
        have := List.getElem?_eq_getElem (l := F.ps) (i := j) (by have := HNp.out; omega)
        rw [hpj] at this
        exact (Option.some.inj this).symm
       rw [e1, e2, ck_cc]
      obtain ⟨pt, hpt⟩ : ∃ pt, pt = p.2 := ⟨_, rfl⟩
      rw [← hpt] at q1 HMu HSt
      clear hxj hpj hyj hex hmu hnd hloC hpt
      go_wp2_with (go_at_call 157; fail)
      refine HMu.out.mono ?_
      rintro e w2 ⟨⟨hr, rfl⟩ | ⟨k1, a1, hr, b1, rfl, hb1⟩, hw⟩
      ·have HB2 : Hid (Below w.heap.size w w2) := HB.out.trans (hw.mono HB.out.size)
       have HI2 : Hid (ck (lkL fs) ns (chain xs) F.ps = ck (lkL fs) ns (chain (xs.drop (j + 1))) (F.ps.drop (j + 1))) := by
        show _ = _
        rw [HI.out, HSt.out, hr]
        rfl
       clear hw hr
       go_wp2
       exact ⟨⟨j + 1, by omega, by go_num, HI2, HB2⟩, by simp [intOf]; omega⟩
      ·refine ⟨rfl, HG0.out _ _ ⟨.inr ⟨k1, a1, ?_, b1, rfl, hb1⟩, HB.out.trans (hw.mono HB.out.size)⟩⟩
       rw [HR2.out, HI.out, HSt.out, hr]
       rfl
     ·obtain rfl : j = m := by omega
      have HE : Hid (R0 = .ok ()) := by
       show _ = _
       rw [HR2.out, HI.out, List.drop_of_length_le (by have := HLn.out; omega), List.drop_of_length_le (by have := HNp.out; omega), ck_end]
       rfl
      clear hlt HI
      go_wp2
      go_end0
      exact HG0.out _ _ ⟨.inl ⟨HE.out, rfl⟩, HB.out⟩
  ·have hmp' : ((m : Int) == (np : Int)) = false := by simp; omega
   have HR2 : Hid (R0 = .error (2, a)) := by
    show _ = _
    rw [HR1.out, if_pos (by simpa using hmp)]
   clear HR1 hmp
   go_enter Tryz.func210, Tryz.ntmps210
   go_wp2_with fail
   go_region
   all_goals
    go_wp2_with (go_at_call 64; fail)
    refine (qV 2 a _).mono ?_
    rintro e w2 ⟨⟨b2, rfl, hb2⟩, hw2⟩
    exact ⟨rfl, HG0.out _ _ ⟨.inr ⟨2, a, HR2.out, b2, rfl, hb2⟩, (Below.refl _ _).drew.trans hw2⟩⟩
 ·rw [e1] at hlk
  have hlk' : (Instr.lookup 92 mv (.string y) true).run Tryz.prog w.drew = .ok (.tuple #[.int .i64 0, .bool false]) w.drew := hlk
  have HR1 : Hid (R0 = .error (7, a)) := by
   show _ = _
   rw [HCK.out, e2]
  clear hlk e1 e2
  go_enter Tryz.func210, Tryz.ntmps210
  go_wp2_with fail
  go_region
  all_goals
   go_wp2_with (go_at_call 64; fail)
   refine (qV 7 a _).mono ?_
   rintro e w2 ⟨⟨b2, rfl, hb2⟩, hw2⟩
   exact ⟨rfl, HG0.out _ _ ⟨.inr ⟨7, a, HR1.out, b2, rfl, hb2⟩, (Below.refl _ _).drew.trans hw2⟩⟩
theorem ty_call {a n : Int} {nm op : By} {l r : Tr} {xs : List Tr} (IH : ∀ x ∈ xs, MuC x ∧ IsNd x) (hnm : nm.length ≤ 12) (hxs : xs.length ≤ 1000000) : TyC (nd 5 a n nm op l r (chain xs)) := by
 intro w C fv mv nv fs ns k v hs hf hx
 have HC : Hid (Calls Tryz.prog 210 #[.pointer (some ⟨C, 0, none⟩), v] w (MuP (cv (lkL fs) ns (nd 5 a n nm op l r (chain xs))) w)) := call_any IH hnm hxs w C fv mv nv fs ns k v hs hf hx
 obtain ⟨b, vl, vr, vg, ys, hb, rfl, hblk, hxl, hxr, hrow, hro, hxg⟩ := nd_open hx
 have c0 := z_ (i := 0) hblk rfl
 have HE : Hid (ck (lkL fs) ns (nd 5 a n nm op l r (chain xs)) [] = bx (cv (lkL fs) ns (nd 5 a n nm op l r (chain xs))) fun _ => .ok 1) := by
  show _ = _
  unfold cv
  rw [qw, ck_5]
  cases lkL fs nm with
  | none => rfl
  | some ps =>
   show (if _ then _ else _) = bx (if _ then _ else _) _
   split
   ·rfl
   ·rw [qw]
    rfl
 have HG0 : Hid (∀ e w', TyP (ck (lkL fs) ns (nd 5 a n nm op l r (chain xs)) []) w e w' → TyP (ck (lkL fs) ns (nd 5 a n nm op l r (chain xs)) []) w e w') := fun _ _ h => h
 generalize hG : TyP (ck (lkL fs) ns (nd 5 a n nm op l r (chain xs)) []) w = G at *
 clear HG0
 have HG0 : Hid (∀ e w', TyP (ck (lkL fs) ns (nd 5 a n nm op l r (chain xs)) []) w e w' → G e w') := fun e w' h => by rw [← hG]; exact h
 generalize cv (lkL fs) ns (nd 5 a n nm op l r (chain xs)) = R0 at *
 generalize ck (lkL fs) ns (nd 5 a n nm op l r (chain xs)) [] = R1 at *
 clear IH hs hf hx hblk hxl hxr hrow hro hxg hG
 go_enter Tryz.func156, Tryz.ntmps156
 go_wp2_with (go_at_call 210; fail)
 refine HC.out.mono ?_
 rintro e w1 ⟨⟨hr, rfl⟩ | ⟨k1, a1, hr, b1, rfl, hb1⟩, hw⟩
 ·have HB1 : Hid (Below w.heap.size w w1) := hw
  have HR : Hid (R0 = .ok ()) := hr
  clear hw hr
  go_wp2
  refine HG0.out _ _ ⟨.inl ⟨1, ?_, rfl⟩, HB1.out⟩
  rw [HE.out, HR.out]
  rfl
 ·refine ⟨rfl, HG0.out _ _ ⟨.inr ⟨k1, a1, ?_, b1, rfl, hb1⟩, hw⟩⟩
  rw [HE.out, hr]
  rfl
theorem good_mem : ∀ (xs : List Tr), zF (chain xs) → ∀ x ∈ xs, zF x
 | [], _, x, hx => by simp at hx
 | y :: xs, h, x, hx => by
  have h' : zF (.slice [y] [chain xs]) := h
  rw [zF] at h'
  rcases List.mem_cons.1 hx with rfl | hx
  ·exact h'.2.1
  ·exact good_mem xs h'.2.2 x hx
theorem re_isNd {f d : Nat} {t : Tr} (h : RE f d t) : IsNd t := re_nd h
theorem ty_all : ∀ (f d : Nat) (t : Tr), RE f d t → zF t → TyC t
 | 0, _, _, h, _ => h.elim
 | f + 1, d, t, h, hg => by
  have MU : ∀ (d : Nat) (t : Tr), RE f d t → zF t → MuC t := fun d t h g => must_of (re_isNd h) (ty_all f d t h g)
  rw [RE] at h
  rcases h.2 with ⟨a, n, h0, h1, rfl⟩ | ⟨a, nm, hn, rfl⟩ | ⟨a, op, l, r, h1, h2, h3, rfl⟩ | ⟨a, op, l, h1, h2, rfl⟩ | ⟨a, nm, xs, h1, h2, rfl⟩ | ⟨a, l, h2, rfl⟩ | ⟨a, l, h2, rfl⟩ | ⟨a, l, r, h2, h3, rfl⟩ | ⟨a, rfl⟩
  all_goals
   rw [zF] at hg
   obtain ⟨-, -, -, -, -, -, gl, gr, gg, zs, hz, hzl⟩ := hg
  ·exact ty_num
  ·exact ty_name
  ·exact ty_bin (MU _ l h2 gl) (MU _ r h3 gr)
  ·exact ty_un (MU _ l h2 gl)
  ·have e := chain_inj hz
   subst e
   refine ty_call (fun x hx => ⟨MU _ x (h2 x hx) ?_, re_isNd (h2 x hx)⟩) h1.2.2.2.2 hzl
   exact good_mem xs gg x hx
  ·exact ty_new (MU _ l h2 gl)
  ·exact ty_len (MU _ l h2 gl)
  ·exact ty_item (MU _ l h2 gl) (MU _ r h3 gr)
  ·exact ty_input
def blkV (lk : By → Option Nm) (g : Tr) (s : Nm × Nat) : X (Nm × Nat) := bx (cks lk g s) fun s' => .ok (s.1, s'.2)
def StC (t : Tr) : Prop := ∀ (w : World) (C : Nat) (fv mv nv : Value) (fs : List Fun) (ns : Nm) (k : Nat) (cs : Array Value), CkS w C fv mv nv ns k → FxS w C fv mv fs → StAt (Lo C) w (cc t ce) cs.toList → Calls Tryz.prog 103 #[.pointer (some ⟨C, 0, none⟩), .agg cs] w (CkP (cks (lkL fs) (cc t ce) (ns, k)) C fv mv w)
def BlC (g : Tr) : Prop := ∀ (w : World) (C : Nat) (fv mv nv : Value) (fs : List Fun) (ns : Nm) (k : Nat) (v : Value) (n : Nat) (cs : List Value), CkS w C fv mv nv ns k → FxS w C fv mv fs → RowS (Lo C) w 147 7 v n cs → StAt (Lo C) w g cs → Calls Tryz.prog 66 #[.pointer (some ⟨C, 0, none⟩), v] w (CkP (blkV (lkL fs) g (ns, k)) C fv mv w)
theorem cks_ce (lk : By → Option Nm) (s : Nm × Nat) : cks lk ce s = .ok s := by
 rw [cks]
 all_goals simp
theorem cks_cc (lk : By → Option Nm) (c a : Int) (nm : By) (ix v th el g : Tr) (s : Nm × Nat) : cks lk (cc (st c a nm ix v th el) g) s = bx (cks lk (cc (st c a nm ix v th el) ce) s) fun s' => cks lk g s' := by
 rw [cks, cks, qw]
 congr 1
def IsSt (t : Tr) : Prop := ∃ c a nm ix v th el, t = st c a nm ix v th el
theorem cks_st {t : Tr} (h : IsSt t) (lk : By → Option Nm) (g : Tr) (s : Nm × Nat) : cks lk (cc t g) s = bx (cks lk (cc t ce) s) fun s' => cks lk g s' := by
 obtain ⟨c, a, nm, ix, v, th, el, rfl⟩ := h
 exact cks_cc lk c a nm ix v th el g s
theorem add_pre {s s' : Nm × Nat} {v : By × Int} {a : Int} (h : addV s v a = .ok s') : ∃ ex, s'.1 = s.1 ++ ex := by
 unfold addV at h
 split at h
 ·cases h
 ·split at h
  ·cases h
  ·injection h with h
   subst h
   exact ⟨[v], rfl⟩
theorem st_pre {t : Tr} (h : IsSt t) (lk : By → Option Nm) (s s' : Nm × Nat) (hr : cks lk (cc t ce) s = .ok s') : ∃ ex, s'.1 = s.1 ++ ex := by
 obtain ⟨c, a, nm, ix, v, th, el, rfl⟩ := h
 rw [cks] at hr
 obtain ⟨s1, h1, h2⟩ := bx_ok hr
 rw [show cks lk (.slice [] []) s1 = cks lk ce s1 from rfl, cks_ce] at h2
 injection h2 with h2
 subst h2
 split at h1
 ·obtain ⟨t, _, h3⟩ := bx_ok h1
  exact add_pre h3
 ·split at h1
  ·split at h1
   ·cases h1
   ·obtain ⟨_, _, h3⟩ := bx_ok h1
    injection h3 with h3
    subst h3
    exact ⟨[], by simp⟩
  ·split at h1
   ·split at h1
    ·cases h1
    ·split at h1
     ·cases h1
     ·obtain ⟨_, _, h3⟩ := bx_ok h1
      obtain ⟨_, _, h4⟩ := bx_ok h3
      injection h4 with h4
      subst h4
      exact ⟨[], by simp⟩
   ·obtain ⟨_, _, h3⟩ := bx_ok h1
    obtain ⟨_, _, h4⟩ := bx_ok h3
    obtain ⟨_, _, h5⟩ := bx_ok h4
    injection h5 with h5
    subst h5
    exact ⟨[], by simp⟩
theorem own_take {w : World} {B e z n c m : Nat} {q : Option Addr} {cs : List Value} (h : w.ownsRow B e z (.slice q n c) n cs) (hm : m ≤ n) : w.ownsRow B e z (.slice q m c) m (cs.take (m * z)) := by
 have hl := h.1
 refine ⟨by rw [List.length_take, hl]; exact Nat.min_eq_left (Nat.mul_le_mul_right z hm), ?_⟩
 rcases h.2 with ⟨e1, e2⟩ | ⟨g, cap, cur, e1, e2, e3, e4, e5, e6, e7⟩
 ·injection e1 with a1 a2 a3
  subst a1
  subst a3
  have : m = 0 := by omega
  subst this
  exact .inl ⟨rfl, rfl⟩
 ·injection e1 with a1 a2 a3
  subst a1
  subst a3
  refine .inr ⟨g, c, cur, rfl, e2, e3, by omega, e5, e6, ?_⟩
  rw [← e7, List.take_take]
  congr 1
  exact (Nat.min_eq_left (Nat.mul_le_mul_right z hm)).symm
theorem own_cap {w : World} {B e z n c : Nat} {q : Option Addr} {cs : List Value} (h : w.ownsRow B e z (.slice q n c) n cs) : n ≤ c := by
 rcases h.2 with ⟨e1, e2⟩ | ⟨g, cap, cur, e1, _, _, e4, _⟩
 ·injection e1 with a1 a2 a3
  omega
 ·injection e1 with a1 a2 a3
  omega
theorem size_83 (w : World) : (sizeOf (Tryz.prog.elem 65)).run Tryz.prog w = .ok 2 w := by kernel_rfl
theorem elem38 : Tryz.prog.underlying 65 = some (.slice (Tryz.prog.elem 65)) := by kernel_rfl
theorem slice_low (q : Option Addr) (n c m : Nat) (w : World) (h : m ≤ c) : (Instr.slice 65 (.slice q n c) none (some (.int .i64 (m : Int))) none).run Tryz.prog w = .ok (.slice q m c) w := by
 rw [run_slice_h w 65 q n c elem38 .i64 (m : Int) (by omega) (by omega), size_83]
 show Result.ok (sliced q 0 (m : Int).toNat c 2) w = _
 unfold sliced
 have e : q.map (·.add (0 * 2)) = q := by cases q <;> simp [Addr.add]
 rw [e]
 simp
theorem psC_take (ns ex : Nm) : (psC (ns ++ ex)).take (ns.length * 2) = psC ns := by
 have e : psC (ns ++ ex) = psC ns ++ psC ex := by simp [psC]
 have l : (psC ns).length = ns.length * 2 := by
  induction ns with
  | nil => rfl
  | cons x ns ih => simp [psC] at ih ⊢; omega
 rw [e, ← l, List.take_left]
theorem block_of {xs : List Tr} (IH : ∀ x ∈ xs, StC x ∧ IsSt x) (hx6 : xs.length ≤ 1000000) : BlC (chain xs) := by
 intro w C fv mv nv fs ns k v n cs hs hf hr hst
 obtain ⟨q, c, rfl⟩ := zd hr.1
 obtain ⟨qn, cn, rfl⟩ := zd hs.row
 have HOp := sts_open xs cs hst
 have hn : n = xs.length := by have h1 := HOp.1; have h2 := hr.1.1; omega
 have HNn : Hid (n = xs.length) := hn
 have hn6 : n ≤ 1000000 := by omega
 have HO : Hid (∀ (i : Nat) (x : Tr), xs[i]? = some x → ∃ (n0 n1 : Int) (y2 : ByteArray) (p3 p4 : Option Addr) (s5 : Option Addr) (m5 c5 : Nat) (s6 : Option Addr) (m6 c6 : Nat), StAt (Lo C) w (cc x ce) (#[.int .i64 n0, .int .i64 n1, .string y2, .pointer p3, .pointer p4, .slice s5 m5 c5, .slice s6 m6 c6] : Array Value).toList ∧ ∀ j u, (#[.int .i64 n0, .int .i64 n1, .string y2, .pointer p3, .pointer p4, .slice s5 m5 c5, .slice s6 m6 c6] : Array Value)[j]? = some u → cs[i * 7 + j]? = some u) := HOp.2
 have HS : Hid (CkS w C fv mv (.slice qn ns.length cn) ns k) := hs
 have HF : Hid (FxS w C fv mv fs) := hf
 have HR : Hid (RowS (Lo C) w 147 7 (.slice q n c) n cs) := hr
 have HIH : Hid (∀ x ∈ xs, StC x ∧ IsSt x) := IH
 have d2 := z_ (i := 2) hs.blk rfl
 have HG0 : Hid (∀ e w', CkP (blkV (lkL fs) (chain xs) (ns, k)) C fv mv w e w' → CkP (blkV (lkL fs) (chain xs) (ns, k)) C fv mv w e w') := fun _ _ h => h
 generalize hG : CkP (blkV (lkL fs) (chain xs) (ns, k)) C fv mv w = G at *
 clear HG0
 have HG0 : Hid (∀ e w', CkP (blkV (lkL fs) (chain xs) (ns, k)) C fv mv w e w' → G e w') := fun e w' h => by rw [← hG]; exact h
 have hns12 : ns.length ≤ 12 := by have := hs.le; have := hs.k12; omega
 obtain ⟨m, hm⟩ : ∃ m, m = ns.length := ⟨_, rfl⟩
 have HM : Hid (m = ns.length) := hm
 rw [← hm] at d2 hns12 HS
 clear IH hx6 hs hf hr hst HOp hn hG hm
 go_enter Tryz.func66, Tryz.ntmps66
 go_wp2_with fail
 go_loopw [14] (fun v wr => ∃ i : Nat, i ≤ n ∧ v = .int .i64 i ∧ Hid (∃ (ns1 : Nm) (k1 : Nat) (nv1 : Value) (ex : Nm), ns1 = ns ++ ex ∧ cks (lkL fs) (chain xs) (ns, k) = cks (lkL fs) (chain (xs.drop i)) (ns1, k1) ∧ CkS wr C fv mv nv1 ns1 k1 ∧ Below C w wr ∧ Kt w wr)) (fun v _ => n - (intOf v).toNat)
 case atStart => exact ⟨0, Nat.zero_le _, rfl, ns, k, .slice qn m cn, [], by simp, by simp, HS.out, Below.refl _ _, fun _ _ _ _ _ h => h⟩
 case round =>
  obtain ⟨i, hin, rfl, HI⟩ := hrel
  obtain ⟨ns1, k1, nv1, ex, hns1, hck, hS1, hB1, hK1⟩ := HI.out
  have HK1 : Hid (Kt w wr) := hK1
  have HB1 : Hid (Below C w wr) := hB1
  have HS1 : Hid (CkS wr C fv mv nv1 ns1 k1) := hS1
  have HCk : Hid (cks (lkL fs) (chain xs) (ns, k) = cks (lkL fs) (chain (xs.drop i)) (ns1, k1)) := hck
  have HEx : Hid (ns1 = ns ++ ex) := hns1
  clear HI hns1 hck hS1 hB1 hK1
  by_cases hlt : i < n
  ·obtain ⟨g, cap, e, -, -⟩ := HR.out.1.form (by omega)
   injection e with e1 e2 e3
   subst e1
   clear e2 e3
   obtain ⟨x, hx⟩ : ∃ x, xs[i]? = some x := ⟨xs[i]'(by have := HNn.out; omega), List.getElem?_eq_getElem (by have := HNn.out; omega)⟩
   obtain ⟨n0, n1, y2, p3, p4, s5, m5, c5, s6, m6, c6, hsx, hcs⟩ := HO.out i x hx
   have hrow := (HR.out.kept (zi HB1.out) (by decide)).1
   have hc : ∀ j u, (#[.int .i64 n0, .int .i64 n1, .string y2, .pointer p3, .pointer p4, .slice s5 m5 c5, .slice s6 m6 c6] : Array Value)[j]? = some u → wr.cell? ⟨g, i * 7 + j, none⟩ = some u := fun j u hu => by
    have := hrow.cells (g := g) rfl (i * 7 + j) u (hcs j u hu)
    rw [zO] at this
    exact this
   have q0 := hc 0 _ rfl
   have q1 := hc 1 _ rfl
   have q2 := hc 2 _ rfl
   have q3 := hc 3 _ rfl
   have q4 := hc 4 _ rfl
   have q5 := hc 5 _ rfl
   have q6 := hc 6 _ rfl
   rw [Nat.add_zero] at q0
   obtain ⟨hstc, hist⟩ := HIH.out x (List.mem_of_getElem? hx)
   have hbW : Below wr.heap.size wr (wr.alloc (.cells #[.int .i64 n0, .int .i64 n1, .string y2, .pointer p3, .pointer p4, .slice s5 m5 c5, .slice s6 m6 c6] 147)) := (Below.refl _ _).alloc (Nat.le_refl _) _
   have hbC : Below C w (wr.alloc (.cells #[.int .i64 n0, .int .i64 n1, .string y2, .pointer p3, .pointer p4, .slice s5 m5 c5, .slice s6 m6 c6] 147)) := HB1.out.alloc (Nat.le_of_lt HS1.out.lt) _
   have HCall : Hid (Calls Tryz.prog 103 #[.pointer (some ⟨C, 0, none⟩), .agg #[.int .i64 n0, .int .i64 n1, .string y2, .pointer p3, .pointer p4, .slice s5 m5 c5, .slice s6 m6 c6]] (wr.alloc (.cells #[.int .i64 n0, .int .i64 n1, .string y2, .pointer p3, .pointer p4, .slice s5 m5 c5, .slice s6 m6 c6] 147)) (CkP (cks (lkL fs) (cc x ce) (ns1, k1)) C fv mv (wr.alloc (.cells #[.int .i64 n0, .int .i64 n1, .string y2, .pointer p3, .pointer p4, .slice s5 m5 c5, .slice s6 m6 c6] 147)))) :=
    hstc _ C fv mv nv1 fs ns1 k1 _ (HS1.out.below hbW) (HF.out.below hbC) (StAt.kept (zi hbC) _ _ hsx)
   have HKC : Hid (∀ w', Kt (wr.alloc (.cells #[.int .i64 n0, .int .i64 n1, .string y2, .pointer p3, .pointer p4, .slice s5 m5 c5, .slice s6 m6 c6] 147)) w' → Kt w w') := fun w' hk => (HK1.out.trans (zA hbW)).trans hk
   have HBC : Hid (∀ w', Below C (wr.alloc (.cells #[.int .i64 n0, .int .i64 n1, .string y2, .pointer p3, .pointer p4, .slice s5 m5 c5, .slice s6 m6 c6] 147)) w' → Below C w w') := fun w' hb => hbC.trans hb
   have HSt : Hid (cks (lkL fs) (chain (xs.drop i)) (ns1, k1) = bx (cks (lkL fs) (cc x ce) (ns1, k1)) fun s' => cks (lkL fs) (chain (xs.drop (i + 1))) s') := by
    show _ = _
    have e1 : xs.drop i = x :: xs.drop (i + 1) := by
     rw [List.drop_eq_getElem_cons (by have := HNn.out; omega)]
     congr 1
     have := List.getElem?_eq_getElem (l := xs) (i := i) (by have := HNn.out; omega)
     rw [hx] at this
     exact (Option.some.inj this).symm
    rw [e1]
    exact cks_st hist (lkL fs) (chain (xs.drop (i + 1))) (ns1, k1)
   have HPre : Hid (∀ s', cks (lkL fs) (cc x ce) (ns1, k1) = .ok s' → ∃ ex, s'.1 = ns1 ++ ex) := fun s' h => st_pre hist _ _ _ h
   clear hrow hc hcs hsx hx hstc hist hbW hbC
   go_wp2_with (go_at_call 103; fail)
   refine HCall.out.mono ?_
   rintro e w2 ⟨⟨ns2, k2, nv2, hr, rfl, hs2⟩ | ⟨kk, aa, hr, b1, rfl, hb1⟩, hw, hkt⟩
   ·have HI2 : Hid (∃ (ns1 : Nm) (k1 : Nat) (nv1 : Value) (ex : Nm), ns1 = ns ++ ex ∧ cks (lkL fs) (chain xs) (ns, k) = cks (lkL fs) (chain (xs.drop (i + 1))) (ns1, k1) ∧ CkS w2 C fv mv nv1 ns1 k1 ∧ Below C w w2 ∧ Kt w w2) := by
     obtain ⟨ex2, he2⟩ := HPre.out _ hr
     refine ⟨ns2, k2, nv2, ex ++ ex2, ?_, ?_, hs2, HBC.out _ hw, HKC.out _ hkt⟩
     ·have : ns2 = ns1 ++ ex2 := he2
      rw [this, HEx.out, List.append_assoc]
     ·rw [HCk.out, HSt.out, hr]
      rfl
    clear hr hs2 hw hkt q0 q1 q2 q3 q4 q5 q6
    go_wp2
    exact ⟨⟨i + 1, by omega, by go_num, HI2⟩, by simp [intOf]; omega⟩
   ·refine ⟨rfl, HG0.out _ _ ⟨.inr ⟨kk, aa, ?_, b1, rfl, hb1⟩, HBC.out _ hw, HKC.out _ hkt⟩⟩
    unfold blkV
    rw [HCk.out, HSt.out, hr]
    rfl
  ·obtain rfl : i = n := by omega
   have HE : Hid (blkV (lkL fs) (chain xs) (ns, k) = .ok (ns, k1)) := by
    show _ = _
    unfold blkV
    rw [HCk.out, List.drop_of_length_le (by have := HNn.out; omega), show chain [] = ce from rfl, cks_ce]
    rfl
   have hS1 := HS1.out
   obtain ⟨q1, c1, rfl⟩ := zd hS1.row
   have d2' := z_ (i := 2) hS1.blk rfl
   have f2 := zb hS1.blk 2
   have hmle : m ≤ ns1.length := by rw [HM.out, HEx.out]; simp
   have htk := own_take hS1.row hmle
   have hcap : ns1.length ≤ c1 := own_cap hS1.row
   have hsl : ∀ wx : World, (Instr.slice 65 (.slice q1 ns1.length c1) none (some (.int .i64 (m : Int))) none).run Tryz.prog wx = .ok (.slice q1 m c1) wx := fun wx => slice_low q1 _ c1 m wx (by omega)
   have HTk : Hid (wr.ownsRow (C + 1) 144 2 (.slice q1 m c1) m ((psC ns1).take (m * 2))) := htk
   have HPs : Hid ((psC ns1).take (m * 2) = psC ns) := by show _ = _; rw [HEx.out, HM.out, psC_take]
   have HLe : Hid (m ≤ k1 ∧ k1 ≤ 12) := ⟨by have := hS1.le; omega, hS1.k12⟩
   have HBl : Hid (wr.heap[C]? = some (.cells #[fv, mv, .slice q1 ns1.length c1, .int .i64 (k1 : Int)] 96)) := hS1.blk
   generalize ns1.length = n1 at *
   clear hlt hS1 htk hcap hmle
   go_wp2
   go_end0
   refine HG0.out _ _ ⟨.inl ⟨ns, k1, .slice q1 m c1, HE.out, rfl, ?_, ?_, ?_, ?_⟩, ?_, ?_⟩
   ·exact heap_setCell_same _ _ _ _ _ _ HBl.out
   ·rw [← HM.out, ← HPs.out]
    exact ownsRow_setCell_below HTk.out (by show C < C + 1; omega) _
   ·rw [← HM.out]; exact HLe.out.1
   ·exact HLe.out.2
   ·exact HB1.out.setCell (p := ⟨C, 2, none⟩) (Nat.le_refl _) _
   ·exact HK1.out.trans (kt_set HBl.out)
end Go.Proofs.YtnfhpdbbfejioaaGreatDoor
