/- CG -/
import Derived.Test.YtnfhpdbbfejioaaGreatDoorQ37
namespace Go.Proofs.YtnfhpdbbfejioaaGreatDoor
set_option linter.unusedVariables false
set_option linter.unusedSimpArgs false
set_option maxRecDepth 100000
set_option maxHeartbeats 4000000
open Go Go.RowKit
theorem j_len (A : ByteArray) : A.data.toList.length = A.size := by simp
theorem ixf_lk (nm : By) : ∀ (fs : List Fun), (∃ (i : Nat) (F : Fun), ixF nm fs = some i ∧ fs[i]? = some F ∧ i < fs.length ∧ lkL fs nm = some F.ps) ∨ (ixF nm fs = none ∧ lkL fs nm = none)
 | [] => .inr ⟨rfl, rfl⟩
 | G :: fs => by
  unfold lkL
  rw [ixF, List.find?_cons]
  by_cases h : G.nm = nm
  ·have : (G.nm == nm) = true := by simpa using h
   rw [if_pos h, this]
   exact .inl ⟨0, G, rfl, rfl, by simp, rfl⟩
  ·have : (G.nm == nm) = false := by simpa using h
   rw [if_neg h, this]
   rcases ixf_lk nm fs with ⟨i, x, h1, h2, h3, h4⟩ | ⟨h1, h2⟩
   ·exact .inl ⟨i + 1, x, by rw [h1]; rfl, by simpa using h2, by simpa using h3, h4⟩
   ·exact .inr ⟨by rw [h1]; rfl, h2⟩
theorem ck_5 (lk : By → Option Nm) (ns : Nm) (a n : Int) (nm op : By) (l r g : Tr) : ck lk ns (nd 5 a n nm op l r g) [] = (match lk nm with | none => .error (7, a) | some ps => if chl g ≠ ps.length then .error (2, a) else bx (ck lk ns g ps) fun _ => .ok 1) := by
 rw [ck]
 simp
 cases lk nm <;> simp
theorem ck_cc (lk : By → Option Nm) (ns : Nm) (x : Tr) (xs : List Tr) (p : By × Int) (ps : Nm) : ck lk ns (chain (x :: xs)) (p :: ps) = bx (mu lk ns x p.2) fun _ => ck lk ns (chain xs) ps := by
 show ck lk ns (.slice [x] [chain xs]) (p :: ps) = _
 rw [ck]
 simp [mu, qB]
theorem ck_end (lk : By → Option Nm) (ns : Nm) : ck lk ns (chain []) [] = .ok 0 := by
 show ck lk ns (.slice [] []) [] = _
 rw [ck]
 all_goals simp
def cv (lk : By → Option Nm) (ns : Nm) (t : Tr) : X Unit := bx (ck lk ns t []) fun _ => .ok ()
theorem call_any {a n : Int} {nm op : By} {l r : Tr} {xs : List Tr} (IH : ∀ x ∈ xs, MuC x ∧ IsNd x) (hnm : nm.length ≤ 12) (hxs : xs.length ≤ 1000000) (w : World) (C : Nat) (fv mv nv : Value) (fs : List Fun) (ns : Nm) (k : Nat) (v : Value) (hs : CkS w C fv mv nv ns k) (hf : FxS w C fv mv fs) (hx : ExAt (Lo C) w (nd 5 a n nm op l r (chain xs)) v) :
  Calls Tryz.prog 210 #[.pointer (some ⟨C, 0, none⟩), v] w (MuP (cv (lkL fs) ns (nd 5 a n nm op l r (chain xs))) w) := by
 obtain ⟨b, vl, vr, vg, ys, hb, rfl, hblk, hxl, hxr, hrow, hro, hxg⟩ := zY hx
 obtain ⟨xs', hch, hlen, hat⟩ := chain_open ys _ hxg
 have := chain_inj hch
 subst this
 obtain ⟨qg, cg, rfl⟩ := ze hrow
 obtain ⟨y, hy, hyt⟩ := zt nm
 have hysz : y.size ≤ 1000000 := by rw [← j_len, hyt]; omega
 have c3 : w.cell? ⟨b, 3, none⟩ = some (.string y) := by rw [← hy]; exact z_ (i := 3) hblk rfl
 have c1 := z_ (i := 1) hblk rfl
 have c7 := z_ (i := 7) hblk rfl
 have d0 := z_ (i := 0) hs.blk rfl
 have d1 := z_ (i := 1) hs.blk rfl
 have hlk := hf.look w.drew (Below.refl _ _).drew y hysz
 rw [hyt] at hlk
 have HS : Hid (CkS w C fv mv nv ns k) := hs
 have HF : Hid (FxS w C fv mv fs) := hf
 have HIH : Hid (∀ x ∈ xs, MuC x ∧ IsNd x) := IH
 have HAt : Hid (∀ (i : Nat) (x : Tr) (y : Value), xs[i]? = some x → ys[i]? = some y → ExAt (Lo C) w x y) := hat
 have HRow : Hid (w.ownsRow 0 145 1 (.slice qg ys.length cg) ys.length ys) := hrow
 have HLo : Hid (∀ i, (Value.slice qg ys.length cg).ownBlock = some i → Lo C i) := hro
 have HLn : Hid (xs.length = ys.length) := hlen
 have HCK : Hid (cv (lkL fs) ns (nd 5 a n nm op l r (chain xs)) = (match lkL fs nm with | none => .error (7, a) | some ps => if xs.length ≠ ps.length then .error (2, a) else bx (ck (lkL fs) ns (chain xs) ps) fun _ => .ok ())) := by
  show _ = _
  unfold cv
  rw [ck_5, qc]
  cases lkL fs nm with
  | none => rfl
  | some ps =>
   show bx (if xs.length ≠ ps.length then _ else _) _ = if xs.length ≠ ps.length then _ else _
   split
   ·rfl
   ·rw [qB]
    rfl
 have HG0 : Hid (∀ e w', MuP (cv (lkL fs) ns (nd 5 a n nm op l r (chain xs))) w e w' → MuP (cv (lkL fs) ns (nd 5 a n nm op l r (chain xs))) w e w') := fun _ _ h => h
 generalize hG : MuP (cv (lkL fs) ns (nd 5 a n nm op l r (chain xs))) w = G at *
 clear HG0
 have HG0 : Hid (∀ e w', MuP (cv (lkL fs) ns (nd 5 a n nm op l r (chain xs))) w e w' → G e w') := fun e w' h => by rw [← hG]; exact h
 generalize cv (lkL fs) ns (nd 5 a n nm op l r (chain xs)) = R0 at *
 clear IH hs hf hx hblk hxl hxr hrow hro hxg hG hch hat hy hyt hysz hlen
 rcases ixf_lk nm fs with ⟨i, F, e1, e2, e3, e4⟩ | ⟨e1, e2⟩
 ·rw [e1] at hlk
  have hlk' : (Instr.lookup 92 mv (.string y) true).run Tryz.prog w.drew = .ok (.tuple #[.int .i64 (i : Int), .bool true]) w.drew := hlk
  clear hlk
  obtain ⟨fg, fc, vp, hfv, q2, hpr, hpl⟩ := HF.out.par w (Below.refl _ _) i F e2
  obtain ⟨qp, cp, rfl⟩ := ze hpr
  have HPr : Hid (w.ownsRow 0 144 2 (.slice qp F.ps.length cp) F.ps.length (psC F.ps)) := hpr
  have hfew := HF.out.few
  have HR1 : Hid (R0 = if xs.length ≠ F.ps.length then .error (2, a) else bx (ck (lkL fs) ns (chain xs) F.ps) fun _ => .ok ()) := by
   show _ = _
   rw [HCK.out, e4]
  rw [hfv] at d0
  obtain ⟨nf, hnf⟩ : ∃ nf, nf = fs.length := ⟨_, rfl⟩
  rw [← hnf] at d0 e3 hfew
  obtain ⟨np, hnp⟩ : ∃ np, np = F.ps.length := ⟨_, rfl⟩
  have HNp : Hid (np = F.ps.length) := hnp
  rw [← hnp] at HPr HR1 q2 hpl
  obtain ⟨m, hm⟩ : ∃ m, m = ys.length := ⟨_, rfl⟩
  have HM : Hid (m = ys.length) := hm
  rw [← hm] at HRow HLo HLn c7
  rw [HLn.out] at HR1 hxs
  clear e1 e2 e4 hfv hpr hnf hnp hm HCK
  by_cases hmp : m = np
  ·subst hmp
   have HR2 : Hid (R0 = bx (ck (lkL fs) ns (chain xs) F.ps) fun _ => .ok ()) := by
    show _ = _
    rw [HR1.out, if_neg (by simp)]
   clear HR1
   go_enter Tryz.func210, Tryz.ntmps210
   go_wp2_with fail
   go_region
   all_goals
    go_wp2_with fail
    go_loopw [54] (fun v wr => ∃ j : Nat, j ≤ m ∧ v = .int .i64 j ∧ Hid (ck (lkL fs) ns (chain xs) F.ps = ck (lkL fs) ns (chain (xs.drop j)) (F.ps.drop j)) ∧ Hid (Below w.heap.size w wr)) (fun v _ => m - (intOf v).toNat)
    case atStart => exact ⟨0, Nat.zero_le _, rfl, by show _ = _; simp, (Below.refl _ _).drew⟩
    case round =>
     obtain ⟨j, hj, rfl, HI, HB⟩ := hrel
     by_cases hlt : j < m
     ·obtain ⟨x, hxj⟩ : ∃ x, xs[j]? = some x := ⟨xs[j]'(by have := HLn.out; omega), List.getElem?_eq_getElem (by have := HLn.out; omega)⟩
      obtain ⟨p, hpj⟩ : ∃ p, F.ps[j]? = some p := ⟨F.ps[j]'(by have := HNp.out; omega), List.getElem?_eq_getElem (by have := HNp.out; omega)⟩
      obtain ⟨yv, hyj⟩ : ∃ yv, ys[j]? = some yv := ⟨ys[j]'(by have := HM.out; omega), List.getElem?_eq_getElem (by have := HM.out; omega)⟩
      have hex := HAt.out j x yv hxj hyj
      obtain ⟨hmu, hnd⟩ := HIH.out x (List.mem_of_getElem? hxj)
      obtain ⟨yb, rfl⟩ := IsNd.ptr hnd hex
      obtain ⟨gq, capq, eq1, -, -⟩ := HRow.out.form (by omega)
      injection eq1 with eq1 eq2 eq3
      subst eq1
      clear eq2 eq3
      obtain ⟨gp, capp, ep1, -, -⟩ := HPr.out.form (by omega)
      injection ep1 with ep1 ep2 ep3
      subst ep1
      clear ep2 ep3
      have q0 : wr.cell? ⟨gq, j, none⟩ = some (.pointer (some ⟨yb, 0, none⟩)) := by
       have := (HRow.out.kept (qP HB.out) (.inr (by simp [Value.ownBlock]))).cells (g := gq) rfl j _ hyj
       rw [zL] at this
       exact this
      have q1 : wr.cell? ⟨gp, j * 2 + 1, none⟩ = some (.int .i64 p.2) := by
       have := (HPr.out.kept (qP HB.out) (.inr (by simp [Value.ownBlock]))).cells (g := gp) rfl (j * 2 + 1) _ (psC_get F.ps j p hpj).2
       rw [zL] at this
       exact this
      have hloC := HB.out.mono (Nat.le_of_lt HS.out.lt)
      have HMu : Hid (Calls Tryz.prog 157 #[.pointer (some ⟨C, 0, none⟩), .pointer (some ⟨yb, 0, none⟩), .int .i64 p.2] wr (MuP (mu (lkL fs) ns x p.2) wr)) := hmu wr C fv mv nv fs ns k _ p.2 (HS.out.below HB.out) (HF.out.below hloC) ((zg hloC).ex hex)
      have HSt : Hid (ck (lkL fs) ns (chain (xs.drop j)) (F.ps.drop j) = bx (mu (lkL fs) ns x p.2) fun _ => ck (lkL fs) ns (chain (xs.drop (j + 1))) (F.ps.drop (j + 1))) := by
       show _ = _
       have e1 : xs.drop j = x :: xs.drop (j + 1) := by
        rw [List.drop_eq_getElem_cons (by have := HLn.out; omega)]
        congr 1
        have := List.getElem?_eq_getElem (l := xs) (i := j) (by have := HLn.out; omega)
        rw [hxj] at this
        exact (Option.some.inj this).symm
       have e2 : F.ps.drop j = p :: F.ps.drop (j + 1) := by
        rw [List.drop_eq_getElem_cons (by have := HNp.out; omega)]
        congr 1
        have := List.getElem?_eq_getElem (l := F.ps) (i := j) (by have := HNp.out; omega)
        rw [hpj] at this
        exact (Option.some.inj this).symm
       rw [e1, e2, ck_cc]
      obtain ⟨pt, hpt⟩ : ∃ pt, pt = p.2 := ⟨_, rfl⟩
      rw [← hpt] at q1 HMu HSt
      clear hxj hpj hyj hex hmu hnd hloC hpt
      go_wp2_with (go_at_call 157; fail)
      refine HMu.out.mono ?_
      rintro e w2 ⟨⟨hr, rfl⟩ | ⟨k1, a1, hr, b1, rfl, hb1⟩, hw⟩
      ·have HB2 : Hid (Below w.heap.size w w2) := HB.out.trans (hw.mono HB.out.size)
       have HI2 : Hid (ck (lkL fs) ns (chain xs) F.ps = ck (lkL fs) ns (chain (xs.drop (j + 1))) (F.ps.drop (j + 1))) := by
        show _ = _
        rw [HI.out, HSt.out, hr]
        rfl
       clear hw hr
       go_wp2
       exact ⟨⟨j + 1, by omega, by go_num, HI2, HB2⟩, by simp [intOf]; omega⟩
      ·refine ⟨rfl, HG0.out _ _ ⟨.inr ⟨k1, a1, ?_, b1, rfl, hb1⟩, HB.out.trans (hw.mono HB.out.size)⟩⟩
       rw [HR2.out, HI.out, HSt.out, hr]
       rfl
     ·obtain rfl : j = m := by omega
      have HE : Hid (R0 = .ok ()) := by
       show _ = _
       rw [HR2.out, HI.out, List.drop_of_length_le (by have := HLn.out; omega), List.drop_of_length_le (by have := HNp.out; omega), ck_end]
       rfl
      clear hlt HI
      go_wp2
      go_end0
      exact HG0.out _ _ ⟨.inl ⟨HE.out, rfl⟩, HB.out⟩
  ·have hmp' : ((m : Int) == (np : Int)) = false := by simp; omega
   have HR2 : Hid (R0 = .error (2, a)) := by
    show _ = _
    rw [HR1.out, if_pos (by simpa using hmp)]
   clear HR1 hmp
   go_enter Tryz.func210, Tryz.ntmps210
   go_wp2_with fail
   go_region
   all_goals
    go_wp2_with (go_at_call 64; fail)
    refine (jl 2 a _).mono ?_
    rintro e w2 ⟨⟨b2, rfl, hb2⟩, hw2⟩
    exact ⟨rfl, HG0.out _ _ ⟨.inr ⟨2, a, HR2.out, b2, rfl, hb2⟩, (Below.refl _ _).drew.trans hw2⟩⟩
 ·rw [e1] at hlk
  have hlk' : (Instr.lookup 92 mv (.string y) true).run Tryz.prog w.drew = .ok (.tuple #[.int .i64 0, .bool false]) w.drew := hlk
  have HR1 : Hid (R0 = .error (7, a)) := by
   show _ = _
   rw [HCK.out, e2]
  clear hlk e1 e2
  go_enter Tryz.func210, Tryz.ntmps210
  go_wp2_with fail
  go_region
  all_goals
   go_wp2_with (go_at_call 64; fail)
   refine (jl 7 a _).mono ?_
   rintro e w2 ⟨⟨b2, rfl, hb2⟩, hw2⟩
   exact ⟨rfl, HG0.out _ _ ⟨.inr ⟨7, a, HR1.out, b2, rfl, hb2⟩, (Below.refl _ _).drew.trans hw2⟩⟩
theorem ty_call {a n : Int} {nm op : By} {l r : Tr} {xs : List Tr} (IH : ∀ x ∈ xs, MuC x ∧ IsNd x) (hnm : nm.length ≤ 12) (hxs : xs.length ≤ 1000000) : TyC (nd 5 a n nm op l r (chain xs)) := by
 intro w C fv mv nv fs ns k v hs hf hx
 have HC : Hid (Calls Tryz.prog 210 #[.pointer (some ⟨C, 0, none⟩), v] w (MuP (cv (lkL fs) ns (nd 5 a n nm op l r (chain xs))) w)) := call_any IH hnm hxs w C fv mv nv fs ns k v hs hf hx
 obtain ⟨b, vl, vr, vg, ys, hb, rfl, hblk, hxl, hxr, hrow, hro, hxg⟩ := zY hx
 have c0 := z_ (i := 0) hblk rfl
 have HE : Hid (ck (lkL fs) ns (nd 5 a n nm op l r (chain xs)) [] = bx (cv (lkL fs) ns (nd 5 a n nm op l r (chain xs))) fun _ => .ok 1) := by
  show _ = _
  unfold cv
  rw [qB, ck_5]
  cases lkL fs nm with
  | none => rfl
  | some ps =>
   show (if _ then _ else _) = bx (if _ then _ else _) _
   split
   ·rfl
   ·rw [qB]
    rfl
 have HG0 : Hid (∀ e w', TyP (ck (lkL fs) ns (nd 5 a n nm op l r (chain xs)) []) w e w' → TyP (ck (lkL fs) ns (nd 5 a n nm op l r (chain xs)) []) w e w') := fun _ _ h => h
 generalize hG : TyP (ck (lkL fs) ns (nd 5 a n nm op l r (chain xs)) []) w = G at *
 clear HG0
 have HG0 : Hid (∀ e w', TyP (ck (lkL fs) ns (nd 5 a n nm op l r (chain xs)) []) w e w' → G e w') := fun e w' h => by rw [← hG]; exact h
 generalize cv (lkL fs) ns (nd 5 a n nm op l r (chain xs)) = R0 at *
 generalize ck (lkL fs) ns (nd 5 a n nm op l r (chain xs)) [] = R1 at *
 clear IH hs hf hx hblk hxl hxr hrow hro hxg hG
 go_enter Tryz.func156, Tryz.ntmps156
 go_wp2_with (go_at_call 210; fail)
 refine HC.out.mono ?_
 rintro e w1 ⟨⟨hr, rfl⟩ | ⟨k1, a1, hr, b1, rfl, hb1⟩, hw⟩
 ·have HB1 : Hid (Below w.heap.size w w1) := hw
  have HR : Hid (R0 = .ok ()) := hr
  clear hw hr
  go_wp2
  refine HG0.out _ _ ⟨.inl ⟨1, ?_, rfl⟩, HB1.out⟩
  rw [HE.out, HR.out]
  rfl
 ·refine ⟨rfl, HG0.out _ _ ⟨.inr ⟨k1, a1, ?_, b1, rfl, hb1⟩, hw⟩⟩
  rw [HE.out, hr]
  rfl
theorem good_mem : ∀ (xs : List Tr), zy (chain xs) → ∀ x ∈ xs, zy x
 | [], _, x, hx => by simp at hx
 | y :: xs, h, x, hx => by
  have h' : zy (.slice [y] [chain xs]) := h
  rw [zy] at h'
  rcases List.mem_cons.1 hx with rfl | hx
  ·exact h'.2.1
  ·exact good_mem xs h'.2.2 x hx
theorem re_isNd {f d : Nat} {t : Tr} (h : RE f d t) : IsNd t := re_nd h
theorem ty_all : ∀ (f d : Nat) (t : Tr), RE f d t → zy t → TyC t
 | 0, _, _, h, _ => h.elim
 | f + 1, d, t, h, hg => by
  have MU : ∀ (d : Nat) (t : Tr), RE f d t → zy t → MuC t := fun d t h g => must_of (re_isNd h) (ty_all f d t h g)
  rw [RE] at h
  rcases h.2 with ⟨a, n, h0, h1, rfl⟩ | ⟨a, nm, hn, rfl⟩ | ⟨a, op, l, r, h1, h2, h3, rfl⟩ | ⟨a, op, l, h1, h2, rfl⟩ | ⟨a, nm, xs, h1, h2, rfl⟩ | ⟨a, l, h2, rfl⟩ | ⟨a, l, h2, rfl⟩ | ⟨a, l, r, h2, h3, rfl⟩ | ⟨a, rfl⟩
  all_goals
   rw [zy] at hg
   obtain ⟨-, -, -, -, -, -, gl, gr, gg, zs, hz, hzl⟩ := hg
  ·exact ty_num
  ·exact ty_name
  ·exact ty_bin (MU _ l h2 gl) (MU _ r h3 gr)
  ·exact ty_un (MU _ l h2 gl)
  ·have e := chain_inj hz
   subst e
   refine ty_call (fun x hx => ⟨MU _ x (h2 x hx) ?_, re_isNd (h2 x hx)⟩) h1.2.2.2.2 hzl
   exact good_mem xs gg x hx
  ·exact ty_new (MU _ l h2 gl)
  ·exact ty_len (MU _ l h2 gl)
  ·exact ty_item (MU _ l h2 gl) (MU _ r h3 gr)
  ·exact ty_input
end Go.Proofs.YtnfhpdbbfejioaaGreatDoor
