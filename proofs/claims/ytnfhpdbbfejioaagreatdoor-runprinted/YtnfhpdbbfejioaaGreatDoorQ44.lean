/- RD HO HN HP -/
import Derived.Test.YtnfhpdbbfejioaaGreatDoorQ43
import Derived.Stop.LaidErr
import Derived.Lib.SmallJoins
import Derived.Lay
import Derived.Test.YtnfhpdbbfejioaaGreatDoorTie
import Derived.Test.YtnfhpdbbfejioaaGreatDoorCards
namespace Go.Proofs.YtnfhpdbbfejioaaGreatDoor
set_option linter.unusedVariables false
set_option linter.unusedSimpArgs false
set_option maxRecDepth 100000
set_option maxHeartbeats 4000000
open Go Go.RowKit
def Sx {α : Type} (x y : X α) : Prop := ∀ r, x = .ok r ↔ y = .ok r
theorem sx_rfl {α : Type} (x : X α) : Sx x x := fun _ => Iff.rfl
theorem sx_err {α : Type} (a b : Int × Int) : Sx (α := α) (.error a) (.error b) := fun r => ⟨fun h => (by cases h), fun h => (by cases h)⟩
theorem sx_bx {α β : Type} {x y : X α} {f h : α → X β} (hx : Sx x y) (hf : ∀ a, Sx (f a) (h a)) : Sx (bx x f) (bx y h) := fun r => by
 constructor
 ·intro e
  obtain ⟨a, e1, e2⟩ := zP e
  rw [(hx a).1 e1]
  exact (hf a r).1 e2
 ·intro e
  obtain ⟨a, e1, e2⟩ := zP e
  rw [(hx a).2 e1]
  exact (hf a r).2 e2
theorem sx_if {α : Type} {c : Prop} [Decidable c] {x y x' y' : X α} (hx : Sx x x') (hy : Sx y y') : Sx (if c then x else y) (if c then x' else y') := by
 split
 ·exact hx
 ·exact hy
theorem sx_isT (t k a b : Int) : Sx (isT t k a) (isT t k b) := by
 unfold isT
 exact sx_if (sx_rfl _) (sx_err _ _)
theorem sx_addV (s : Nm × Nat) (v : By × Int) (a b : Int) : Sx (addV s v a) (addV s v b) := by
 unfold addV
 exact sx_if (sx_err _ _) (sx_if (sx_err _ _) (sx_rfl _))
theorem er_chl (t : Tr) : chl (er t) = chl t := by
 unfold er
 split
 ·simp [chl]
 ·simp [chl]
 ·simp [chl]
 ·rename_i x g
  simp only [chl]
  rw [er_chl g]
 ·rfl
theorem sx_ck (lk : By → Option Nm) (ns : Nm) : ∀ (t : Tr) (ps : Nm), Sx (ck lk ns (er t) ps) (ck lk ns t ps) := fun t ps => by
 unfold er
 split
 ·rename_i k1 c k2 a k3 n nm op l r g
  have il := sx_ck lk ns l
  have ir := sx_ck lk ns r
  have ig := sx_ck lk ns g
  rw [ck, ck, er_chl]
  cases hn : ja ns nm <;> cases hk : lk nm <;> simp only
  all_goals repeat' first | exact il _ | exact ir _ | exact ig _ | exact sx_isT _ _ _ _ | exact sx_err _ _ | exact sx_rfl _ | refine sx_if ?_ ?_ | (refine sx_bx ?_ fun _ => ?_)
 ·cases ps <;> (simp only [ck]; exact sx_rfl _)
 ·cases ps <;> (simp only [ck]; exact sx_rfl _)
 ·rename_i x g
  have ix := sx_ck lk ns x
  have ig := sx_ck lk ns g
  cases ps with
  | nil => simp only [ck]; exact sx_rfl _
  | cons p ps =>
   rw [ck, ck]
   exact sx_bx (ix _) fun _ => sx_bx (sx_isT _ _ _ _) fun _ => ig _
 ·exact sx_rfl _
theorem sx_mu (lk : By → Option Nm) (ns : Nm) (t : Tr) (k : Int) : Sx (mu lk ns (er t) k) (mu lk ns t k) := sx_bx (sx_ck _ _ _ _) fun _ => sx_isT _ _ _ _
theorem sx_stmt (lk : By → Option Nm) (c a : Int) (nm : By) (ix v th el g' g : Tr) (s : Nm × Nat) (ht : ∀ s, Sx (cks lk (er th) s) (cks lk th s)) (hl : ∀ s, Sx (cks lk (er el) s) (cks lk el s)) (hg : ∀ s, Sx (cks lk g' s) (cks lk g s)) : Sx (cks lk (cc (er (st c a nm ix v th el)) g') s) (cks lk (cc (st c a nm ix v th el) g) s) := by
 rw [er_st, cks, cks]
 cases hn : ja s.1 nm <;> simp only
 all_goals repeat' first | exact ht _ | exact hl _ | exact hg _ | exact sx_mu _ _ _ _ | exact sx_ck _ _ _ _ | exact sx_addV _ _ _ _ | exact sx_err _ _ | exact sx_rfl _ | refine sx_if ?_ ?_ | (refine sx_bx ?_ fun _ => ?_)
theorem sx_ce (lk : By → Option Nm) (s : Nm × Nat) : Sx (cks lk (er ce) s) (cks lk ce s) := by rw [zE]; exact sx_rfl _
theorem sx_rows (lk : By → Option Nm) (e d : Nat) (step : ∀ (x : Tr) (xs : List Tr), (∀ y ∈ x :: xs, RS e d y) → (∀ s, Sx (cks lk (er (chain xs)) s) (cks lk (chain xs) s)) → ∀ s, Sx (cks lk (er (chain (x :: xs))) s) (cks lk (chain (x :: xs)) s)) : ∀ (xs : List Tr), (∀ x ∈ xs, RS e d x) → ∀ s, Sx (cks lk (er (chain xs)) s) (cks lk (chain xs) s)
 | [], _, s => sx_ce lk s
 | x :: xs, h, s => step x xs h (sx_rows lk e d step xs (fun y hy => h y (by simp [hy]))) s
theorem sx_cks (lk : By → Option Nm) : ∀ (e d : Nat) (xs : List Tr), (∀ x ∈ xs, RS e d x) → ∀ s, Sx (cks lk (er (chain xs)) s) (cks lk (chain xs) s)
 | 0, d, [], _, s => sx_ce lk s
 | 0, d, x :: xs, h, s => (h x (by simp)).elim
 | e + 1, d, [], _, s => sx_ce lk s
 | e + 1, d, x0 :: xs0, h0, s0 => by
  have ih := sx_cks lk e
  refine sx_rows lk (e + 1) d (fun x xs h hg s => ?_) (x0 :: xs0) h0 s0
  show Sx (cks lk (er (cc x (chain xs))) s) (cks lk (cc x (chain xs)) s)
  rw [er_cc]
  have hx := h x (by simp)
  rw [RS] at hx
  rcases hx with ⟨a, nm, v, _, _, rfl⟩ | ⟨a, nm, v, _, _, rfl⟩ | ⟨a, nm, i, v, _, _, _, rfl⟩ | ⟨a, v, ys, zs, _, _, h3, h4, rfl⟩ | ⟨a, v, ys, _, _, h3, rfl⟩ | ⟨a, v, _, rfl⟩ | ⟨a, v, _, rfl⟩ | ⟨a, b, nm, ys, _, _, rfl⟩
  ·exact sx_stmt lk _ _ _ _ _ _ _ _ _ s (sx_ce lk) (sx_ce lk) hg
  ·exact sx_stmt lk _ _ _ _ _ _ _ _ _ s (sx_ce lk) (sx_ce lk) hg
  ·exact sx_stmt lk _ _ _ _ _ _ _ _ _ s (sx_ce lk) (sx_ce lk) hg
  ·exact sx_stmt lk _ _ _ _ _ _ _ _ _ s (ih (d + 1) ys h3) (ih (d + 1) zs h4) hg
  ·exact sx_stmt lk _ _ _ _ _ _ _ _ _ s (ih (d + 1) ys h3) (sx_ce lk) hg
  ·exact sx_stmt lk _ _ _ _ _ _ _ _ _ s (sx_ce lk) (sx_ce lk) hg
  ·exact sx_stmt lk _ _ _ _ _ _ _ _ _ s (sx_ce lk) (sx_ce lk) hg
  ·exact sx_stmt lk _ _ _ _ _ _ _ _ _ s (sx_ce lk) (sx_ce lk) hg
theorem sx_adds (a b : Int) : ∀ (ps : Nm) (s : Nm × Nat), Sx (addsV a ps s) (addsV b ps s)
 | [], s => sx_rfl _
 | p :: ps, s => by
  rw [addsV, addsV]
  exact sx_bx (sx_addV _ _ _ _) fun _ => sx_adds a b ps _
theorem sx_ckF (lk : By → Option Nm) {F : Fun} (h : RF F) : Sx (ckF lk (erF F)) (ckF lk F) := by
 obtain ⟨_, _, _, xs, e, hb, hx⟩ := h
 unfold ckF
 refine sx_bx (sx_adds _ _ _ _) fun s => sx_bx ?_ fun _ => sx_rfl _
 show Sx (cks lk (er F.body) s) _
 rw [hb]
 exact sx_cks lk e 1 xs hx s
theorem sx_fs (lk : By → Option Nm) : ∀ L : List Fun, (∀ F ∈ L, RF F) → Sx (ckFs lk (L.map erF)) (ckFs lk L)
 | [], _ => sx_rfl _
 | F :: L, h => by
  show Sx (ckFs lk (erF F :: L.map erF)) (ckFs lk (F :: L))
  rw [ckFs, ckFs]
  exact sx_bx (sx_ckF lk (h F (by simp))) fun _ => sx_fs lk L fun G hG => h G (by simp [hG])
theorem sx_twice : ∀ (L : List Fun) (ns : List By), Sx (jk ns (L.map erF)) (jk ns L)
 | [], ns => sx_rfl _
 | F :: L, ns => by
  show Sx (jk ns (erF F :: L.map erF)) (jk ns (F :: L))
  rw [jk, jk]
  exact sx_if (sx_err _ _) (sx_twice L _)
theorem lk_er (L : List Fun) : lkL (L.map erF) = lkL L := by
 funext nm
 unfold lkL
 rw [List.find?_map, Option.map_map]
 rfl
theorem sx_chk (L : List Fun) (h : ∀ F ∈ L, RF F) : Sx (chk (L.map erF)) (chk L) := by
 unfold chk
 rw [lk_er]
 exact sx_bx (sx_twice L []) fun _ => sx_bx (sx_fs _ L h) fun _ => sx_rfl _
theorem back_er {s : By} (hs : s.length ≤ 1000000) {L : List Fun} (h : zO s = .ok (chain (L.map Fun.tr))) {fl : Nat → UInt8 → By} (hf : FlOk fl) (hz : (txtF fl 0 (pcL L)).length ≤ 1000000) :
  ∃ L' : List Fun, zO (txtF fl 0 (pcL L)) = .ok (chain (L'.map Fun.tr)) ∧ L'.map erF = L.map erF ∧ (chk L = .ok true → chk L' = .ok true) ∧ ∀ g inp a, rnV g L' inp a = rnV g L inp a := by
 obtain ⟨l, c, t1, p1⟩ := parse_parts h
 obtain ⟨e1, e2⟩ := tok_ends t1 hs
 obtain ⟨L0, q0, gL, q1⟩ := prog_re _ 0 (tok_tk t1) e1 p1
 have := trs_inj q0
 subst this
 obtain ⟨L1, z1, z2, z3, z4⟩ := parse_good hs h
 have := trs_inj z1
 subst this
 have fc := rl_fc L gL
 obtain ⟨r, r1, r2⟩ := tok_pcs hf (pcL L) fc.ok (fc.sep 32) (by omega)
 have hx := prog_x L gL (r.length + 1) 0 (by
  have : r.length = (tks (pcL L)).length + 1 := by
   have := congrArg List.length r2
   simpa using this
  have hle := pcL_len L
  omega) (by omega)
 have hpl : pl r = tks (pcL L) ++ [nu0] := r2
 have hnat : eR er (zT (r.length + 1) 0 r) = .ok (chain ((L.map erF).map Fun.tr), [nu0]) := by rw [← e_prog, hpl, hx]
 obtain ⟨t', c', h3, h4⟩ : ∃ t' c', zT (r.length + 1) 0 r = .ok (t', c') ∧ er t' = chain ((L.map erF).map Fun.tr) := by
  cases hp : zT (r.length + 1) 0 r with
  | error x =>
   rw [hp] at hnat
   cases x
   cases hnat
  | ok x =>
   rw [hp] at hnat
   obtain ⟨t', c'⟩ := x
   injection hnat with hnat
   injection hnat with hnat _
   exact ⟨t', c', rfl, hnat⟩
 have hp : zO (txtF fl 0 (pcL L)) = .ok t' := by
  unfold zO
  rw [r1]
  show (match zT (r.length + 1) 0 r with | .error e => _ | .ok (t, _) => _) = _
  rw [h3]
 obtain ⟨L', y1, y2, y3, y4⟩ := parse_good hz hp
 subst y1
 rw [er_trs] at h4
 have h5 := trs_inj h4
 obtain ⟨l2, c2, t2, p2⟩ := parse_parts hp
 obtain ⟨e3, e4⟩ := tok_ends t2 hz
 obtain ⟨L2, q2, gL', q3⟩ := prog_re _ 0 (tok_tk t2) e3 p2
 have := trs_inj q2
 subst this
 refine ⟨L', hp, h5, fun hc => ?_, fun g inp a => ?_⟩
 ·refine (sx_chk L' gL' true).1 ?_
  rw [h5]
  exact (sx_chk L gL true).2 hc
 ·rw [← run_er g L', h5, run_er]
def Gas (L : List Fun) (inp : List Int) (a g : Nat) : Prop := ∀ k, (rnV (g + k) L inp a).1 ≠ 99 ∧ rnV (g + k) L inp a = rnV g L inp a
def RnV (way code : Int) (out : List Int) (n : Nat) (W : World) (e : Ending) (w' : World) : Prop := ∃ p c, e = .returned (.agg #[.int .i64 way, .int .i64 code, .slice p n c]) ∧ InW w' (.slice p n c) out ∧ Below W.heap.size W w'
theorem run_at {s : By} (hs : s.length ≤ 1000000) {L : List Fun} (h : zO s = .ok (chain (L.map Fun.tr))) (hc : chk L = .ok true) {inp : List Int} {a : Nat} (ha : a ≤ 1000000) {g : Nat} (hg : Gas L inp a g) {way code : Int} {out : List Int} {n : Nat} (hr : rnV g L inp a = (way, code, out)) (hn : n = out.length) (W : World) (v iv : Value) (hv : Got W v L) (hi : InW W iv inp) :
  Calls Tryz.prog 12 #[v, iv, .int .i64 (a : Int)] W (RnV way code out n W) := by
 have e2 := hg 2
 have := goes_any W v iv L (li_of hv) (read_rf hs h).2 (read_rf hs h).1 hc inp hi a ha g e2.1
 rw [e2.2, hr] at this
 refine this.mono ?_
 rintro e w' ⟨p, c, h1, h2, h3⟩
 subst hn
 exact ⟨p, c, h1, InW.of_own h2, h3⟩
theorem back_run {s : By} (hs : s.length ≤ 1000000) {L : List Fun} (h : zO s = .ok (chain (L.map Fun.tr))) :
  ∃ L' : List Fun, zO (prT L) = .ok (chain (L'.map Fun.tr)) ∧ (prT L).length ≤ 150100 ∧ (chk L = .ok true → chk L' = .ok true) ∧ ∀ g inp a, rnV g L' inp a = rnV g L inp a := by
 obtain ⟨l, c, t1, p1⟩ := parse_parts h
 obtain ⟨e1, e2⟩ := tok_ends t1 hs
 obtain ⟨L0, q0, gL, q1⟩ := prog_re _ 0 (tok_tk t1) e1 p1
 have := trs_inj q0
 subst this
 have fc := rl_fc L gL
 obtain ⟨L1, z1, z2, z3, z4⟩ := parse_good hs h
 have := trs_inj z1
 subst this
 have e : txtF ownFl 0 (pcL L) = prT L := by rw [own_txt _ _ fc.ok, fc.tx]
 obtain ⟨L', y1, y2, y3, y4⟩ := back_er hs h own_ok (by rw [e]; omega)
 rw [e] at y1
 exact ⟨L', y1, z3, y3, y4⟩
theorem printed_any (w : World) (he : EnvW 14 w) (s : ByteArray) (iv : Value) (inp : List Int) (hin : InW w iv inp) :
  Calls Tryz.prog 4 #[.string s, iv] w fun e w' => e = .returned (.bool true) ∧ Below w.heap.size w w' := by
 have e1 := eq34n
 obtain ⟨qi, ci, rfl, -⟩ := id hin
 by_cases h20 : 20 < inp.length
 ·have h20' : (20 : Int) < inp.length := by omega
  clear he hin
  go_enter Tryz.func4, Tryz.ntmps4
  go_wp2
  go_ret
  exact ⟨rfl, Below.refl _ _⟩
 have h20' : ¬ (20 : Int) < inp.length := by omega
 have HD : Hid (Calls Tryz.prog 9 #[] w fun e w' => e = .returned (.bool true) ∧ Below w.heap.size w w') := goes_ok w he
 have HE : Hid (∀ w', Below w.heap.size w w' → EnvW 14 w') := fun w' hb => he.below hb
 have HIn : Hid (∀ w', Below w.heap.size w w' → InW w' (.slice qi inp.length ci) inp) := fun w' hb => hin.below hb
 obtain ⟨ni, hni⟩ : ∃ ni, ni = inp.length := ⟨_, rfl⟩
 rw [← hni] at HIn h20' ⊢
 clear he hin hni h20
 go_enter Tryz.func4, Tryz.ntmps4
 go_wp2_with (first | (go_at_call 9; refine HD.out.mono ?_; rintro e w1 ⟨rfl, hb⟩; have HB : Hid (Below w.heap.size w w1) := hb; clear hb) | (go_at_call 10; fail))
 refine (right_any w1 (HE.out _ HB.out) s).mono ?_
 rintro e w2 ⟨hb, ⟨q, n, c, rfl⟩ | ⟨q, c, L, rfl, hsz, hp, hck, hg⟩⟩
 ·have HB2 : Hid (Below w.heap.size w w2) := HB.out.trans (hb.mono HB.out.size)
  clear hb
  go_wp2
  go_ret
  exact ⟨rfl, HB2.out⟩
 ·have HB2 : Hid (Below w.heap.size w w2) := HB.out.trans (hb.mono HB.out.size)
  have hs6 : s.data.toList.length ≤ 1000000 := by omega
  obtain ⟨L', hp', hlen, hck', hrn⟩ := back_run hs6 hp
  obtain ⟨g1, hg1⟩ := run_ends L inp 200
  obtain ⟨way, code, out, hr⟩ : ∃ way code out, rnV g1 L inp 200 = (way, code, out) := ⟨_, _, _, rfl⟩
  have hmax : out.length ≤ 200 := by have := run_max g1 L inp 200; rw [hr] at this; exact this
  obtain ⟨no, hno⟩ : ∃ no, no = out.length := ⟨_, rfl⟩
  obtain ⟨XA, hXA⟩ : ∃ X : ByteArray, X = ⟨(prT L).toArray⟩ := ⟨_, rfl⟩
  have hXl : XA.data.toList = prT L := by rw [hXA]
  have hXs : XA.size ≤ 1000000 := by
   have : XA.size = (prT L).length := by rw [hXA]; simp [ByteArray.size]
   omega
  have hrf := read_rf hs6 hp
  have HPr : Hid (∀ W v, Below w.heap.size w W → Got W v L → Calls Tryz.prog 15 #[v] W fun e w' => e = .returned (.string XA) ∧ Below W.heap.size W w') := fun W v hb hv => by rw [hXA]; exact print_got (HE.out _ hb) hv (fun F hF => (hrf.1 F hF).1) hlen hrf.2
  have HPa : Hid (∀ W, Below w.heap.size w W → Calls Tryz.prog 14 #[.string XA] W fun e w' => ∃ q c, e = .returned (.tuple #[.slice q L'.length c, .nilIface]) ∧ Got w' (.slice q L'.length c) L' ∧ Below W.heap.size W w') := fun W hb => parse_got (HE.out _ hb).env hXs (by rw [hXl]; exact hp')
  have hs7 : (prT L).length ≤ 1000000 := by omega
  have HCk : Hid (∀ W v, Got W v L' → Calls Tryz.prog 16 #[v] W fun e w' => e = .returned .nilIface ∧ Below W.heap.size W w') := fun W v hv => (check_got hs7 hp' W v hv).mono fun e w' h => by
   obtain ⟨⟨_, rfl⟩ | ⟨h, _⟩ | ⟨k, a, b, h, _⟩, hb⟩ := h
   ·exact ⟨rfl, hb⟩
   ·rw [hck' hck] at h; cases h
   ·rw [hck' hck] at h; cases h
  have HR1 : Hid (∀ W v iv, Got W v L → InW W iv inp → Calls Tryz.prog 12 #[v, iv, .int .i64 200] W (RnV way code out no W)) := fun W v iv hv hi => run_at (a := 200) hs6 hp hck (by omega) hg1 hr hno W v iv hv hi
  have HR2 : Hid (∀ W v iv, Got W v L' → InW W iv inp → Calls Tryz.prog 12 #[v, iv, .int .i64 200] W (RnV way code out no W)) := fun W v iv hv hi => run_at (a := 200) hs7 hp' (hck' hck) (by omega) (fun k => by rw [hrn, hrn]; exact hg1 k) (by rw [hrn]; exact hr) hno W v iv hv hi
  have HEq : Hid (∀ W v1 v2, InW W v1 out → InW W v2 out → Calls Tryz.prog 13 #[v1, v2] W fun e w' => e = .returned (.bool true) ∧ Below W.heap.size W w') := fun W v1 v2 h1 h2 => equal_same W v1 v2 out h1 h2 (by omega)
  obtain ⟨n, hn⟩ : ∃ n, n = L.length := ⟨_, rfl⟩
  obtain ⟨n', hn'⟩ : ∃ n', n' = L'.length := ⟨_, rfl⟩
  have HG : Hid (Got w2 (.slice q n c) L) := by rw [hn]; exact hg
  rw [← hn]
  rw [← hn'] at HPa
  clear hb hsz hp hck hg hs6 hp' hlen hck' hrn hg1 hr hmax hno hXA hXl hXs hrf hs7 hn hn'
  go_wp2_with (go_at_call 15; fail)
  refine (HPr.out _ _ HB2.out HG.out).mono ?_
  rintro e w3 ⟨rfl, hb⟩
  have HB3 : Hid (Below w.heap.size w w3) := HB2.out.trans (hb.mono HB2.out.size)
  have HG3 : Hid (Got w3 (.slice q n c) L) := HG.out.below hb
  clear hb
  go_wp2_with (go_at_call 14; fail)
  refine (HPa.out _ HB3.out).mono ?_
  rintro e w4 ⟨q', c', rfl, hg, hb⟩
  have HB4 : Hid (Below w.heap.size w w4) := HB3.out.trans (hb.mono HB3.out.size)
  have HG4 : Hid (Got w4 (.slice q n c) L ∧ Got w4 (.slice q' n' c') L') := ⟨HG3.out.below hb, hg⟩
  clear hb hg
  go_wp2_with (go_at_call 16; fail)
  refine (HCk.out _ _ HG4.out.2).mono ?_
  rintro e w5 ⟨rfl, hb⟩
  have HB5 : Hid (Below w.heap.size w w5) := HB4.out.trans (hb.mono HB4.out.size)
  have HG5 : Hid (Got w5 (.slice q n c) L ∧ Got w5 (.slice q' n' c') L') := ⟨HG4.out.1.below hb, HG4.out.2.below hb⟩
  clear hb
  go_wp2_with (go_at_call 12; fail)
  refine (HR1.out _ _ _ HG5.out.1 (HIn.out _ HB5.out)).mono ?_
  rintro e w6 ⟨p6, c6, rfl, hi6, hb⟩
  have HB6 : Hid (Below w.heap.size w w6) := HB5.out.trans (hb.mono HB5.out.size)
  have HG6 : Hid (Got w6 (.slice q' n' c') L' ∧ InW w6 (.slice p6 no c6) out) := ⟨HG5.out.2.below hb, hi6⟩
  clear hb hi6
  go_wp2_with (go_at_call 12; fail)
  refine (HR2.out _ _ _ HG6.out.1 (HIn.out _ HB6.out)).mono ?_
  rintro e w7 ⟨p7, c7, rfl, hi7, hb⟩
  have HB7 : Hid (Below w.heap.size w w7) := HB6.out.trans (hb.mono HB6.out.size)
  have HG7 : Hid (InW w7 (.slice p6 no c6) out ∧ InW w7 (.slice p7 no c7) out) := ⟨HG6.out.2.below hb, hi7⟩
  clear hb hi7
  go_wp2_with (go_at_call 13; fail)
  refine (HEq.out _ _ _ (HG7.out.1.below (jo _ _ _)) (HG7.out.2.below (jo _ _ _))).mono ?_
  rintro e w8 ⟨rfl, hb⟩
  have HB8 : Hid (Below w.heap.size w w8) := (HB7.out.trans ((jo w7 _ _).mono HB7.out.size)).trans (hb.mono (by have := HB7.out.size; simp; omega))
  clear hb
  go_wp2
  go_ret
  exact ⟨rfl, HB8.out⟩
end Go.Proofs.YtnfhpdbbfejioaaGreatDoor
namespace Go.Proofs.YtnfhpdbbfejioaaGreatDoor
set_option linter.unusedVariables false
open Go Go.Deep Go.ChangeShapes Go.WideShapes Go.ChangeAt Go.WideMaps Go.WideElems Go.RowKit
section
variable {H : Type} {enc : TypeId × Value → H} {P : Program} {w : World} {base : Nat} {sp : Nat → Bool} {held : Bool}
theorem arr_at {fuel n : Nat} {t e : TypeId} {cs : List Value} {ds : List (DataW H)} {p : List MemPlace} (ht : P.underlying t = some (.array n e)) (h : DataW.trod enc P w base sp held fuel t cs = some (.agg ds, p)) (i : Nat) (hi : i < n) :
  ∃ fuel' d p', ds[i]? = some d ∧ DataW.trod enc P w base sp held fuel' e ((cs.drop (i * P.cellsOf e)).take (P.cellsOf e)) = some (d, p') := by
 obtain ⟨xs, m, rfl, hx, hl, hn, hel⟩ := DataW.trod_array ht h
 have h1 := hel i hi
 simp only [Prod.mk.injEq, DataW.agg.injEq] at hx
 have hlt : i < xs.length := by omega
 rw [List.getElem?_eq_getElem hlt] at h1
 exact ⟨m, xs[i].1, xs[i].2, by rw [hx.1]; simp [hlt], h1⟩
theorem str_at {fuel : Nat} {t : TypeId} {fs : Array Field} {cs : List Value} {ds : List (DataW H)} {p : List MemPlace} (ht : P.underlying t = some (.struct fs)) (h : DataW.trod enc P w base sp held fuel t cs = some (.agg ds, p)) (i : Nat) (f : Field) (hf : fs.toList[i]? = some f) :
  ∃ fuel' d p', ds[i]? = some d ∧ DataW.trod enc P w base sp held fuel' f.type ((cs.drop f.offset).take (P.cellsOf f.type)) = some (d, p') := by
 cases fuel with
 | zero => simp [DataW.trod] at h
 | succ m =>
  simp only [DataW.trod, ht] at h
  split at h
  ·obtain ⟨xs, hm, hx⟩ := Option.map_eq_some_iff.1 h
   obtain ⟨b, hb, hb2⟩ := Lib.mapM_at hm i f hf
   simp only [Prod.mk.injEq, DataW.agg.injEq] at hx
   exact ⟨m, b.1, b.2, by rw [← hx.1]; simp [hb], hb2⟩
  ·cases h
theorem int_is {fuel : Nat} {t : TypeId} {k k' : IntKind} {z : Int} {cs : List Value} {p : List MemPlace} (ht : P.underlying t = some (.int k)) (h : DataW.trod enc P w base sp held fuel t cs = some (.lit (.int k' z), p)) : cs = [.int k' z] := by
 obtain ⟨n, h1, h2, _⟩ := DataW.trod_int ht h
 simp only [Prod.mk.injEq, DataW.lit.injEq, Lit.int.injEq] at h2
 rw [h1, h2.1.1, h2.1.2]
end
theorem sub_get {cs l : List Value} {a b : Nat} (h : (cs.drop a).take b = l) (j : Nat) (v : Value) (hv : l[j]? = some v) : cs[a + j]? = some v := by
 subst h
 rw [List.getElem?_take] at hv
 split at hv
 ·rw [List.getElem?_drop] at hv; exact hv
 ·cases hv
section
variable {H : Type} {enc : TypeId × Value → H} {w : World} {base : Nat} {sp : Nat → Bool} {held : Bool}
theorem int_sub {fuel : Nat} {l : List Value} {t : TypeId} {k k' : IntKind} {z : Int} {a : Nat} {p : List MemPlace} (ht : Tryz.prog.underlying t = some (.int k)) (hc : Tryz.prog.cellsOf t = 1)
  (h : DataW.trod enc Tryz.prog w base sp held fuel t ((l.drop a).take (Tryz.prog.cellsOf t)) = some (.lit (.int k' z), p)) : l[a]? = some (.int k' z) := by
 have := int_is ht h
 rw [hc] at this
 exact sub_get this 0 _ rfl
end
theorem own : ownKnob Tryz.prog.godebug = none := by kernel_rfl
theorem laidOut : laidOutB Tryz.prog = true := by kernel_rfl
theorem cells3 : Tryz.prog.cellsOf 3 = 1 := by kernel_rfl
theorem cells9 : Tryz.prog.cellsOf 9 = 1 := by kernel_rfl
theorem cells288 : Tryz.prog.cellsOf 288 = 2 := by kernel_rfl
theorem cells340 : Tryz.prog.cellsOf 340 = 1 := by kernel_rfl
theorem str_one {H : Type} {enc : TypeId × Value → H} {w : World} {base : Nat} {sp : Nat → Bool} {held : Bool} {fuel : Nat} {cs : List Value} {p : List MemPlace} {a : Nat} {s : By} (h : DataW.trod enc Tryz.prog w base sp held fuel 9 ((cs.drop a).take (Tryz.prog.cellsOf 9)) = some (.lit (.string s), p)) : cs[a]? = some (str s) := by
 obtain ⟨x, h1, h2, _⟩ := DataW.trod_string Tryz.underlying9 h
 simp only [Prod.mk.injEq, DataW.lit.injEq, Lit.string.injEq] at h2
 have : x = ⟨s.toArray⟩ := by cases x with | mk d => rw [h2.1]
 rw [this] at h1
 have := sub_get h1 0 _ rfl
 simpa using this
abbrev laidP : List (String × DataW Unit) := [("math/bits.deBruijn32tab", Rows.laid_math_bits_deBruijn32tab), ("math/bits.deBruijn64tab", Rows.laid_math_bits_deBruijn64tab), ("internal/strconv.uint64pow10", Rows.laid_internal_strconv_uint64pow10), ("unicode/utf8.acceptRanges", Rows.laid_unicode_utf8_acceptRanges), ("strconv.ErrRange", Rows.laid_strconv_ErrRange), ("strconv.ErrSyntax", Rows.laid_strconv_ErrSyntax), ("bloomery/tree.marks", Rows.laid_bloomery_tree_marks), ("bloomery/tree.pairs", Rows.laid_bloomery_tree_pairs), ("unicode/utf8.first", Rows.laid_unicode_utf8_first)]
theorem gMarks : Tryz.prog.globalNamed "bloomery/tree.marks" = some 1 := by kernel_rfl
theorem tMarks : (Tryz.prog.globals[1]?).map (·.type) = some 190 := by kernel_rfl
theorem gPairs : Tryz.prog.globalNamed "bloomery/tree.pairs" = some 6 := by kernel_rfl
theorem tPairs : (Tryz.prog.globals[6]?).map (·.type) = some 289 := by kernel_rfl
abbrev markD {H : Type} (r : By) : DataW H := .lit (.string r)
abbrev pairD {H : Type} (r : By × Nat) : DataW H := .agg [.lit (.string r.1), .lit (.int .i64 (r.2 : Int))]
theorem marksD : (Rows.laid_bloomery_tree_marks : DataW Unit) = .agg (marksL.map markD) := by kernel_rfl
theorem pairsD : (Rows.laid_bloomery_tree_pairs : DataW Unit) = .agg (pairsL.map pairD) := by kernel_rfl
theorem mark_cells {w : World} {fuel : Nat} {cs : List Value} {p : List MemPlace} (h : DataW.trod (fun _ => ()) Tryz.prog w 0 (fun _ => true) false fuel 190 cs = some (.agg (marksL.map markD), p)) (o : Nat) (v : Value) (hv : (marksL.map str)[o]? = some v) : cs[o]? = some v := by
 rw [List.getElem?_map] at hv
 obtain ⟨r, hr, rfl⟩ := Option.map_eq_some_iff.1 hv
 have hlt : o < marksL.length := (List.getElem?_eq_some_iff.1 hr).1
 obtain ⟨m, d, p', hd, h2⟩ := arr_at Tryz.underlying190 h o hlt
 rw [List.getElem?_map, hr] at hd
 simp only [Option.map_some, Option.some.injEq] at hd
 subst hd
 have := str_one h2
 rw [cells9, Nat.mul_one] at this
 exact this
theorem pair_cells {w : World} {fuel : Nat} {cs : List Value} {p : List MemPlace} (h : DataW.trod (fun _ => ()) Tryz.prog w 0 (fun _ => true) false fuel 289 cs = some (.agg (pairsL.map pairD), p)) (o : Nat) (r : By × Nat) (hr : pairsL[o]? = some r) :
  cs[o * 2]? = some (str r.1) ∧ cs[o * 2 + 1]? = some (.int .i64 (r.2 : Int)) := by
 have hlt : o < pairsL.length := (List.getElem?_eq_some_iff.1 hr).1
 obtain ⟨m, d, p', hd, h2⟩ := arr_at Tryz.underlying289 h o hlt
 rw [List.getElem?_map, hr] at hd
 simp only [Option.map_some, Option.some.injEq] at hd
 rw [cells288] at h2
 subst hd
 obtain ⟨_, d0, _, e0, h0⟩ := str_at Tryz.underlying288 h2 0 _ rfl
 obtain ⟨_, d1, _, e1, h1⟩ := str_at Tryz.underlying288 h2 1 _ rfl
 cases e0; cases e1
 have z0 := str_one h0
 have z1 := int_sub Tryz.underlying3 cells3 h1
 have y0 : cs[o * 2 + 0]? = some (str r.1) := sub_get rfl 0 _ z0
 rw [Nat.add_zero] at y0
 exact ⟨y0, sub_get rfl 1 _ z1⟩
theorem flat_get : ∀ (l : List (By × Nat)) (cs : List Value), (∀ (o : Nat) (r : By × Nat), l[o]? = some r → cs[o * 2]? = some (str r.1) ∧ cs[o * 2 + 1]? = some (.int .i64 (r.2 : Int))) → ∀ (j : Nat) (v : Value), (l.flatMap fun x => [str x.1, .int .i64 (x.2 : Int)])[j]? = some v → cs[j]? = some v
 | [], cs, h, j, v, hv => by simp at hv
 | x :: l, cs, h, 0, v, hv => by
  have := (h 0 x rfl).1
  simp at hv
  subst hv
  exact this
 | x :: l, cs, h, 1, v, hv => by
  have := (h 0 x rfl).2
  simp at hv
  subst hv
  exact this
 | x :: l, cs, h, j + 2, v, hv => by
  have ih := flat_get l (cs.drop 2) (fun o r hr => by
   have := h (o + 1) r (by simpa using hr)
   rw [List.getElem?_drop, List.getElem?_drop]
   rw [show 2 + o * 2 = (o + 1) * 2 by omega, show 2 + (o * 2 + 1) = (o + 1) * 2 + 1 by omega]
   exact this) j v (by simpa using hv)
  rw [List.getElem?_drop, Nat.add_comm] at ih
  exact ih
theorem starE : "*" ++ "errors.errorString" = "*errors.errorString" := by decide
theorem row338 (u : TypeId) (h : Tryz.prog.typeName? 3 u = some "*errors.errorString") : u = 338 :=
 typeName_ptr_named (nm := "errors.errorString") (by rw [starE]; kernel_rfl) (by kernel_rfl) (by decide) u (by rw [starE]; exact h)
theorem tSyn : (Tryz.prog.globals[12]?).map (·.type) = some 34 := by kernel_rfl
theorem tRng : (Tryz.prog.globals[13]?).map (·.type) = some 34 := by kernel_rfl
theorem tPow : (Tryz.prog.globals[7]?).map (·.type) = some 313 := by kernel_rfl
set_option maxRecDepth 100000 in
theorem env_ofP {W : World} (hR : laidMetH Tryz.prog laidP W) (hsh : W.ShapedOpen Tryz.prog) : EnvW 14 W := by
 have h : laidMet Tryz.prog laidP W := by
  rw [MakeChecks.laidMetH_plain _ _ _ (by kernel_rfl)] at hR
  exact hR
 have h1 := h.filter (fun x => x.1 == "bloomery/tree.marks")
 rw [show laidP.filter (fun x => x.1 == "bloomery/tree.marks") = [("bloomery/tree.marks", Rows.laid_bloomery_tree_marks)] by kernel_rfl] at h1
 have h2 := h.filter (fun x => x.1 == "bloomery/tree.pairs")
 rw [show laidP.filter (fun x => x.1 == "bloomery/tree.pairs") = [("bloomery/tree.pairs", Rows.laid_bloomery_tree_pairs)] by kernel_rfl] at h2
 have h3 := h.filter (fun x => x.1 == "internal/strconv.uint64pow10")
 rw [show laidP.filter (fun x => x.1 == "internal/strconv.uint64pow10") = [("internal/strconv.uint64pow10", Lib.tabData .u64 Lib.pow10Tab)] by kernel_rfl] at h3
 have h4 := h.filter (fun x => x.1 == "strconv.ErrSyntax")
 rw [show laidP.filter (fun x => x.1 == "strconv.ErrSyntax") = [("strconv.ErrSyntax", .iface "*errors.errorString" (.ptr (.agg [.lit (.string [105, 110, 118, 97, 108, 105, 100, 32, 115, 121, 110, 116, 97, 120])])))] by kernel_rfl] at h4
 have h5 := h.filter (fun x => x.1 == "strconv.ErrRange")
 rw [show laidP.filter (fun x => x.1 == "strconv.ErrRange") = [("strconv.ErrRange", .iface "*errors.errorString" (.ptr (.agg [.lit (.string [118, 97, 108, 117, 101, 32, 111, 117, 116, 32, 111, 102, 32, 114, 97, 110, 103, 101])])))] by kernel_rfl] at h5
 obtain ⟨_, ⟨g0, t0, cs0, f0, p0, q0, hg0, ht0, hv0, hd0, _, _⟩, _, _⟩ := h1
 obtain rfl := Option.some.inj (gMarks.symm.trans hg0)
 obtain rfl := Option.some.inj (tMarks.symm.trans ht0)
 rw [marksD] at hd0
 have c0 : ∀ i, W.cell? ⟨1, i, none⟩ = cs0.toList[i]? := fun i => by rw [World.var?_cell hg0 hv0 i]; simp
 obtain ⟨_, ⟨g1, t1, cs1, f1, p1, q1, hg1, ht1, hv1, hd1, _, _⟩, _, _⟩ := h2
 obtain rfl := Option.some.inj (gPairs.symm.trans hg1)
 obtain rfl := Option.some.inj (tPairs.symm.trans ht1)
 rw [pairsD] at hd1
 have c1 : ∀ i, W.cell? ⟨6, i, none⟩ = cs1.toList[i]? := fun i => by rw [World.var?_cell hg1 hv1 i]; simp
 obtain ⟨a4, s4, v4, _⟩ := laid_sentinel h4 gSyn tSyn Tryz.underlying34 row338 Tryz.underlying338 Tryz.underlying340 rfl rfl Tryz.underlying9 cells340 cells9
 obtain ⟨a5, s5, v5, _⟩ := laid_sentinel h5 gRng tRng Tryz.underlying34 row338 Tryz.underlying338 Tryz.underlying340 rfl rfl Tryz.underlying9 cells340 cells9
 have he : Env W := ⟨Go.Proofs.cell_of_shapedOpen_int (zero := #[.int .i64 0]) (t := 3) hsh (of_decide_eq_true (by kernel_rfl)) (by kernel_rfl) rfl (by kernel_rfl) (by kernel_rfl) Tryz.underlying3,
  fun j v hv => by rw [Nat.zero_add, c0]; exact mark_cells hd0 j v hv, fun j v hv => by rw [Nat.zero_add, c1]; exact flat_get pairsL _ (pair_cells hd1) j v hv, ⟨_, _, v4⟩, ⟨_, _, v5⟩⟩
 exact ⟨he, Lib.tabIs_of_head gPow tPow Tryz.underlying313 Tryz.underlying293 (by kernel_rfl) (by kernel_rfl) h3, Nat.le_refl _, he.lt⟩
end Go.Proofs.YtnfhpdbbfejioaaGreatDoor
namespace Go.Proofs.YtnfhpdbbfejioaaGreatDoor
set_option linter.unusedVariables false
open Go Go.Deep Go.ChangeShapes Go.WideShapes Go.ChangeAt Go.WideMaps Go.WideElems Go.RowKit Go.ChangeMaps
theorem und22 : Tryz.prog.underlying 22 = some (.slice 2) := by kernel_rfl
theorem cells2 : Tryz.prog.cellsOf 2 = 1 := by kernel_rfl
theorem spot_noneX {w : World} {a : Addr} {v : Value} (h : w.cell? a = some v) : a.spot = none := by
 unfold World.cell? at h
 split at h
 ·cases hs : a.spot with
  | none => rfl
  | some x => simp [hs] at h
 ·cases h
theorem add_atX (g o j : Nat) : (⟨g, o, none⟩ : Addr).add j = ⟨g, o + j, none⟩ := by unfold Addr.add; split <;> simp_all
theorem take_getDX (zs : List Int) (n j : Nat) (hj : j < n) : (zs.take n).getD j 0 = zs.getD j 0 := by
 rw [List.getD_eq_getElem?_getD, List.getD_eq_getElem?_getD, List.getElem?_take_of_lt hj]
set_option maxRecDepth 100000 in
theorem open_nums {H : Type} {enc : TypeId × Value → H} {W : World} {base : Nat} {v : Value} {dt : DataW H} {p : List MemPlace} {r : Reach} {b0 : Nat} {sp : Nat → Bool} (hv : Value.okWide Tryz.prog W r b0 22 v) (h : DataW.Trod enc Tryz.prog W base sp true 22 v dt p) : ∃ G, InW W v G := by
 obtain ⟨q, len, c, rfl⟩ := okWide_slice und22 hv
 obtain ⟨fuel, hf⟩ := h
 rcases open_ints und22 Tryz.underlying2 cells2 hf with ⟨hcs, hx⟩ | ⟨a, len', cap', zs, hcs, _, hl, hm, hz, hx, hcell, hwz⟩
 ·simp [Value.cells] at hcs
  obtain ⟨rfl, rfl, rfl⟩ := hcs
  exact ⟨[], none, 0, rfl, .inl rfl⟩
 ·simp [Value.cells] at hcs
  obtain ⟨rfl, rfl, rfl⟩ := hcs
  have hzl : len ≤ zs.length := by rw [hz]; split <;> omega
  have htl : (zs.take len).length = len := by simp; omega
  refine ⟨zs.take len, some a, c, by rw [htl], ?_⟩
  by_cases hn : zs.take len = []
  ·exact .inl hn
  have hlen : 0 < len := by
   rcases Nat.eq_zero_or_pos len with h0 | h0
   ·subst h0; simp at hn
   ·exact h0
  have h0 := hcell 0 (by omega)
  have ha0 : a.add 0 = a := by unfold Addr.add; rw [if_pos rfl]
  rw [ha0] at h0
  obtain ⟨g, o, sp'⟩ := a
  have hsp : sp' = none := spot_noneX h0
  subst hsp
  refine .inr ⟨g, o, rfl, World.block_lt_of_cell? W _ h0, by rw [htl]; omega, fun j x hx => ?_⟩
  have hj : j < len := by have := (List.getElem?_eq_some_iff.1 hx).1; omega
  have := hcell j (by omega)
  rw [add_atX] at this
  have e : zs.getD j 0 = x := by
   rw [← take_getDX zs len j hj, List.getD_eq_getElem?_getD, hx]
   rfl
  rw [e] at this
  exact this
end Go.Proofs.YtnfhpdbbfejioaaGreatDoor
