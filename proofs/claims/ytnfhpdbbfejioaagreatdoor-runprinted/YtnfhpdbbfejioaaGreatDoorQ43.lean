/- HK HL HM RC -/
import Derived.Test.YtnfhpdbbfejioaaGreatDoorQ42
import Derived.BigQuiet
namespace Go.Proofs.YtnfhpdbbfejioaaGreatDoor
set_option linter.unusedVariables false
set_option linter.unusedSimpArgs false
set_option maxRecDepth 100000
set_option maxHeartbeats 4000000
open Go Go.RowKit
def InW (w : World) (iv : Value) (l : List Int) : Prop := ∃ q c, iv = .slice q l.length c ∧ (l = [] ∨ ∃ g o, q = some ⟨g, o, none⟩ ∧ g < w.heap.size ∧ l.length ≤ c ∧ ∀ j x, l[j]? = some x → w.cell? ⟨g, o + j, none⟩ = some (.int .i64 x))
theorem InW.below {w w' : World} {iv : Value} {l : List Int} (h : InW w iv l) (hb : Below w.heap.size w w') : InW w' iv l := by
 obtain ⟨q, c, e, h⟩ := h
 refine ⟨q, c, e, ?_⟩
 rcases h with h | ⟨g, o, e1, h1, h2, h3⟩
 ·exact .inl h
 ·exact .inr ⟨g, o, e1, Nat.lt_of_lt_of_le h1 hb.size, h2, fun j x hx => by rw [hb.cell (p := ⟨g, o + j, none⟩) h1]; exact h3 j x hx⟩
def RnP (r : Int × Int × List Int) (w : World) (e : Ending) (w' : World) : Prop := ∃ p c, e = .returned (.agg #[.int .i64 r.1, .int .i64 r.2.1, .slice p r.2.2.length c]) ∧ w'.ownsRow w.heap.size 2 1 (.slice p r.2.2.length c) r.2.2.length (ints r.2.2) ∧ Below w.heap.size w w'
theorem rn_call {L : List Fun} {F : Fun} (hf : fsL L mainB = some F) (hp : F.ps = []) (g : Nat) (inp : List Int) (a : Nat) : rnV (g + 2) L inp a = (match qT (fsL L) (g + 1) 0 [] F.body ⟨a, inp, [], []⟩ with | .error (w, out) => (w, 0, out) | .ok (z, s) => (1, z, s.out)) := by
 unfold rnV
 have e := ev_5 (fsL L) (g + 1) 0 [] 0 0 mainB [] .nil .nil ce hf
 have e2 : evE (fun nm => L.find? (fun F => F.nm == nm)) (g + 2) 0 [] (nd 5 0 0 [109, 97, 105, 110] [] .nil .nil ce) = gb (evA (fsL L) (g + 1) 0 [] ce) fun vs => gb (qT (fsL L) (g + 1) 0 ((F.ps.map (·.1)).zip vs).reverse F.body) fun z => gp (z, none) := e
 rw [e2, ea_0, hp]
 show (match gb (qT (fsL L) (g + 1) 0 [] F.body) (fun z => gp ((z, none) : Vl)) ⟨a, inp, [], []⟩ with | .error (w, out) => (w, 0, out) | .ok (v, s) => (1, v.1, s.out)) = _
 cases hc : qT (fsL L) (g + 1) 0 [] F.body ⟨a, inp, [], []⟩ with
 | error e => rw [qR hc]
 | ok q =>
  obtain ⟨z, s⟩ := q
  rw [zR hc]
  rfl
theorem res12 (tmps : Array Value) (w : World) (g : Nat) (a b c : Value) (hp : tmps.getD 6 undef = .pointer (some ⟨g, 0, none⟩)) (hg : w.heap[g]? = some (.cells #[a, b, c] 29)) :
  (results Tryz.f12 tmps).run Tryz.prog w = .ok (.agg #[a, b, c]) w :=
 results_cell_row (p := 6) (ty := 29) Tryz.results12 _ _ g 29 _ (0, 0) _ hp hg Tryz.underlying29 rfl (by kernel_rfl)
structure R5 (w : World) (iv : Value) (a : Nat) (L : List Fun) (cs : List Value) (M : Nat) (wx : World) : Prop where
 bel : Below w.heap.size w wx
 z : w.heap.size + 3 ≤ wx.heap.size
 k0 : wx.heap[w.heap.size]? = some (.cells #[.int .i64 0, .int .i64 0, .slice none 0 0] 29)
 k1 : wx.heap[w.heap.size + 1]? = some (.cells #[.map (some M), iv, .slice none 0 0, .int .i64 (a : Int), .int .i64 0] 60)
 k2 : wx.heap[w.heap.size + 1 + 1]? = some (.cells #[ptr (w.heap.size + 1)] 57)
 fs : ∃ nf f, MapV wx M nf f ∧ ∀ (j : Nat) (F : Fun), L[j]? = some F → ∃ vp cb, cs[j * 4 + 2]? = some vp ∧ f F.nm = some (.agg #[vp, .func (.func 87) #[] cb]) ∧ BlV wx (w.heap.size + 1) F.body (.func (.func 87) #[] cb)
theorem ks_set60 {w : World} {b i : Nat} {ds : Array Value} {v : Value} (h : w.heap[b]? = some (.cells ds 60)) : Ks w (w.setCell ⟨b, i, none⟩ v) := fun b' cs t ht _ hk => by
 rw [heap_setCell_other _ _ _ _ (fun e => by
  have e' : b' = b := e
  subst e'
  rw [h] at hk
  injection hk with hk
  injection hk with _ h2
  exact ht h2.symm)]
 exact hk
theorem r5_of {w W3 W w2 : World} {iv : Value} {a : Nat} {L : List Fun} {cs : List Value} (hb3 : Below w.heap.size w W3) (hz3 : W3.heap.size = w.heap.size + 3) (k0 : W3.heap[w.heap.size]? = some (.cells #[.int .i64 0, .int .i64 0, .slice none 0 0] 29)) (k1 : W3.heap[w.heap.size + 1]? = some (.cells #[.map none, iv, .slice none 0 0, .int .i64 (a : Int), .int .i64 0] 60)) (k2 : W3.heap[w.heap.size + 1 + 1]? = some (.cells #[ptr (w.heap.size + 1)] 57))
  (hb : Below W3.heap.size W3 W) (h : FsI W (w.heap.size + 1) L cs w2 L.length) : R5 w iv a L cs W.heap.size (w2.setCell ⟨w.heap.size + 1, 0, none⟩ (.map (some W.heap.size))) := by
 obtain ⟨f, h1, h2, h3, h4⟩ := h.at'
 have hz := hb.size
 have hB : Below W3.heap.size W3 w2 := hb.trans (h1.mono hz)
 have q : ∀ b, b < W3.heap.size → b ≠ w.heap.size + 1 → (w2.setCell ⟨w.heap.size + 1, 0, none⟩ (.map (some W.heap.size))).heap[b]? = W3.heap[b]? := fun b hb1 hb2 => by rw [heap_setCell_other _ _ _ _ hb2, hB.block b hb1]
 have j1 : w2.heap[w.heap.size + 1]? = some (.cells #[.map none, iv, .slice none 0 0, .int .i64 (a : Int), .int .i64 0] 60) := zx hB k1
 have hks := ks_set60 (i := 0) (v := .map (some W.heap.size)) j1
 refine ⟨(hb3.trans (hB.mono (by omega))).setCell (p := ⟨w.heap.size + 1, 0, none⟩) (by show w.heap.size ≤ w.heap.size + 1; omega) _, ?_, by rw [q _ (by omega) (by omega)]; exact k0, ?_, by rw [q _ (by omega) (by omega)]; exact k2, L.length, f, h3.kept ?_, fun j F hF => ?_⟩
 ·have e : (w2.setCell ⟨w.heap.size + 1, 0, none⟩ (.map (some W.heap.size))).heap.size = w2.heap.size := by simp [World.setCell]
  have := hB.size
  omega
 ·exact heap_setCell_same _ _ _ _ _ _ j1
 ·exact heap_setCell_other _ _ _ _ (by show W.heap.size ≠ w.heap.size + 1; omega)
 ·obtain ⟨vp, cb, a1, a2, a3⟩ := h4 j F (List.getElem?_eq_some_iff.1 hF).1 hF
  exact ⟨vp, cb, a1, a2, a3.kept hks⟩
abbrev cxOf (w wx : World) (L : List Fun) (M : Nat) : Cx := ⟨wx, w.heap.size + 1, .map (some M), fsL L⟩
theorem fnr_of {w wx : World} {iv : Value} {a : Nat} {L : List Fun} {cs : List Value} {M : Nat} (h : R5 w iv a L cs M wx) (hcs : ∀ (i : Nat) (f : Fun), L[i]? = some f → ∃ (vp vb : Value) (nb : Nat) (bcs : List Value), RowS (Lo w.heap.size) w 144 2 vp f.ps.length (psC f.ps) ∧ RowS (Lo w.heap.size) w 147 7 vb nb bcs ∧ StAt (Lo w.heap.size) w f.body bcs ∧ cs[i * 4]? = some (str f.nm) ∧ cs[i * 4 + 1]? = some (.int .i64 f.at') ∧ cs[i * 4 + 2]? = some vp ∧ cs[i * 4 + 3]? = some vb)
  (hg : ∀ F ∈ L, GoodF F ∧ RF F) (hok : ∀ F ∈ L, cokB (fsL L) F.body) : PbO (cxOf w wx L M) ∧ ∀ nm F, (cxOf w wx L M).fs nm = some F → FnR (cxOf w wx L M) nm F := by
 refine ⟨⟨_, h.k1⟩, fun nm F hf => ?_⟩
 have hF : F ∈ L := List.mem_of_find?_eq_some hf
 have hnm : F.nm = nm := by simpa using List.find?_some hf
 obtain ⟨j, hj⟩ := List.getElem?_of_mem hF
 obtain ⟨nf, f, hm, hfs⟩ := h.fs
 obtain ⟨vp, cb, a1, a2, a3⟩ := hfs j F hj
 obtain ⟨vp', vb, nb, bcs, r1, r2, r3, c0, c1, c2, c3⟩ := hcs j F hj
 rw [a1] at c2
 injection c2 with c2
 subst c2
 have hrow : RowS (Lo w.heap.size) wx 144 2 vp F.ps.length (psC F.ps) := r1.kept (zg h.bel) (by decide)
 obtain ⟨q9, cp, hq⟩ := slice_form hrow
 refine ⟨⟨q9, cp, 87, cb, ⟨M, nf, f, rfl, hm, by rw [← hnm, a2, hq]⟩, fun i p hp => ?_, a3⟩, fun p hp => nam_few ((hg F hF).2.2.2.1 p hp).1, (hg F hF).1, hok F hF⟩
 obtain ⟨⟨e1, hh⟩, -⟩ := hrow
 rcases hh with ⟨_, e2⟩ | ⟨g, cap, cur, e3, _, hgg, hc, _, _, ht⟩
 ·have := (List.getElem?_eq_some_iff.1 hp).1
  omega
 ·rw [hq] at e3
  injection e3 with e3 _ _
  refine ⟨g, cur, e3, hgg, ?_⟩
  have := (psC_get F.ps i p hp).1
  rw [← ht, List.getElem?_take] at this
  split at this
  ·simpa using this
  ·cases this
theorem st_of {w wx w' : World} {iv : Value} {a : Nat} {L : List Fun} {cs : List Value} {M : Nat} {inp : List Int} (h : R5 w iv a L cs M wx) (hin : InW w iv inp) (ha : a ≤ 1000000) (hb : Below wx.heap.size wx w') : St wx (w.heap.size + 1) (.map (some M)) w' ⟨[], iv, .slice none 0 0, ⟨a, inp, [], []⟩⟩ 0 := by
 have hz := h.z
 refine ⟨by omega, hb.size, fun b hb1 _ => hb.block b hb1, ?_, ?_, World.ownsRow_nil _ _ _ _, fun i hi => (by cases hi), rfl, fun i b n hi => (by simp at hi), fun b hb => (by simp at hb), (by simp), ha, (by simp), by omega⟩
 ·exact zx hb h.k1
 ·obtain ⟨q, c, e, hq⟩ := hin
  refine ⟨q, c, e, ?_⟩
  rcases hq with hq | ⟨g, o, e1, h1, h2, h3⟩
  ·exact .inl hq
  ·exact .inr ⟨g, o, e1, by omega, by omega, h2, fun j x hx => by rw [h.bel.cell (p := ⟨g, o + j, none⟩) h1]; exact h3 j x hx⟩
theorem gone {w wx w5 : World} {iv : Value} {a : Nat} {L : List Fun} {cs : List Value} {M : Nat} {r' : Rs} {d : Nat} (h : R5 w iv a L cs M wx) (hs : St wx (w.heap.size + 1) (.map (some M)) w5 r' d) {w4 : World} {r : Rs} {E : Nat → Prop} (hb : Below wx.heap.size wx w4) (hf : Fz (w.heap.size + 1) E w4 r w5 r') :
  Below w.heap.size w w5 ∧ w5.heap[w.heap.size]? = some (.cells #[.int .i64 0, .int .i64 0, .slice none 0 0] 29) ∧ w5.heap[w.heap.size + 1 + 1]? = some (.cells #[ptr (w.heap.size + 1)] 57) ∧ w5.cell? ⟨w.heap.size + 1, 2, none⟩ = some r'.ov ∧ w5.ownsRow w.heap.size 2 1 r'.ov r'.s.out.length (ints r'.s.out) ∧ ∀ k, r'.ov.ownBlock = some k → w.heap.size + 3 ≤ k := by
 have hz := h.z
 refine ⟨⟨hf.os.trans (hb.os.trans h.bel.os), hf.tape.trans (hb.tape.trans h.bel.tape), hf.output.trans (hb.output.trans h.bel.output), Nat.le_trans h.bel.size hs.le, fun b hb => by rw [hs.kp b (by omega) (by omega)]; exact h.bel.block b hb⟩, by rw [hs.kp _ (by omega) (by omega)]; exact h.k0, by rw [hs.kp _ (by omega) (by omega)]; exact h.k2, z_ (i := 2) hs.pb rfl, own_mono hs.out (by omega), fun k hk => Nat.le_trans hz (hs.out.lt k hk).1⟩
theorem set3 {w : World} {b : Nat} {x y z x' y' z' : Value} {t : TypeId} (h : w.heap[b]? = some (.cells #[x, y, z] t)) : (((w.setCell ⟨b, 0, none⟩ x').setCell ⟨b, 1, none⟩ y').setCell ⟨b, 2, none⟩ z').heap[b]? = some (.cells #[x', y', z'] t) :=
 heap_setCell_same _ _ _ _ _ _ (heap_setCell_same _ _ _ _ _ _ (heap_setCell_same _ _ _ _ _ _ h))
theorem told_end {w w5 : World} {out : List Int} {ov : Value} {way code : Int} (hb : Below w.heap.size w w5) (h0 : w5.heap[w.heap.size]? = some (.cells #[.int .i64 0, .int .i64 0, .slice none 0 0] 29)) (ho : w5.ownsRow w.heap.size 2 1 ov out.length (ints out)) (hk : ∀ k, ov.ownBlock = some k → w.heap.size + 3 ≤ k) :
  RnP (way, code, out) w (.returned (.agg #[.int .i64 way, .int .i64 code, ov])) (((w5.setCell ⟨w.heap.size, 0, none⟩ (.int .i64 way)).setCell ⟨w.heap.size, 1, none⟩ (.int .i64 code)).setCell ⟨w.heap.size, 2, none⟩ ov) := by
 obtain ⟨p, c, rfl⟩ := ze ho
 refine ⟨p, c, rfl, own_at ho (fun i hi => ?_), ((hb.setCell (p := ⟨w.heap.size, 0, none⟩) (Nat.le_refl _) _).setCell (p := ⟨w.heap.size, 1, none⟩) (Nat.le_refl _) _).setCell (p := ⟨w.heap.size, 2, none⟩) (Nat.le_refl _) _⟩
 have := hk i hi
 rw [heap_setCell_other _ _ _ _ (by show i ≠ w.heap.size; omega), heap_setCell_other _ _ _ _ (by show i ≠ w.heap.size; omega), heap_setCell_other _ _ _ _ (by show i ≠ w.heap.size; omega)]
def Pan12 (B6 : Nat) (ds : List Deferred) (W : List PanicEntry → World → Prop) (Q : Exit → Act → World → Prop) : Exit → Act → World → Prop
 | .panic c, a, w => a.defers = ds ∧ a.tmps.getD 6 undef = ptr B6 ∧ W c w
 | e, a, w => Q e a w
theorem pan_imp {B6 : Nat} {ds : List Deferred} {W : List PanicEntry → World → Prop} {Q : Exit → Act → World → Prop} (h : ∀ c a w, a.defers = ds → a.tmps.getD 6 undef = ptr B6 → W c w → Q (.panic c) a w) : ∀ e a w, Pan12 B6 ds W Q e a w → Q e a w := fun e a w hp => by
 cases e <;> first | exact hp | exact h _ _ _ hp.1 hp.2.1 hp.2.2
theorem pan_put {B6 : Nat} {ds : List Deferred} {W : List PanicEntry → World → Prop} {Q : Exit → Act → World → Prop} {c : List PanicEntry} {a : Act} {w : World} {d : Nat} {v : Value} (hd : d ≠ 6) (h : Pan12 B6 ds W Q (.panic c) (a.put (some d) v) w) : Pan12 B6 ds W Q (.panic c) a w := by
 obtain ⟨h1, h2, h3⟩ := h
 refine ⟨h1, ?_, h3⟩
 have e : (a.put (some d) v).tmps.getD 6 undef = a.tmps.getD 6 undef := by
  simp only [Act.put, Array.getD_eq_getD_getElem?, Array.getElem?_setIfInBounds]
  rw [if_neg hd]
 rw [← e]
 exact h2
theorem settle_all {x : PanicEntry} {older : List PanicEntry} (hx : x.recovered = true) (h : ∀ z ∈ older, z.goexit = false) : settle (.panicking (x :: older)) = .returning := by
 have e : older.dropWhile (!·.goexit) = [] := by
  induction older with
  | nil => rfl
  | cons y ys ih => rw [List.dropWhile_cons, h y (by simp)]; simpa using ih fun z hz => h z (by simp [hz])
 obtain ⟨v, r, g⟩ := x
 simp only at hx
 subst hx
 simp only [settle, e]
theorem goes_any (w : World) (v iv : Value) (L : List Fun) (hl : LiS (Lo w.heap.size) w v L) (h12 : L.length ≤ 12) (hg : ∀ F ∈ L, GoodF F ∧ RF F) (hc : chk L = .ok true) (inp : List Int) (hin : InW w iv inp) (a : Nat) (ha : a ≤ 1000000) (g : Nat) (hne : (rnV (g + 2) L inp a).1 ≠ 99) :
  Calls Tryz.prog 12 #[v, iv, .int .i64 (a : Int)] w (RnP (rnV (g + 2) L inp a) w) := by
 obtain ⟨cs, hr, hcs⟩ := hl.row
 obtain ⟨q, c, rfl⟩ := ze hr.1
 obtain ⟨hnd, hcok, Fm, hfm, hpm⟩ := chk_cok (fun F hF => (hg F hF).2) hc
 obtain ⟨qi, ci, rfl, hin'⟩ := id hin
 have hmf := mkf
 obtain ⟨W3, hW3⟩ : ∃ W3, W3 = ((w.alloc (.cells #[.int .i64 0, .int .i64 0, .slice none 0 0] 29)).alloc (.cells #[.map none, .slice qi inp.length ci, .slice none 0 0, .int .i64 (a : Int), .int .i64 0] 60)).alloc (.cells #[ptr (w.heap.size + 1)] 57) := ⟨_, rfl⟩
 have hb3 : Below w.heap.size w W3 := by rw [hW3]; exact (jo _ _ _).alloc (by simp; omega) _
 have hz3 : W3.heap.size = w.heap.size + 3 := by rw [hW3]; simp
 have k0 : W3.heap[w.heap.size]? = some (.cells #[.int .i64 0, .int .i64 0, .slice none 0 0] 29) := by rw [hW3]; exact zc (al1 _ _ _) _
 have k1 : W3.heap[w.heap.size + 1]? = some (.cells #[.map none, .slice qi inp.length ci, .slice none 0 0, .int .i64 (a : Int), .int .i64 0] 60) := by rw [hW3]; exact zc (al2 _ _ _) _
 have k2 : W3.heap[w.heap.size + 1 + 1]? = some (.cells #[ptr (w.heap.size + 1)] 57) := by
  rw [hW3]
  have := heap_alloc_last ((w.alloc (.cells #[.int .i64 0, .int .i64 0, .slice none 0 0] 29)).alloc (.cells #[.map none, .slice qi inp.length ci, .slice none 0 0, .int .i64 (a : Int), .int .i64 0] 60)) (.cells #[ptr (w.heap.size + 1)] 57)
  simpa using this
 have hl3 : LiS (Lo W3.heap.size) W3 (.slice q L.length c) L := (hl.kept (zg hb3)).mono (fun b hb _ => by have : b < w.heap.size := hb; show b < W3.heap.size; omega)
 have HCk : Hid (Calls Tryz.prog 16 #[.slice q L.length c] W3 fun e w' => e = .returned .nilIface ∧ Below W3.heap.size W3 w') := (check_any W3 _ L hl3 h12 hg).mono fun e w' hp => by
  obtain ⟨⟨_, rfl⟩ | ⟨h, _⟩ | ⟨k, a, b, h, _⟩, hb⟩ := hp
  ·exact ⟨rfl, hb⟩
  ·rw [hc] at h; cases h
  ·rw [hc] at h; cases h
 have HFs : Hid (∀ W, Below W3.heap.size W3 W → Calls Tryz.prog 29 #[ptr (w.heap.size + 1), .slice q L.length c] W (FnsP (w.heap.size + 1) L cs W)) := fun W hb => by
  have hbW : Below w.heap.size w W := hb3.trans (hb.mono hb3.size)
  have hlo : ∀ b, Lo w.heap.size b → b < W.heap.size → Lo W.heap.size b := fun b h1 h2 => h2
  refine functions_any W _ (w.heap.size + 1) L cs ((hr.kept (zg hbW) (by decide)).mono hlo) (fun i f hf => ?_) h12 hg hnd
  obtain ⟨vp, vb, nb, bcs, a1, a2, a3, a4⟩ := hcs i f hf
  exact ⟨vp, vb, nb, bcs, (a1.kept (zg hbW) (by decide)).mono hlo, (a2.kept (zg hbW) (by decide)).mono hlo, StAt.mono hlo _ _ (StAt.kept (zg hbW) _ _ a3), a4⟩
 obtain ⟨n, hn⟩ : ∃ n, n = L.length := ⟨_, rfl⟩
 obtain ⟨ni, hni⟩ : ∃ ni, ni = inp.length := ⟨_, rfl⟩
 have HNn : Hid (n = L.length ∧ ni = inp.length) := ⟨hn, hni⟩
 rw [← hn] at HCk HFs ⊢
 rw [← hni] at k1 hW3 ⊢
 generalize hG : RnP (rnV (g + 2) L inp a) w = G
 have HG : Hid (RnP (rnV (g + 2) L inp a) w = G) := hG
 have HR5 : Hid (∀ W w2, Below W3.heap.size W3 W → FsI W (w.heap.size + 1) L cs w2 L.length → R5 w (.slice qi ni ci) a L cs W.heap.size (w2.setCell ⟨w.heap.size + 1, 0, none⟩ (.map (some W.heap.size)))) := fun W w2 hb h => r5_of hb3 hz3 k0 k1 k2 hb h
 have HFn : Hid (∀ wx M, R5 w (.slice qi ni ci) a L cs M wx → PbO (cxOf w wx L M) ∧ ∀ nm F, (cxOf w wx L M).fs nm = some F → FnR (cxOf w wx L M) nm F) := fun wx M h => fnr_of h hcs hg hcok
 have HIn : Hid (InW w (.slice qi ni ci) inp) := by rw [hni]; exact hin
 have HNe : Hid ((rnV (g + 2) L inp a).1 ≠ 99) := hne
 have HRn : Hid (rnV (g + 2) L inp a = (match qT (fsL L) (g + 1) 0 [] Fm.body ⟨a, inp, [], []⟩ with | .error (w, out) => (w, 0, out) | .ok (z, s) => (1, z, s.out))) := rn_call hfm hpm g inp a
 have HFm : Hid (fsL L mainB = some Fm ∧ Fm.ps = [] ∧ Fm ∈ L ∧ GoodF Fm) := ⟨hfm, hpm, List.mem_of_find?_eq_some hfm, (hg Fm (List.mem_of_find?_eq_some hfm)).1⟩
 have p2 : W3.cell? ⟨w.heap.size + 1 + 1, 0, none⟩ = some (ptr (w.heap.size + 1)) := z_ (i := 0) k2 rfl
 have p1 : W3.cell? ⟨w.heap.size + 1, 0, none⟩ = some (.map none) := z_ (i := 0) k1 rfl
 have f1 : W3.frozen? ⟨w.heap.size + 1, 0, none⟩ = false := zb k1 0
 have HZ3 : Hid (W3.heap.size = w.heap.size + 3) := hz3
 have HP3 : Hid (W3.cell? ⟨w.heap.size + 1 + 1, 0, none⟩ = some (ptr (w.heap.size + 1)) ∧ W3.cell? ⟨w.heap.size + 1, 0, none⟩ = some (.map none) ∧ W3.frozen? ⟨w.heap.size + 1, 0, none⟩ = false) := ⟨p2, p1, f1⟩
 clear hn hni hl hr hcs hg hc hin hin' hne hnd hcok hfm hpm hb3 hz3 k0 k1 k2 hl3 hG h12 p2 p1 f1
 go_enter_defers Tryz.func12, Tryz.ntmps12
 go_wp2_with (go_at_call 16; fail)
 rw [← hW3]
 clear hW3
 refine HCk.out.mono ?_
 rintro e w1 ⟨rfl, hb1⟩
 have HB1 : Hid (Below W3.heap.size W3 w1) := hb1
 have q2 : w1.cell? ⟨w.heap.size + 1 + 1, 0, none⟩ = some (ptr (w.heap.size + 1)) := by rw [hb1.cell (p := ⟨w.heap.size + 1 + 1, 0, none⟩) (by have := HZ3.out; show w.heap.size + 1 + 1 < _; omega)]; exact HP3.out.1
 have hz1 : w.heap.size + 1 + 1 < w1.heap.size := by have := hb1.size; have := HZ3.out; omega
 clear hb1
 go_upto_region 5 with fail
 go_cut [] from 9 to 37 (fun wx => ∃ M, Hid (R5 w (.slice qi ni ci) a L cs M wx))
 case first =>
  go_region_held3 (fun w' => w'.cell? ⟨w.heap.size + 1 + 1, 0, none⟩ = some (ptr (w.heap.size + 1)))
   (first | (go_keep; done) | ((try dsimp only); first | (go_keep; done) | (go_simp; done) | (simp [*]; done) | assumption | (rw [World.cell?_setCell_other (by intro e; injection e; omega)]; assumption)))
   (first | (go_at_call 29; refine (HFs.out _ HB1.out.drew).mono ?_; rintro e w2 ⟨rfl, hfs⟩; have hb2 : Below w1.drew.heap.size w1.drew w2 := (by obtain ⟨f, h1, _⟩ := hfs.at'; exact h1); have t2 : w2.cell? ⟨w.heap.size + 1 + 1, 0, none⟩ = some (ptr (w.heap.size + 1)) := (hb2.cell (p := ⟨w.heap.size + 1 + 1, 0, none⟩) (by show w.heap.size + 1 + 1 < w1.heap.size; omega)).trans (by go_simp); have t1 : w2.cell? ⟨w.heap.size + 1, 0, none⟩ = some (.map none) := (hb2.cell (p := ⟨w.heap.size + 1, 0, none⟩) (by show w.heap.size + 1 < w1.heap.size; omega)).trans ((HB1.out.cell (p := ⟨w.heap.size + 1, 0, none⟩) (by have := HZ3.out; show w.heap.size + 1 < _; omega)).trans HP3.out.2.1); have t3 : w2.frozen? ⟨w.heap.size + 1, 0, none⟩ = false := (hb2.frozen (p := ⟨w.heap.size + 1, 0, none⟩) (by show w.heap.size + 1 < w1.heap.size; omega)).trans ((HB1.out.frozen (p := ⟨w.heap.size + 1, 0, none⟩) (by have := HZ3.out; show w.heap.size + 1 < _; omega)).trans HP3.out.2.2); have HI5 : Hid (R5 w (.slice qi ni ci) a L cs w1.drew.heap.size (w2.setCell ⟨w.heap.size + 1, 0, none⟩ (.map (some w1.drew.heap.size)))) := HR5.out _ _ HB1.out.drew hfs; clear hb2 hfs))
  all_goals (go_wp2_with fail; go_meet; exact ⟨_, HI5.out⟩)
 case rest =>
  obtain ⟨M, H5⟩ := hcut
  obtain ⟨w4, hw4⟩ : ∃ w4, w4 = wc := ⟨_, rfl⟩
  rw [← hw4] at H5 ⊢
  clear hw4 q2 hz1
  have d2 : w4.cell? ⟨w.heap.size + 1 + 1, 0, none⟩ = some (ptr (w.heap.size + 1)) := z_ (i := 0) H5.out.k2 rfl
  have d1 : w4.cell? ⟨w.heap.size + 1, 0, none⟩ = some (.map (some M)) := z_ (i := 0) H5.out.k1 rfl
  obtain ⟨hP, hFR⟩ := HFn.out w4 M H5.out
  have R := hFR mainB Fm HFm.out.1
  obtain ⟨q9, cp, kb, cb, ⟨Mf, nf, f, ef, hm, hfm⟩, -, hbl⟩ := R.go
  have ef' : M = Mf := by
   have ef2 : Value.map (some M) = .map (some Mf) := ef
   injection ef2 with ef2
   injection ef2
  subst ef'
  obtain ⟨np, hnp⟩ : ∃ np, np = Fm.ps.length := ⟨_, rfl⟩
  rw [← hnp] at hfm
  have ek : kb = 87 := by
   obtain ⟨_, _, _, _, e, _⟩ := hbl
   injection e with e _ _
   injection e
  subst ek
  obtain ⟨mb, hmb⟩ : ∃ mb : ByteArray, mb = ⟨#[109, 97, 105, 110]⟩ := ⟨_, rfl⟩
  have hlk : ∀ W : World, W.heap[M]? = w4.heap[M]? → (Instr.lookup 58 (.map (some M)) (.string ⟨#[109, 97, 105, 110]⟩) false).run Tryz.prog W = .ok (.agg #[.slice q9 np cp, .func (.func 87) #[] cb]) W := fun W hW => by
   have := (hm.kept hW).look und58 (zero69 W) ⟨#[109, 97, 105, 110]⟩ (by decide)
   rw [this]
   have e : (⟨#[109, 97, 105, 110]⟩ : ByteArray).data.toList = mainB := rfl
   rw [e, hfm]
   rfl
  have hMl : M < w4.heap.size := hm.lt
  have l1 := hlk w4.drew rfl
  have l2 := hlk (w4.alloc (.map #[] 0)).drew ((qm w4 (.map #[] 0)).block M hMl)
  have hmm : ∀ W : World, (Instr.makeMap 71 none).run Tryz.prog W = .ok (.map (some W.heap.size)) (W.alloc (.map #[] 0)) := fun W => by simp [Instr.makeMap, go_sem]
  have hb5 : Below w4.heap.size w4 (w4.alloc (.map #[] 0)).drew := (qm w4 (.map #[] 0)).drew
  have hs5 := st_of H5.out HIn.out ha hb5
  have ho5 : OwS (w4.alloc (.map #[] 0)).drew w4.heap.size 0 [] [] := ⟨fun _ => none, (MapV.made w4).kept rfl, fun nm => ⟨.slice none 0 0, rfl, rfl⟩⟩
  have hB : GoB (cxOf w w4 L M) (g + 1) Fm.body (.func (.func 87) #[] cb) := body_go hP hFR (g + 1) Fm.body _ HFm.out.2.2.2.1 HFm.out.2.2.2.2.1 hbl R.ok
  have hne9 : ∀ out, qT (fsL L) (g + 1) 0 [] Fm.body ⟨a, inp, [], []⟩ ≠ .error (99, out) := fun out e => by
   have := HRn.out
   rw [e] at this
   exact HNe.out (by rw [this])
  have HC30 : Hid (Calls Tryz.prog 30 #[ptr (w.heap.size + 1), .agg #[.slice q9 np cp, .func (.func 87) #[] cb], .map (some w4.heap.size)] (w4.alloc (.map #[] 0)).drew (CP (cxOf w w4 L M) (w4.alloc (.map #[] 0)).drew ⟨[], .slice qi ni ci, .slice none 0 0, ⟨a, inp, [], []⟩⟩ 0 w4.heap.size (qT (fsL L) (g + 1) 0 [] Fm.body ⟨a, inp, [], []⟩))) := rcall_any hP hB ent87 q9 np cp _ _ 0 w4.heap.size 0 1000000 [] hs5 ho5 (Nat.le_refl _) (by show 0 + a ≤ 1000000; omega) (by omega) hne9
  have HGo : Hid (∀ w5 r', St w4 (w.heap.size + 1) (.map (some M)) w5 r' 0 → Fz (w.heap.size + 1) (fun b => b = w4.heap.size) (w4.alloc (.map #[] 0)).drew ⟨[], .slice qi ni ci, .slice none 0 0, ⟨a, inp, [], []⟩⟩ w5 r' → Below w.heap.size w w5 ∧ w5.heap[w.heap.size]? = some (.cells #[.int .i64 0, .int .i64 0, .slice none 0 0] 29) ∧ w5.heap[w.heap.size + 1 + 1]? = some (.cells #[ptr (w.heap.size + 1)] 57) ∧ w5.cell? ⟨w.heap.size + 1, 2, none⟩ = some r'.ov ∧ w5.ownsRow w.heap.size 2 1 r'.ov r'.s.out.length (ints r'.s.out) ∧ ∀ k, r'.ov.ownBlock = some k → w.heap.size + 3 ≤ k) := fun w5 r' h1 h2 => gone H5.out h1 hb5 h2
  have hz4 : w.heap.size + 3 ≤ w4.heap.size := H5.out.z
  have HLk : Hid (∀ W : World, W.heap[M]? = w4.heap[M]? → (Instr.lookup 58 (.map (some M)) (.string ⟨#[109, 97, 105, 110]⟩) false).run Tryz.prog W = .ok (.agg #[.slice q9 np cp, .func (.func 87) #[] cb]) W) := hlk
  have hMP : M ≠ w.heap.size + 1 := fun e => by
   obtain ⟨es, clock, ho⟩ := hm.obj
   rw [e, H5.out.k1] at ho
   cases ho
  have HM : Hid (M < w4.heap.size ∧ M ≠ w.heap.size + 1) := ⟨hMl, hMP⟩
  clear hP hFR R ef hm hfm hbl hnp hlk hb5 hs5 ho5 hB hne9 hmb hMl hMP
  go_upto_region 6 with fail
  go_cut [8] from 9 to 37 (fun v8 wx => ∃ z p l c, v8 = .int .i64 z ∧ wx.cell? ⟨w.heap.size + 1 + 1, 0, none⟩ = some (ptr (w.heap.size + 1)) ∧ wx.cell? ⟨w.heap.size + 1, 2, none⟩ = some (.slice p l c) ∧ Hid (wx.heap[w.heap.size]? = some (.cells #[.int .i64 0, .int .i64 0, .slice none 0 0] 29) ∧ G (.returned (.agg #[.int .i64 1, .int .i64 z, .slice p l c])) (((wx.setCell ⟨w.heap.size, 0, none⟩ (.int .i64 1)).setCell ⟨w.heap.size, 1, none⟩ (.int .i64 z)).setCell ⟨w.heap.size, 2, none⟩ (.slice p l c))))
  case first =>
   refine Code.wp_mono (pan_imp (B6 := w.heap.size) (ds := [{ target := Target.fn (Fn.func 28) #[ptr (w.heap.size + 1 + 1), ptr w.heap.size], args := #[] }]) (W := fun c w5 => Hid (∃ k9 older p l c9, c = { v := .iface 61 (.int .i64 k9), recovered := false } :: older ∧ (∀ z ∈ older, z.goexit = false) ∧ w5.cell? ⟨w.heap.size + 1 + 1, 0, none⟩ = some (ptr (w.heap.size + 1)) ∧ w5.cell? ⟨w.heap.size + 1, 2, none⟩ = some (.slice p l c9) ∧ w5.heap[w.heap.size]? = some (.cells #[.int .i64 0, .int .i64 0, .slice none 0 0] 29) ∧ G (.returned (.agg #[.int .i64 k9, .int .i64 0, .slice p l c9])) (((w5.setCell ⟨w.heap.size, 0, none⟩ (.int .i64 k9)).setCell ⟨w.heap.size, 1, none⟩ (.int .i64 0)).setCell ⟨w.heap.size, 2, none⟩ (.slice p l c9)))) ?pan) ?_
   case pan =>
    intro c a' w5 hd h6 hW
    obtain ⟨k9, older, p, l, c9, rfl, zJ, g3, g4, g2, hg⟩ := hW.out
    show Leaves Tryz.prog Tryz.f12 a'.tmps G a'.defers _ w5
    rw [hd]
    refine leaves_cons (f := 28) (args := #[ptr (w.heap.size + 1 + 1), ptr w.heap.size]) (by simp) (by simp [go_sem]) ?_
    refine (run_end (w.heap.size + 1 + 1) w.heap.size (w.heap.size + 1) k9 older p l c9 w5 g3 g4 g2).mono ?_
    rintro e u' w6 ⟨rfl, rfl, rfl⟩
    show Leaves Tryz.prog Tryz.f12 a'.tmps G [] (settle _) _
    rw [settle_all rfl zJ]
    exact ⟨_, res12 _ _ w.heap.size _ _ _ h6 (set3 g2), hg⟩
   refine wp_region_held_drew (S := fun w' => w'.cell? ⟨w.heap.size + 1 + 1, 0, none⟩ = some (ptr (w.heap.size + 1)) ∧ w'.cell? ⟨w.heap.size + 1, 0, none⟩ = some (.map (some M)) ∧ (Instr.lookup 58 (.map (some M)) (.string ⟨#[109, 97, 105, 110]⟩) false).run Tryz.prog w' = .ok (.agg #[.slice q9 np cp, .func (.func 87) #[] cb]) w') (by kernel_rfl) ?_ (fun hHeld => ?_)
   ·exact ⟨d2, d1, l1⟩
   refine wpAnyH_take (i := 0) (v := ?val0) rfl (by kernel_rfl) (by kernel_rfl) (by kernel_rfl) (fun _ _ _ h => pan_put (by decide) h) (Or.inl ⟨by rfl, ?hy0⟩) hHeld ?go0
   case hy0 => (intro w hSw; (try dsimp only at hSw); (try (obtain ⟨s1, s2, s3⟩ := hSw)); go_simp; try rfl)
   case go0 =>
   simp only [Act.put, List.setIfInBounds_toArray, List.set_cons_zero, List.set_cons_succ, List.getElem_toArray, List.getElem_cons_zero, List.getElem_cons_succ]
   refine wpAnyH_take (i := 1) (v := ?val1) rfl (by kernel_rfl) (by kernel_rfl) (by kernel_rfl) (fun _ _ _ h => pan_put (by decide) h) (Or.inl ⟨by rfl, ?hy1⟩) hHeld ?go1
   case hy1 => (intro w hSw; (try dsimp only at hSw); (try (obtain ⟨s1, s2, s3⟩ := hSw)); go_simp; try rfl)
   case go1 =>
   simp only [Act.put, List.setIfInBounds_toArray, List.set_cons_zero, List.set_cons_succ, List.getElem_toArray, List.getElem_cons_zero, List.getElem_cons_succ]
   refine wpAnyH_take (i := 2) (v := ?val2) rfl (by kernel_rfl) (by kernel_rfl) (by kernel_rfl) (fun _ _ _ h => pan_put (by decide) h) (Or.inl ⟨by rfl, ?hy2⟩) hHeld ?go2
   case hy2 => (intro w hSw; (try dsimp only at hSw); (try (obtain ⟨s1, s2, s3⟩ := hSw)); go_simp; try rfl)
   case go2 =>
   simp only [Act.put, List.setIfInBounds_toArray, List.set_cons_zero, List.set_cons_succ, List.getElem_toArray, List.getElem_cons_zero, List.getElem_cons_succ]
   refine wpAnyH_take (i := 3) (v := ?val3) rfl (by kernel_rfl) (by kernel_rfl) (by kernel_rfl) (fun _ _ _ h => pan_put (by decide) h) (Or.inl ⟨by rfl, ?hy3⟩) hHeld ?go3
   case hy3 => (intro w hSw; (try dsimp only at hSw); (try (obtain ⟨s1, s2, s3⟩ := hSw)); go_simp; try rfl)
   case go3 =>
   simp only [Act.put, List.setIfInBounds_toArray, List.set_cons_zero, List.set_cons_succ, List.getElem_toArray, List.getElem_cons_zero, List.getElem_cons_succ]
   refine wpAnyH_take (i := 4) (v := ?val4) rfl (by kernel_rfl) (by kernel_rfl) (by kernel_rfl) (fun _ _ _ h => pan_put (by decide) h) (Or.inl ⟨by rfl, ?hy4⟩) hHeld ?go4
   case hy4 => (intro w hSw; (try dsimp only at hSw); (try (obtain ⟨s1, s2, s3⟩ := hSw)); go_simp; try rfl)
   case go4 =>
   simp only [Act.put, List.setIfInBounds_toArray, List.set_cons_zero, List.set_cons_succ, List.getElem_toArray, List.getElem_cons_zero, List.getElem_cons_succ]
   refine wpAnyH_take (i := 5) (v := ?val5) rfl (by kernel_rfl) (by kernel_rfl) (by kernel_rfl) (fun _ _ _ h => pan_put (by decide) h) (Or.inl ⟨by rfl, ?hy5⟩) hHeld ?go5
   case hy5 => (intro w hSw; (try dsimp only at hSw); (try (obtain ⟨s1, s2, s3⟩ := hSw)); go_simp; try rfl)
   case go5 =>
   simp only [Act.put, List.setIfInBounds_toArray, List.set_cons_zero, List.set_cons_succ, List.getElem_toArray, List.getElem_cons_zero, List.getElem_cons_succ]
   refine wpAnyH_ready (rs := [6]) (by kernel_rfl) (by simp) ?_
   refine AllReadyH.cons (o := { dst := some 30, op := Op.makeMap 71 none, type := 71, pos := "run.go:22", after := #[], guard := none }) rfl (fun K hK => ?_) AllReadyH.nil
   go_simp
   refine hK _ _ ⟨((qm w4 (.map #[] 0)).drew.cell (p := ⟨w.heap.size + 1 + 1, 0, none⟩) (by show w.heap.size + 1 + 1 < _; omega)).trans d2, ((qm w4 (.map #[] 0)).drew.cell (p := ⟨w.heap.size + 1, 0, none⟩) (by show w.heap.size + 1 < _; omega)).trans d1, l2⟩ (fun _ => ?_)
   clear hK K
   refine wpAnyH_ready (rs := [7]) (by kernel_rfl) (by simp) ?_
   refine AllReadyH.cons (o := { dst := some 31, op := Op.call { callee := Callee.value (Operand.func 30), args := #[Operand.tmp 24, Operand.tmp 29, Operand.tmp 30], argTypes := #[57, 69, 71] }, type := 2, pos := "run.go:22", after := #[{ on := 0, ground := Ground.data }, { on := 5, ground := Ground.data }, { on := 6, ground := Ground.data }], guard := none }) rfl (fun K hK => ?_) AllReadyH.nil
   go_simp
   refine HC30.out.mono ?_
   rintro e w5 ⟨r', h', hf', ⟨n9, hx, rfl⟩ | ⟨k9, out, hx, he9⟩⟩
   rotate_left
   ·obtain ⟨hout, older, rfl, zJ⟩ := he9
    obtain ⟨g1, g2, g3, g4, g5, g6⟩ := HGo.out w5 r' h' hf'
    obtain ⟨p, c9, hov⟩ := ze g5
    refine ⟨rfl, rfl, ?_⟩
    show ∃ k9 older, _
    refine ⟨k9, older, rfl, zJ, z_ (i := 0) g3 rfl, p, r'.s.out.length, c9, by rw [g4, hov], g2, ?_⟩
    have hr := HRn.out
    rw [hx] at hr
    rw [← HG.out, hr, ← hov, ← hout]
    exact told_end g1 g2 g5 g6
   ·obtain ⟨g1, g2, g3, g4, g5, g6⟩ := HGo.out w5 r' h' hf'
    obtain ⟨p, c9, hov⟩ := ze g5
    have HE : Hid (∃ p l c, w5.cell? ⟨w.heap.size + 1 + 1, 0, none⟩ = some (ptr (w.heap.size + 1)) ∧ w5.cell? ⟨w.heap.size + 1, 2, none⟩ = some (.slice p l c) ∧ Hid (w5.heap[w.heap.size]? = some (.cells #[.int .i64 0, .int .i64 0, .slice none 0 0] 29) ∧ G (.returned (.agg #[.int .i64 1, .int .i64 n9, .slice p l c])) (((w5.setCell ⟨w.heap.size, 0, none⟩ (.int .i64 1)).setCell ⟨w.heap.size, 1, none⟩ (.int .i64 n9)).setCell ⟨w.heap.size, 2, none⟩ (.slice p l c)))) := by
     refine ⟨p, r'.s.out.length, c9, z_ (i := 0) g3 rfl, by rw [g4, hov], g2, ?_⟩
     have hr := HRn.out
     rw [hx] at hr
     rw [← HG.out, hr, ← hov]
     exact told_end g1 g2 g5 g6
    have hS5 : w5.cell? ⟨w.heap.size + 1 + 1, 0, none⟩ = some (ptr (w.heap.size + 1)) ∧ w5.cell? ⟨w.heap.size + 1, 0, none⟩ = some (.map (some M)) ∧ (Instr.lookup 58 (.map (some M)) (.string ⟨#[109, 97, 105, 110]⟩) false).run Tryz.prog w5 = .ok (.agg #[.slice q9 np cp, .func (.func 87) #[] cb]) w5 := ⟨z_ (i := 0) g3 rfl, z_ (i := 0) h'.pb rfl, HLk.out w5 (h'.kp M HM.out.1 HM.out.2)⟩
    refine hK _ _ hS5 (fun _ => ?_)
    clear hK K h' hf' hx g1 g2 g3 g4 g5 g6 hov
    refine wpAnyH_ready (rs := [8]) (by kernel_rfl) (by simp) ?_
    refine AllReadyH.cons (o := { dst := some 8, op := Op.assign (Operand.tmp 31), type := 2, pos := "run.go:22", after := #[{ on := 7, ground := Ground.data }, { on := 7, ground := Ground.chain }, { on := 0, ground := Ground.phase }, { on := 1, ground := Ground.phase }, { on := 2, ground := Ground.phase }, { on := 3, ground := Ground.phase }, { on := 4, ground := Ground.phase }, { on := 5, ground := Ground.phase }, { on := 6, ground := Ground.phase }, { on := 7, ground := Ground.phase }], guard := none }) rfl (fun K hK => ?_) AllReadyH.nil
    go_simp
    refine hK _ _ hS5 (fun _ => ?_)
    clear hK K hS5
    refine wpAnyH_done (by kernel_rfl) ?_ _
    simp only [Pan12]
    go_wp2_with fail
    go_meet
    obtain ⟨p, l, c, q1, q2, q3⟩ := HE.out
    exact ⟨n9, p, l, c, rfl, q1, q2, q3⟩
  case rest =>
   obtain ⟨z, p, l, c8, rfl, q1, q2, HF⟩ := hcut
   obtain ⟨w6, hw6⟩ : ∃ w6, w6 = wc := ⟨_, rfl⟩
   rw [← hw6] at q1 q2 HF ⊢
   clear hw6
   have r0 := z_ (i := 0) HF.out.1 rfl
   have r1 := z_ (i := 1) HF.out.1 rfl
   have r2 := z_ (i := 2) HF.out.1 rfl
   have y0 := zb HF.out.1 0
   have y1 := zb HF.out.1 1
   have y2 := zb HF.out.1 2
   clear d1 d2 l1 l2
   go_wp2
   refine leaves_cons (f := 28) (args := #[ptr (w.heap.size + 1 + 1), ptr w.heap.size]) (by simp) (by simp [go_sem]) ?_
   refine (run_idle (w.heap.size + 1 + 1) w.heap.size _).mono ?_
   rintro e u' w7 ⟨rfl, rfl, rfl⟩
   exact ⟨_, res12 _ _ w.heap.size _ _ _ rfl (set3 HF.out.1), HF.out.2⟩
theorem li_of {w : World} {v : Value} {L : List Fun} (h : Got w v L) : LiS (Lo w.heap.size) w v L := by
 obtain ⟨n, cs, hr, hx⟩ := h
 obtain ⟨L', e1, e2, e3⟩ := fns_open _ cs hx
 have := trs_inj e1
 subst this
 have hn : n = L.length := by have := hr.1; omega
 subst hn
 have : LiS Everywhere w v L := ⟨cs, ⟨hr, fun _ _ => trivial⟩, e3⟩
 exact this.mono (fun b _ hb => hb)
theorem read_rf {s : By} (hs : s.length ≤ 1000000) {L : List Fun} (h : zO s = .ok (chain (L.map Fun.tr))) : (∀ F ∈ L, GoodF F ∧ RF F) ∧ L.length ≤ 12 := by
 obtain ⟨l, c, t1, p1⟩ := parse_parts h
 obtain ⟨e1, e2⟩ := tok_ends t1 hs
 obtain ⟨L0, q0, gL, q1⟩ := prog_re _ 0 (tok_tk t1) e1 p1
 have := trs_inj q0
 subst this
 obtain ⟨L1, z1, z2, z3, z4⟩ := parse_good hs h
 have := trs_inj z1
 subst this
 exact ⟨fun F hF => ⟨z2 F hF, gL F hF⟩, z4⟩
theorem check_got {s : By} (hs : s.length ≤ 1000000) {L : List Fun} (h : zO s = .ok (chain (L.map Fun.tr))) (w : World) (v : Value) (hg : Got w v L) : Calls Tryz.prog 16 #[v] w (ChP (chk L) w) := check_any w v L (li_of hg) (read_rf hs h).2 (read_rf hs h).1
theorem InW.of_own {w : World} {B : Nat} {v : Value} {l : List Int} (h : w.ownsRow B 2 1 v l.length (ints l)) : InW w v l := by
 rcases h.2 with ⟨h1, h2⟩ | ⟨g, cap, cur, hv, _, hg, hc, _, _, ht⟩
 ·exact ⟨none, 0, by rw [h1, h2], .inl (List.length_eq_zero_iff.1 h2)⟩
 ·subst hv
  refine ⟨_, _, rfl, .inr ⟨g, 0, rfl, (Array.getElem?_eq_some_iff.1 hg).1, hc, fun j x hx => ?_⟩⟩
  rw [Nat.zero_add]
  refine z_ hg ?_
  have e : (ints l)[j]? = some (.int .i64 x) := by rw [List.getElem?_map, hx]; rfl
  rw [← ht, List.getElem?_take] at e
  split at e
  ·simpa using e
  ·cases e
theorem equal_same (w : World) (v1 v2 : Value) (l : List Int) (h1 : InW w v1 l) (h2 : InW w v2 l) (hl : l.length ≤ 100000) :
  Calls Tryz.prog 13 #[v1, v2] w fun e w' => e = .returned (.bool true) ∧ Below w.heap.size w w' := by
 obtain ⟨p, c, rfl, h1⟩ := h1
 obtain ⟨q, d, rfl, h2⟩ := h2
 obtain ⟨n, hn⟩ : ∃ n, n = l.length := ⟨_, rfl⟩
 have H1 : Hid (∀ j, j < n → ∃ g o, p = some ⟨g, o, none⟩ ∧ g < w.heap.size ∧ ∀ j, j < n → w.cell? ⟨g, o + j, none⟩ = some (.int .i64 (l.getD j 0))) := fun j hj => by
  rcases h1 with rfl | ⟨g, o, e, hg, _, hx⟩
  ·simp at hn; omega
  ·exact ⟨g, o, e, hg, fun j hj => hx j _ (by rw [List.getElem?_eq_getElem (by omega)]; simp [List.getD_eq_getElem?_getD, List.getElem?_eq_getElem (show j < l.length by omega)])⟩
 have H2 : Hid (∀ j, j < n → ∃ g o, q = some ⟨g, o, none⟩ ∧ g < w.heap.size ∧ ∀ j, j < n → w.cell? ⟨g, o + j, none⟩ = some (.int .i64 (l.getD j 0))) := fun j hj => by
  rcases h2 with rfl | ⟨g, o, e, hg, _, hx⟩
  ·simp at hn; omega
  ·exact ⟨g, o, e, hg, fun j hj => hx j _ (by rw [List.getElem?_eq_getElem (by omega)]; simp [List.getD_eq_getElem?_getD, List.getElem?_eq_getElem (show j < l.length by omega)])⟩
 have hn6 : n ≤ 100000 := by omega
 rw [← hn]
 clear h1 h2 hn hl
 go_enter Tryz.func13, Tryz.ntmps13
 go_wp2
 go_loopw [13] (fun i wr => ∃ j : Nat, j ≤ n ∧ i = .int .i64 j ∧ Hid (Below w.heap.size w wr)) (fun i _ => n - (intOf i).toNat)
 case atStart => exact ⟨0, Nat.zero_le _, rfl, Below.refl _ _⟩
 case round =>
  obtain ⟨j, hj, rfl, hb⟩ := hrel
  by_cases hlt : j < n
  ·obtain ⟨g, o, rfl, hg, hc⟩ := H1.out j hlt
   obtain ⟨g', o', rfl, hg', hc'⟩ := H2.out j hlt
   have k1 : wr.cell? ⟨g, o + j, none⟩ = some (.int .i64 (l.getD j 0)) := by rw [hb.out.cell (p := ⟨g, o + j, none⟩) hg]; exact hc j hlt
   have k2 : wr.cell? ⟨g', o' + j, none⟩ = some (.int .i64 (l.getD j 0)) := by rw [hb.out.cell (p := ⟨g', o' + j, none⟩) hg']; exact hc' j hlt
   generalize l.getD j 0 = x at *
   clear hc hc'
   go_wp2
   go_region
   go_wp2
   exact ⟨⟨j + 1, by omega, by go_num, hb.out.drew⟩, by simp [intOf]; omega⟩
  ·have e : j = n := by omega
   subst e
   go_wp2
   go_ret
   exact ⟨rfl, hb.out⟩
def RtP (s : ByteArray) (w : World) (e : Ending) (w' : World) : Prop := Below w.heap.size w w' ∧ ((∃ q n c, e = .returned (.tuple #[.slice q n c, .bool false])) ∨ (∃ q c L, e = .returned (.tuple #[.slice q L.length c, .bool true]) ∧ s.data.toList.length ≤ 1200 ∧ zO s.data.toList = .ok (chain (L.map Fun.tr)) ∧ chk L = .ok true ∧ Got w' (.slice q L.length c) L))
theorem eq34n (w : World) : (binOp .eql 34 .nilIface .nilIface).run Tryz.prog w = .ok (.bool true) w := by kernel_rfl
theorem eq34a (v : Value) (w : World) : (binOp .eql 34 (.iface 72 v) .nilIface).run Tryz.prog w = .ok (.bool false) w := by kernel_rfl
theorem eq34b (v : Value) (w : World) : (binOp .eql 34 (.iface 46 v) .nilIface).run Tryz.prog w = .ok (.bool false) w := by kernel_rfl
theorem right_any (w : World) (he : EnvW 14 w) (s : ByteArray) : Calls Tryz.prog 10 #[.string s] w (RtP s w) := by
 have e1 := eq34n
 have e2 := eq34a
 have e3 := eq34b
 by_cases hs : s.size ≤ 1200
 ·cases hp : zO s.data.toList with
  | error k =>
   have HP : Hid (Calls Tryz.prog 14 #[.string s] w fun e w' => ∃ a, e = .returned (.tuple #[.slice none 0 0, .iface 72 (.pointer (some ⟨a, 0, none⟩))]) ∧ Below w.heap.size w w') := (parse_none he.env (by omega) hp).mono fun e w' ⟨a, h1, _, h2⟩ => ⟨a, h1, h2⟩
   clear he hp
   go_enter Tryz.func10, Tryz.ntmps10
   go_wp2_with (go_at_call 14; fail)
   refine HP.out.mono ?_
   rintro e w1 ⟨a, rfl, hb⟩
   have HB : Hid (Below w.heap.size w w1) := hb
   clear hb
   go_wp2_with fail
   go_quiet (fail)
   go_wp2
   go_ret2
   exact ⟨⟨HB.out.os, HB.out.tape, HB.out.output, HB.out.size, HB.out.block⟩, .inl ⟨_, _, _, rfl⟩⟩
  | ok t =>
   have hss : s.data.toList.length = s.size := rfl
   obtain ⟨L, rfl, -, -, -⟩ := parse_good (s := s.data.toList) (by omega) hp
   have hs6 : s.data.toList.length ≤ 1200 := by omega
   have HP : Hid (Calls Tryz.prog 14 #[.string s] w fun e w' => ∃ q c, e = .returned (.tuple #[.slice q L.length c, .nilIface]) ∧ Got w' (.slice q L.length c) L ∧ Below w.heap.size w w') := parse_got he.env (by omega) hp
   have HPs : Hid (zO s.data.toList = .ok (chain (L.map Fun.tr)) ∧ s.data.toList.length ≤ 1200) := ⟨hp, hs6⟩
   obtain ⟨n, hn⟩ : ∃ n, n = L.length := ⟨_, rfl⟩
   have HN : Hid (n = L.length) := hn
   rw [← hn] at HP
   have hck : (chk L = .ok true) ∨ (chk L = .ok false) ∨ ∃ k a, chk L = .error (k, a) := by
    cases chk L with
    | error e => exact .inr (.inr ⟨e.1, e.2, rfl⟩)
    | ok b => cases b <;> simp
   rcases hck with hck | hck | ⟨k0, a0, hck⟩
   ·have HC : Hid (∀ W v, Got W v L → Calls Tryz.prog 16 #[v] W fun e w' => e = .returned .nilIface ∧ Below W.heap.size W w') := fun W v hg => (check_got (by omega) hp W v hg).mono fun e w' h => by
     obtain ⟨⟨_, rfl⟩ | ⟨h, _⟩ | ⟨k, a, b, h, _⟩, hb⟩ := h
     ·exact ⟨rfl, hb⟩
     ·rw [hck] at h; cases h
     ·rw [hck] at h; cases h
    have HCk : Hid (chk L = .ok true) := hck
    clear he hp hn hs6 hck hss
    go_enter Tryz.func10, Tryz.ntmps10
    go_wp2_with (go_at_call 14; fail)
    refine HP.out.mono ?_
    rintro e w1 ⟨q, c, rfl, hg, hb⟩
    have HB : Hid (Below w.heap.size w w1) := hb
    have HG : Hid (Got w1 (.slice q n c) L) := hg
    clear hb hg
    go_wp2_with fail
    go_region_with (first | (go_at_call 16; refine (HC.out _ _ (HG.out.below (Below.refl _ _).drew)).mono ?_; rintro e w2 ⟨rfl, hb2⟩; have HB2 : Hid (Below w.heap.size w w2) := HB.out.trans ((zu hb2).mono HB.out.size); have HG2 : Hid (Got w2 (.slice q n c) L) := HG.out.below (zu hb2); clear hb2))
    all_goals go_wp2_with fail
    all_goals go_ret2
    all_goals exact ⟨HB2.out, .inr ⟨q, c, L, by rw [← HN.out]; rfl, HPs.out.2, HPs.out.1, HCk.out, by rw [← HN.out]; exact HG2.out⟩⟩
   ·have HC : Hid (∀ W v, Got W v L → Calls Tryz.prog 16 #[v] W fun e w' => e = .returned (.iface 46 (.int .i64 8)) ∧ Below W.heap.size W w') := fun W v hg => (check_got (by omega) hp W v hg).mono fun e w' h => by
     obtain ⟨⟨h, _⟩ | ⟨_, rfl⟩ | ⟨k, a, b, h, _⟩, hb⟩ := h
     ·rw [hck] at h; cases h
     ·exact ⟨rfl, hb⟩
     ·rw [hck] at h; cases h
    have HCk : Hid (chk L = .ok false) := hck
    clear he hp hn hs6 hck hss
    go_enter Tryz.func10, Tryz.ntmps10
    go_wp2_with (go_at_call 14; fail)
    refine HP.out.mono ?_
    rintro e w1 ⟨q, c, rfl, hg, hb⟩
    have HB : Hid (Below w.heap.size w w1) := hb
    have HG : Hid (Got w1 (.slice q n c) L) := hg
    clear hb hg
    go_wp2_with fail
    go_region_with (first | (go_at_call 16; refine (HC.out _ _ (HG.out.below (Below.refl _ _).drew)).mono ?_; rintro e w2 ⟨rfl, hb2⟩; have HB2 : Hid (Below w.heap.size w w2) := HB.out.trans ((zu hb2).mono HB.out.size); have HG2 : Hid (Got w2 (.slice q n c) L) := HG.out.below (zu hb2); clear hb2))
    all_goals go_wp2_with fail
    all_goals go_ret2
    all_goals exact ⟨HB2.out, .inl ⟨_, _, _, rfl⟩⟩
   ·have HC : Hid (∀ W v, Got W v L → Calls Tryz.prog 16 #[v] W fun e w' => ∃ b, e = .returned (.iface 72 (.pointer (some ⟨b, 0, none⟩))) ∧ Below W.heap.size W w') := fun W v hg => (check_got (by omega) hp W v hg).mono fun e w' h => by
     obtain ⟨⟨h, _⟩ | ⟨h, _⟩ | ⟨k, a, b, _, rfl, _⟩, hb⟩ := h
     ·rw [hck] at h; cases h
     ·rw [hck] at h; cases h
     ·exact ⟨b, rfl, hb⟩
    have HCk : Hid (chk L = .error (k0, a0)) := hck
    clear he hp hn hs6 hck hss
    go_enter Tryz.func10, Tryz.ntmps10
    go_wp2_with (go_at_call 14; fail)
    refine HP.out.mono ?_
    rintro e w1 ⟨q, c, rfl, hg, hb⟩
    have HB : Hid (Below w.heap.size w w1) := hb
    have HG : Hid (Got w1 (.slice q n c) L) := hg
    clear hb hg
    go_wp2_with fail
    go_region_with (first | (go_at_call 16; refine (HC.out _ _ (HG.out.below (Below.refl _ _).drew)).mono ?_; rintro e w2 ⟨b9, rfl, hb2⟩; have HB2 : Hid (Below w.heap.size w w2) := HB.out.trans ((zu hb2).mono HB.out.size); have HG2 : Hid (Got w2 (.slice q n c) L) := HG.out.below (zu hb2); clear hb2))
    all_goals go_wp2_with fail
    all_goals go_ret2
    all_goals exact ⟨HB2.out, .inl ⟨_, _, _, rfl⟩⟩
 ·have hs2 : decide (1200 < (s.size : Int)) = true := by simp; omega
  clear he
  go_enter Tryz.func10, Tryz.ntmps10
  go_wp2
  go_ret2
  exact ⟨Below.refl _ _, .inl ⟨_, _, _, rfl⟩⟩
def psOf : Tr → Nm
 | .slice [.agg [.lit (.string nm), .lit (.int _ t)]] [g] => (nm, t) :: psOf g
 | _ => []
def funsOf : Tr → List Fun
 | .slice [.agg [.lit (.string nm), .lit (.int k a), ps, b]] [g] => ⟨nm, k, a, psOf ps, b⟩ :: funsOf g
 | _ => []
def treeOf : Except (Int × Nat) Tr → Tr
 | .ok t => t
 | _ => .nil
def gT : By := [102, 110, 32, 109, 97, 105, 110, 40, 41, 32, 123, 32, 118, 97, 114, 32, 105, 32, 61, 32, 105, 110, 112, 117, 116, 40, 41, 59, 32, 119, 104, 105, 108, 101, 32, 40, 105, 32, 62, 32, 48, 41, 32, 123, 32, 112, 114, 105, 110, 116, 32, 105, 59, 32, 105, 32, 61, 32, 105, 32, 45, 32, 49, 59, 32, 125, 32, 114, 101, 116, 117, 114, 110, 32, 55, 32, 47, 32, 105, 59, 32, 125]
def gL : List Fun := funsOf (treeOf (zO gT))
theorem g_parse : zO gT = .ok (chain (gL.map Fun.tr)) := by kernel_rfl
theorem g_len : gL.length = 1 := by kernel_rfl
theorem g_chk : chk gL = .ok true := by kernel_rfl
theorem g_run : rnV (58 + 2) gL [2] 100 = (2, 0, [2, 1]) := by kernel_rfl
theorem inw_new (w : World) (l : List Int) : InW (w.alloc (.cells (ints l).toArray 2)) (.slice (some ⟨w.heap.size, 0, none⟩) l.length l.length) l := by
 refine ⟨_, _, rfl, .inr ⟨w.heap.size, 0, rfl, by simp, Nat.le_refl _, fun j x hx => ?_⟩⟩
 refine z_ (heap_alloc_last w _) ?_
 rw [Nat.zero_add]
 simp [hx]
theorem goes_ok (w : World) (he : EnvW 14 w) : Calls Tryz.prog 9 #[] w fun e w' => e = .returned (.bool true) ∧ Below w.heap.size w w' := by
 have e1 : (⟨gT.toArray⟩ : ByteArray).data.toList = gT := rfl
 have HP : Hid (Calls Tryz.prog 14 #[.string ⟨#[102, 110, 32, 109, 97, 105, 110, 40, 41, 32, 123, 32, 118, 97, 114, 32, 105, 32, 61, 32, 105, 110, 112, 117, 116, 40, 41, 59, 32, 119, 104, 105, 108, 101, 32, 40, 105, 32, 62, 32, 48, 41, 32, 123, 32, 112, 114, 105, 110, 116, 32, 105, 59, 32, 105, 32, 61, 32, 105, 32, 45, 32, 49, 59, 32, 125, 32, 114, 101, 116, 117, 114, 110, 32, 55, 32, 47, 32, 105, 59, 32, 125]⟩] w fun e w' => ∃ q c, e = .returned (.tuple #[.slice q 1 c, .nilIface]) ∧ Got w' (.slice q 1 c) gL ∧ Below w.heap.size w w') := by
  have := parse_got (s := ⟨gT.toArray⟩) (L := gL) he.env (by decide) (by rw [e1]; exact g_parse)
  rw [g_len] at this
  exact this
 have HR : Hid (∀ W v iv, Got W v gL → InW W iv [2] → Calls Tryz.prog 12 #[v, iv, .int .i64 100] W fun e w' => ∃ p c, e = .returned (.agg #[.int .i64 2, .int .i64 0, .slice p 2 c]) ∧ InW w' (.slice p 2 c) [2, 1] ∧ Below W.heap.size W w') := fun W v iv hg hi => by
  have := goes_any W v iv gL (li_of hg) (read_rf (by decide) g_parse).2 (read_rf (by decide) g_parse).1 g_chk [2] hi 100 (by omega) 58 (by rw [g_run]; decide)
  rw [g_run] at this
  refine this.mono ?_
  rintro e w' ⟨p, c, h1, h2, h3⟩
  exact ⟨p, c, h1, InW.of_own h2, h3⟩
 have HEq : Hid (∀ W v1 v2, InW W v1 [2, 1] → InW W v2 [2, 1] → Calls Tryz.prog 13 #[v1, v2] W fun e w' => e = .returned (.bool true) ∧ Below W.heap.size W w') := fun W v1 v2 h1 h2 => equal_same W v1 v2 [2, 1] h1 h2 (by decide)
 clear he e1
 go_enter Tryz.func9, Tryz.ntmps9
 go_wp2_with (go_at_call 14; fail)
 refine HP.out.mono ?_
 rintro e w1 ⟨q, c, rfl, hg, hb⟩
 have HB : Hid (Below w.heap.size w w1) := hb
 have HG : Hid (Got w1 (.slice q 1 c) gL) := hg
 clear hb hg
 go_wp2_with (go_at_call 12; fail)
 refine (HR.out _ _ _ (HG.out.below (qm _ _)) (inw_new w1 [2])).mono ?_
 rintro e w2 ⟨p, c2, rfl, hO, hb2⟩
 have HO : Hid (InW w2 (.slice p 2 c2) [2, 1]) := hO
 have HB2 : Hid (Below w.heap.size w w2) := (HB.out.alloc HB.out.size _).trans (hb2.mono (by have := HB.out.size; simp; omega))
 clear hO hb2
 go_wp2_with (go_at_call 13; fail)
 have hin := inw_new (w2.alloc (.cells #[.int .i64 2, .int .i64 0, .slice p 2 c2] 29)) [2, 1]
 refine (HEq.out _ _ _ (HO.out.below (jo _ _ _)) (by simpa using hin)).mono ?_
 rintro e w3 ⟨rfl, hb3⟩
 have HB3 : Hid (Below w.heap.size w w3) := (HB2.out.trans ((jo w2 _ _).mono HB2.out.size)).trans (hb3.mono (by have := HB2.out.size; simp; omega))
 clear hb3 hin
 go_wp2
 go_ret
 exact ⟨rfl, HB3.out⟩
theorem gb_congr {α β : Type} {x y : Go1 α} {f h : α → Go1 β} (hx : x = y) (hf : ∀ a, f a = h a) : gb x f = gb y h := by
 subst hx
 have : f = h := funext hf
 rw [this]
theorem if_congr' {α : Type} {c : Prop} [Decidable c] {x y x' y' : α} (hx : x = x') (hy : y = y') : (if c then x else y) = (if c then x' else y') := by rw [hx, hy]
theorem er_all (fs : By → Option Fun) : ∀ (g : Nat), (∀ d o t, evE (fun nm => (fs nm).map erF) g d o (er t) = evE fs g d o t) ∧ (∀ d o t, evA (fun nm => (fs nm).map erF) g d o (er t) = evA fs g d o t) ∧ (∀ d o t, evB (fun nm => (fs nm).map erF) g d o (er t) = evB fs g d o t) ∧ (∀ d o t, evS (fun nm => (fs nm).map erF) g d o (er t) = evS fs g d o t) ∧ (∀ d o v t, evW (fun nm => (fs nm).map erF) g d o (er v) (er t) = evW fs g d o v t)
 | 0 => ⟨fun _ _ _ => by rw [evE_0, evE_0], fun _ _ _ => by rw [evA_0, evA_0], fun _ _ _ => by rw [evB_0, evB_0], fun _ _ _ => by rw [evS_0, evS_0], fun _ _ _ _ => by rw [evW_0, evW_0]⟩
 | g + 1 => by
  obtain ⟨iE, iA, iB, iS, iW⟩ := er_all fs g
  refine ⟨fun d o t => ?_, fun d o t => ?_, fun d o t => ?_, fun d o t => ?_, fun d o v t => ?_⟩
  ·unfold er
   split
   ·rename_i k1 c k2 a k3 n nm op l r xs
    rw [qN, qN]
    cases hf : fs nm <;> simp only [hf, Option.map_none, Option.map_some]
    all_goals repeat' first | rfl | exact iE _ _ _ | exact iA _ _ _ | exact iB _ _ _ | refine if_congr' ?_ ?_ | (refine gb_congr ?_ fun _ => ?_)
   ·simp [qN]
   ·simp [qN]
   ·simp [qN]
   ·rename_i h1 h2 h3 h4
    rw [qN, qN]
    split
    ·exact absurd rfl (h1 _ _ _ _ _ _ _ _ _ _ _)
    ·rfl
  ·unfold er
   split
   ·simp [evA_1]
   ·simp [evA_1]
   ·simp [evA_1]
   ·simp only [evA_1, iE, iA]
   ·rename_i h1 h2 h3 h4
    rw [evA_1, evA_1]
    split
    ·exact absurd rfl (h4 _ _)
    ·rfl
  ·unfold er
   split
   ·simp [evB_1]
   ·simp [evB_1]
   ·simp [evB_1]
   ·simp only [evB_1, iS, iB]
   ·rename_i h1 h2 h3 h4
    rw [evB_1, evB_1]
    split
    ·exact absurd rfl (h4 _ _)
    ·rfl
  ·unfold er
   split
   ·simp [evS_1]
   ·simp only [evS_1, iE, iB, iW]
   ·simp [evS_1]
   ·simp [evS_1]
   ·rename_i h1 h2 h3 h4
    rw [evS_1, evS_1]
    split
    ·exact absurd rfl (h2 _ _ _ _ _ _ _ _ _)
    ·rfl
  ·simp only [evW_1, iE, iB, iW]
theorem run_er (g : Nat) (L : List Fun) (inp : List Int) (a : Nat) : rnV g (L.map erF) inp a = rnV g L inp a := by
 have e : (fun nm => (L.map erF).find? (fun F => F.nm == nm)) = (fun nm => (L.find? (fun F => F.nm == nm)).map erF) := by
  funext nm
  rw [List.find?_map]
  rfl
 unfold rnV
 rw [e]
 have h := (er_all (fun nm => L.find? (fun F => F.nm == nm)) g).1 0 [] (nd 5 0 0 [109, 97, 105, 110] [] .nil .nil ce)
 rw [qS, zp, zE] at h
 rw [h]
end Go.Proofs.YtnfhpdbbfejioaaGreatDoor
