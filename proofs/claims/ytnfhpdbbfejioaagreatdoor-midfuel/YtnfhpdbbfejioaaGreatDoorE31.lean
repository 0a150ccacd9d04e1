/- LW LX LY LZ -/
import Derived.Test.YtnfhpdbbfejioaaGreatDoorE29
import Derived.Test.YtnfhpdbbfejioaaGreatDoorE30
namespace Go.Proofs.YtnfhpdbbfejioaaGreatDoor.Mid
set_option linter.unusedVariables false
set_option linter.unusedSimpArgs false
set_option maxRecDepth 100000
set_option maxHeartbeats 16000000
open Go Go.RowKit
def argOk : Tr → Bool
  | .agg [.lit (.int k1 c), .lit (.int k2 a), .lit (.int k3 n), .lit (.string nm), .lit (.string op), l, r, xs] => decide ((unc xs).length ≤ 1000000)
  | _ => true
def lasK (F : Lf) (t : Tr) : Lm Ms := if argOk t = true then lasL F t else ln
def lwK : Nat → Lf
  | 0 => ⟨fun _ => ln, fun _ => ln, fun _ _ => ln, fun _ _ => ln⟩
  | g + 1 => ⟨valL (lwK g), lasK (lwK g), unlL (lwK g), whnL (lwK g)⟩
theorem last_of {F : Lf} (hV : VaC F.V) (hU : UnC 215 F.U) : LaC 212 (lasK F) := by
  intro R w P mb s s' t v x h hx hv
  unfold lasK at hv
  split at hv
  rotate_left
  · cases hv
  rename_i hao
  unfold lasL at hv
  split at hv
  · rename_i k1 c k2 a k3 n nm op l r g
    split at hv
    · rename_i hc
      subst hc
      obtain ⟨p, s1, h1, h2⟩ := zg hv
      unfold nameL at h1
      split at h1
      · rename_i hn
        injection h1 with h1
        injection h1 with h1 h3
        injection h2 with h2
        injection h2 with h2 h4
        subst h1 h2 h3 h4
        exact last_name h hx hn
      · cases h1
    · rename_i c2
      split at hv
      · rename_i hc
        subst hc
        refine last_mark 240 (.inl ⟨rfl, rfl⟩) h hx (fun W R' hm hx2 => ?_)
        obtain ⟨xc, xa, xb, yo, rfl, hC⟩ := two_of hV hU hm hx2 hv
        refine hC.mono ?_
        intro e w' he
        exact he.ls
      · rename_i c3
        split at hv
        · rename_i hc
          subst hc
          exact last_mark 241 (.inr ⟨rfl, rfl⟩) h hx (fun W R' hm hx2 => one_of hV hm hx2 hv)
        · rename_i c4
          split at hv
          · rename_i hc
            subst hc
            obtain ⟨ps, s1, h1, h2⟩ := zg hv
            injection h2 with h2
            injection h2 with h2 h3
            subst h2 h3
            exact last_call hV h hx h1 (by simpa [argOk] using hao)
          · rename_i c5
            split at hv
            · rename_i hc
              subst hc
              obtain ⟨p, s1, h1, h2⟩ := zg hv
              injection h2 with h2
              injection h2 with h2 h3
              subst h2 h3
              exact last_part hV 9 (.inl ⟨rfl, rfl⟩) h hx h1
            · rename_i c6
              split at hv
              · rename_i hc
                subst hc
                obtain ⟨p, s1, h1, h2⟩ := zg hv
                injection h2 with h2
                injection h2 with h2 h3
                subst h2 h3
                exact last_part hV 10 (.inr ⟨rfl, rfl⟩) h hx h1
              · rename_i c7
                split at hv
                · rename_i hc
                  subst hc
                  obtain ⟨p, s1, h1, h2⟩ := zg hv
                  obtain ⟨q, s2, h3, h4⟩ := zg h2
                  injection h4 with h4
                  injection h4 with h4 h5
                  subst h4 h5
                  exact last_item hV h hx h1 h3
                · rename_i c8
                  split at hv
                  · rename_i hc
                    subst hc
                    injection hv with hv
                    injection hv with h4 h5
                    subst h4 h5
                    exact last_input h hx
                  · rename_i c9
                    injection hv with hv
                    injection hv with h4 h5
                    subst h4 h5
                    exact last_num h hx c2 c3 c4 c5 c6 c7 c8 c9
  · cases hv
theorem lw_all : ∀ g, VaC (lwK g).V ∧ LaC 212 (lwK g).L ∧ UnC 215 (lwK g).U ∧ UnC 242 (lwK g).W
  | 0 => ⟨fun R w P mb s s' t v p h hx hv => (by cases hv), fun R w P mb s s' t v p h hx hv => (by cases hv), fun R w P mb s s' t v e u h hx hv => (by cases hv), fun R w P mb s s' t v e u h hx hv => (by cases hv)⟩
  | g + 1 => by
    obtain ⟨h1, h2, h3, h4⟩ := lw_all g
    exact ⟨value_of h2, last_of h1 h3, unl_of h1 h3 h4, whn_of h1 h3 h4⟩
theorem into_of {F : Lf} (hL : LaC 212 F.L) {R : Nat → Nat} {w : World} {P mb : Nat} {s s' : Wr} {t : Tr} {v : Value} {p q : Nat} (h : WrM R w P mb s) (hx : ExAt (Lo (P - 1)) w t v) (hi : intoL F p t s = some (q, s')) : Calls Tryz.prog 162 #[ptr P, .int .i64 (p : Int), v] w (LuP P R mb w s') := by
  obtain ⟨x, s1, e1, e2⟩ := zg hi
  have hC := hL R w P mb s s1 t v x h hx e1
  obtain ⟨xc, xd, xa, xb, xcc, xn, xo, xl, xm, xg⟩ := x
  obtain ⟨yo, hyo⟩ : ∃ y : ByteArray, y = ⟨xo.toArray⟩ := ⟨_, rfl⟩
  obtain ⟨yn, hyn⟩ : ∃ y : ByteArray, y = ⟨xm.toArray⟩ := ⟨_, rfl⟩
  have HC : Hid (Calls Tryz.prog 212 #[ptr P, v] w (fun e w' => ∃ qa na ca, e = .returned (.agg #[.int .i64 xc, .int .i64 xd, .int .i64 xa, .int .i64 xb, .int .i64 xcc, .int .i64 xn, .string yo, .int .i64 xl, .string yn, .slice qa na ca]) ∧ ∃ R', WrM R' w' P mb s1 ∧ Lw P R R' w w' ∧ ArAt R' w' (.slice qa na ca) xg)) := by
    rw [hyo, hyn]
    refine hC.mono ?_
    rintro e w' ⟨qa, na, ca, he, R', q1, q2, q3⟩
    exact ⟨qa, na, ca, he, R', q1, q2, q3⟩
  have HF : Hid (∀ R' W qa na ca, WrM R' W P mb s1 → ArAt R' W (.slice qa na ca) xg → Calls Tryz.prog 211 #[ptr P, .agg #[.int .i64 xc, .int .i64 xd, .int .i64 xa, .int .i64 xb, .int .i64 xcc, .int .i64 xn, .string yo, .int .i64 xl, .string yn, .slice qa na ca], .int .i64 (p : Int)] W (LnP P R' mb W (q : Int) s')) := fun R' W qa na ca h1 h2 => by
    rw [hyo, hyn]
    exact finish_any (x := ⟨xc, xd, xa, xb, xcc, xn, xo, xl, xm, xg⟩) h1 qa na ca h2 e2
  obtain ⟨G, hG⟩ : ∃ G, G = LuP P R mb w s' := ⟨_, rfl⟩
  have HG : Hid (G = LuP P R mb w s') := hG
  rw [← hG]
  clear h hx hi e1 e2 hC hyo hyn hG
  go_enter Tryz.func162, Tryz.ntmps162
  go_wp2_with (go_at_call 212; fail)
  refine HC.out.mono ?_
  rintro e w2 ⟨qa, na, ca, rfl, R2, hm2, hl2, har⟩
  have HC2 := HF.out R2 w2 qa na ca hm2 har
  have HH : Hid (Calls Tryz.prog 211 #[ptr P, .agg #[.int .i64 xc, .int .i64 xd, .int .i64 xa, .int .i64 xb, .int .i64 xcc, .int .i64 xn, .string yo, .int .i64 xl, .string yn, .slice qa na ca], .int .i64 (p : Int)] w2 (LnP P R2 mb w2 (q : Int) s')) := HC2
  have HL2 : Hid (Lw P R R2 w w2) := hl2
  clear hm2 hl2 har HC2 HC HF
  go_wp2_with (go_at_call 211; fail)
  refine HH.out.mono ?_
  rintro e w3 ⟨rfl, R3, hm3, hl3⟩
  have HE : Hid (G (.returned (.tuple #[])) w3) := by show G _ _; rw [HG.out]; exact ⟨rfl, R3, hm3, HL2.out.trans hl3⟩
  clear hm3 hl3
  go_wp2
  go_end0
  exact HE.out
structure SmW (w : World) (g o : Nat) (c a : Int) (yn : ByteArray) (vi vv : Option Addr) (vt ve : Value) : Prop where
  c0 : w.cell? ⟨g, o, none⟩ = some (.int .i64 c)
  c2 : w.cell? ⟨g, o + 2, none⟩ = some (.string yn)
  c3 : w.cell? ⟨g, o + 3, none⟩ = some (.pointer vi)
  c4 : w.cell? ⟨g, o + 4, none⟩ = some (.pointer vv)
  c5 : w.cell? ⟨g, o + 5, none⟩ = some vt
  c6 : w.cell? ⟨g, o + 6, none⟩ = some ve
abbrev stk (k1 k2 : IntKind) (c a : Int) (nm : By) (ix v th el : Tr) : Tr := .agg [.lit (.int k1 c), .lit (.int k2 a), .lit (.string nm), ix, v, th, el]
def StX (P : Nat) (w : World) (g o : Nat) (t : Tr) : Prop :=
  ∃ (k1 k2 : IntKind) (c a : Int) (nm : By) (ix v th el : Tr) (vi vv : Option Addr) (vt ve : Value) (nt ne : Nat) (ts es : List Value), t = stk k1 k2 c a nm ix v th el ∧ ∀ W, Below (P - 1) w W → SmW W g o c a ⟨nm.toArray⟩ vi vv vt ve ∧ ExAt (Lo (P - 1)) W ix (.pointer vi) ∧ ExAt (Lo (P - 1)) W v (.pointer vv) ∧ RowS (Lo (P - 1)) W 147 7 vt nt ts ∧ StAt (Lo (P - 1)) W th ts ∧ RowS (Lo (P - 1)) W 147 7 ve ne es ∧ StAt (Lo (P - 1)) W el es
theorem StX.on {P : Nat} {w W : World} {g o : Nat} {t : Tr} (h : StX P w g o t) (hb : Below (P - 1) w W) : StX P W g o t := by
  obtain ⟨k1, k2, c, a, nm, ix, v, th, el, vi, vv, vt, ve, nt, ne, ts, es, e, h⟩ := h
  exact ⟨k1, k2, c, a, nm, ix, v, th, el, vi, vv, vt, ve, nt, ne, ts, es, e, fun W' hW => h W' (hb.trans hW)⟩
theorem lo_kp {P : Nat} {w W : World} (hb : Below (P - 1) w W) : Keeps (Lo (P - 1)) w W := fun b cs t hb' _ hc => by rw [hb.block b hb']; exact hc
theorem st_walk {P : Nat} {w : World} {g : Nat} (hg : g < P - 1) : ∀ (t : Tr) (cs : List Value) (k : Nat), StAt (Lo (P - 1)) w t cs → (∀ j u, cs[j]? = some u → w.cell? ⟨g, k * 7 + j, none⟩ = some u) → cs.length = (unc t).length * 7 ∧ ∀ i x, (unc t)[i]? = some x → StX P w g ((k + i) * 7) x
  | t, cs, k, h, hc => by
    unfold StAt at h
    split at h
    · rename_i k1 c k2 a nm ix v th el gg
      obtain ⟨vi, vv, vt, ve, nt, ne, ts, es, rest, e, a1, a2, a3, a4, a5, a6, a7⟩ := h
      subst e
      obtain ⟨r1, r2⟩ := st_walk hg gg rest (k + 1) a7 (fun j u hu => by
        have := hc (7 + j) u (by
          show ([Value.int .i64 c, .int .i64 a, str nm, .pointer vi, .pointer vv, vt, ve] ++ rest)[7 + j]? = _
          rw [List.getElem?_append_right (by simp)]
          simpa using hu)
        rw [show (k + 1) * 7 + j = k * 7 + (7 + j) by omega]
        exact this)
      have hl : unc (.slice [.agg [.lit (.int k1 c), .lit (.int k2 a), .lit (.string nm), ix, v, th, el]] [gg]) = .agg [.lit (.int k1 c), .lit (.int k2 a), .lit (.string nm), ix, v, th, el] :: unc gg := rfl
      refine ⟨by rw [hl]; simp only [List.length_append, List.length_cons, r1, List.length_nil]; omega, fun i x hx => ?_⟩
      rw [hl] at hx
      cases i with
      | zero =>
        injection hx with hx
        subst hx
        rw [Nat.add_zero]
        refine ⟨k1, k2, c, a, nm, ix, v, th, el, vi, vv, vt, ve, nt, ne, ts, es, rfl, fun W hW => ?_⟩
        have hk := lo_kp hW
        have hcc : ∀ j u, ([Value.int .i64 c, .int .i64 a, str nm, .pointer vi, .pointer vv, vt, ve] ++ rest)[j]? = some u → W.cell? ⟨g, k * 7 + j, none⟩ = some u := fun j u hu => by
          rw [hW.cell (p := ⟨g, k * 7 + j, none⟩) hg]
          exact hc j u hu
        exact ⟨⟨hcc 0 _ rfl, hcc 2 _ rfl, hcc 3 _ rfl, hcc 4 _ rfl, hcc 5 _ rfl, hcc 6 _ rfl⟩, hk.ex a1, hk.ex a2, a3.kept hk (by decide), StAt.kept hk _ _ a4, a5.kept hk (by decide), StAt.kept hk _ _ a6⟩
      | succ i =>
        have := r2 i x (by simpa using hx)
        rw [show k + (i + 1) = k + 1 + i by omega]
        exact this
    · subst h
      exact ⟨rfl, fun i x hx => by cases hx⟩
    · exact h.elim
theorem st_row {P : Nat} {w : World} {v : Value} {n : Nat} {t : Tr} {cs : List Value} (hr : RowS (Lo (P - 1)) w 147 7 v n cs) (hs : StAt (Lo (P - 1)) w t cs) : n = (unc t).length ∧ n ≤ 9223372036854775807 ∧ ((v = .slice none 0 0 ∧ n = 0) ∨ ∃ g cap, v = .slice (some ⟨g, 0, none⟩) n cap ∧ n ≤ cap ∧ g < P - 1 ∧ ∀ i x, (unc t)[i]? = some x → StX P w g (i * 7) x) := by
  have hl := hr.1.1
  rcases hr.1.2 with ⟨rfl, hn⟩ | ⟨g, cap, cur, rfl, hb, hg, hle, hmx, hsz, htk⟩
  · subst hn
    have : cs = [] := List.length_eq_zero_iff.1 (by omega)
    subst this
    have hu : unc t = [] := by
      unfold StAt at hs
      split at hs
      · obtain ⟨_, _, _, _, _, _, _, _, _, e, _⟩ := hs; simp at e
      · rfl
      · exact hs.elim
    exact ⟨by rw [hu]; rfl, by omega, .inl ⟨rfl, rfl⟩⟩
  · have hgP : g < P - 1 := hr.2 g rfl
    obtain ⟨r1, r2⟩ := st_walk hgP t cs 0 hs (fun j u hu => by
      have := hr.1.cells (g := g) rfl j u hu
      rw [add_at0] at this
      simpa using this)
    refine ⟨by omega, by unfold maxLen at hmx; omega, .inr ⟨g, cap, rfl, hle, hgP, fun i x hx => ?_⟩⟩
    have := r2 i x hx
    rw [Nat.zero_add] at this
    exact this
def SmC (S : Tr → Lm Unit) : Prop := ∀ (R : Nat → Nat) (w : World) (P mb : Nat) (s s' : Wr) (t : Tr) (g o : Nat) (u : Unit), WrM R w P mb s → StX P w g o t → S t s = some (u, s') → Calls Tryz.prog 108 #[ptr P, .pointer (some ⟨g, o, none⟩)] w (LuP P R mb w s')
def BkC (S : Tr → Lm Unit) : Prop := ∀ (R : Nat → Nat) (w : World) (P mb : Nat) (s s' : Wr) (t : Tr) (v : Value) (n : Nat) (cs : List Value) (u : Unit), WrM R w P mb s → RowS (Lo (P - 1)) w 147 7 v n cs → StAt (Lo (P - 1)) w t cs → blkL S (unc t) s = some (u, s') → Calls Tryz.prog 69 #[ptr P, v] w (LuP P R mb w s')
theorem blk_next {S : Tr → Lm Unit} {xs : List Tr} {i : Nat} {x : Tr} {si s' : Wr} {u : Unit} (hx : xs[i]? = some x) (ha : blkL S (xs.drop i) si = some (u, s')) : ∃ v s1, S x si = some (v, s1) ∧ blkL S (xs.drop (i + 1)) { s1 with u1 := 0, u2 := 0 } = some (u, s') := by
  have hlt := (List.getElem?_eq_some_iff.1 hx).1
  have e : xs.drop i = x :: xs.drop (i + 1) := by
    rw [List.drop_eq_getElem_cons hlt]
    congr 1
    have := List.getElem?_eq_getElem hlt
    rw [hx] at this
    exact (Option.some.inj this).symm
  rw [e] at ha
  obtain ⟨p, s1, h1, h2⟩ := zg ha
  obtain ⟨ps, s2, h3, h4⟩ := zg h2
  injection h3 with h3
  injection h3 with _ h3
  subst h3
  exact ⟨p, s1, h1, h4⟩
theorem block_of' {S : Tr → Lm Unit} (hS : SmC S) : BkC S := by
  intro R w P mb s s' t v n cs u h hr hs hb
  obtain ⟨hn, hmx, hv⟩ := st_row hr hs
  have HP : Hid (∀ W, Below (P - 1) w W → RowS (Lo (P - 1)) W 147 7 v n cs ∧ StAt (Lo (P - 1)) W t cs) := fun W hW => ⟨hr.kept (lo_kp hW) (by decide), StAt.kept (lo_kp hW) _ _ hs⟩
  have HN : Hid (n = (unc t).length) := hn
  have HS : Hid (∃ Rr si, WrM Rr w P mb si ∧ Lw P R Rr w w ∧ blkL S ((unc t).drop 0) si = some (u, s')) := ⟨R, s, h, Lw.refl _ _ _, hb⟩
  obtain ⟨G, hG⟩ : ∃ G, G = LuP P R mb w s' := ⟨_, rfl⟩
  have HG : Hid (G = LuP P R mb w s') := hG
  rw [← hG]
  have hvs : ∃ q c, v = .slice q n c := zd hr.1
  have HV : Hid (0 < n → ∃ g cap, v = .slice (some ⟨g, 0, none⟩) n cap ∧ n ≤ cap ∧ g < P - 1 ∧ ∀ i x, (unc t)[i]? = some x → StX P w g (i * 7) x) := fun h0 => by
    rcases hv with ⟨_, e⟩ | hv
    · omega
    · exact hv
  obtain ⟨qv, cv, rfl⟩ := hvs
  clear hG h hr hs hb hn hv
  go_enter Tryz.func69, Tryz.ntmps69
  go_wp2_with fail
  go_loopw [7] (fun v wr => ∃ i : Nat, i ≤ n ∧ v = .int .i64 i ∧ Hid (∃ Rr si, WrM Rr wr P mb si ∧ Lw P R Rr w wr ∧ blkL S ((unc t).drop i) si = some (u, s'))) (fun v _ => n - (intOf v).toNat)
  case atStart => exact ⟨0, Nat.zero_le _, rfl, HS⟩
  case round =>
    obtain ⟨i, hin, rfl, HI⟩ := hrel
    by_cases hlt : i < n
    · obtain ⟨g, cap, e, hcap, hgP, hel⟩ := HV.out (by omega)
      injection e with e1 e2 e3
      subst e1
      clear e2 e3
      obtain ⟨x, hxi⟩ : ∃ x, (unc t)[i]? = some x := ⟨(unc t)[i]'(by have := HN.out; omega), List.getElem?_eq_getElem _⟩
      obtain ⟨Rr, si, hm, hl, hbk⟩ := HI.out
      obtain ⟨y, s1, e1, e2⟩ := blk_next hxi hbk
      have HC : Hid (Calls Tryz.prog 108 #[ptr P, .pointer (some ⟨g, i * 7, none⟩)] wr (LuP P Rr mb wr s1)) := hS Rr wr P mb si s1 x g (i * 7) y hm ((hel i x hxi).on hl.bel) e1
      have HB : Hid (∀ w5 R5, WrM R5 w5 P mb s1 → Lw P Rr R5 wr w5 → ((∃ x6 x7 x8, w5.cell? ⟨P, 6, none⟩ = some x6 ∧ w5.cell? ⟨P, 7, none⟩ = some x7 ∧ w5.cell? ⟨P, 8, none⟩ = some x8) ∧ w5.frozen? ⟨P, 6, none⟩ = false ∧ w5.frozen? ⟨P, 7, none⟩ = false ∧ w5.frozen? ⟨P, 8, none⟩ = false) ∧ Hid (∃ Rr si, WrM Rr (((w5.setCell ⟨P, 6, none⟩ (.int .i64 0)).setCell ⟨P, 7, none⟩ (.int .i64 0)).setCell ⟨P, 8, none⟩ (.int .i64 0)) P mb si ∧ Lw P R Rr w (((w5.setCell ⟨P, 6, none⟩ (.int .i64 0)).setCell ⟨P, 7, none⟩ (.int .i64 0)).setCell ⟨P, 8, none⟩ (.int .i64 0)) ∧ blkL S ((unc t).drop (i + 1)) si = some (u, s'))) := fun w5 R5 k1 k2 => by
        obtain ⟨j1, j2⟩ := us_back (a := 0) (b := 0) k1 (hl.trans k2) (by omega) (by omega)
        obtain ⟨_, _, _, _, hh⟩ := k1
        exact ⟨⟨⟨_, _, _, z_ (i := 6) hh.blk rfl, z_ (i := 7) hh.blk rfl, z_ (i := 8) hh.blk rfl⟩, zb hh.blk 6, zb hh.blk 7, zb hh.blk 8⟩, R5, _, j1, j2, e2⟩
      clear hm hl hbk e1 e2 hel hxi
      go_wp2_with (go_at_call 108; fail)
      refine HC.out.mono ?_
      rintro e w5 ⟨rfl, R5, hm5, hl5⟩
      obtain ⟨⟨⟨x6, x7, x8, p6, p7, p8⟩, f6, f7, f8⟩, HI5⟩ := HB.out w5 R5 hm5 hl5
      clear hm5 hl5 HC HB
      go_wp2
      exact ⟨⟨i + 1, by omega, by go_num, HI5⟩, by simp [intOf]; omega⟩
    · obtain rfl : i = n := by omega
      obtain ⟨Rr, si, hm, hl, hbk⟩ := HI.out
      rw [List.drop_of_length_le (by have := HN.out; omega)] at hbk
      injection hbk with hbk
      injection hbk with h1 h2
      subst h2
      have HE : Hid (G (.returned (.tuple #[])) wr) := by show G _ _; rw [HG.out]; exact ⟨rfl, Rr, hm, hl⟩
      clear hm hl
      go_wp2
      go_end0
      exact HE.out
structure SmO (P : Nat) (w : World) (g o : Nat) (c : Int) (yn : ByteArray) (ix v th el : Tr) (vi vv : Option Addr) (qt : Option Addr) (nt ct : Nat) (qe : Option Addr) (ne ce' : Nat) : Prop where
  c0 : w.cell? ⟨g, o, none⟩ = some (.int .i64 c)
  c2 : w.cell? ⟨g, o + 2, none⟩ = some (.string yn)
  c3 : w.cell? ⟨g, o + 3, none⟩ = some (.pointer vi)
  c4 : w.cell? ⟨g, o + 4, none⟩ = some (.pointer vv)
  c5 : w.cell? ⟨g, o + 5, none⟩ = some (.slice qt nt ct)
  c6 : w.cell? ⟨g, o + 6, none⟩ = some (.slice qe ne ce')
  xi : ExAt (Lo (P - 1)) w ix (.pointer vi)
  xv : ExAt (Lo (P - 1)) w v (.pointer vv)
  rt : ∃ ts, RowS (Lo (P - 1)) w 147 7 (.slice qt nt ct) nt ts ∧ StAt (Lo (P - 1)) w th ts
  re : ∃ es, RowS (Lo (P - 1)) w 147 7 (.slice qe ne ce') ne es ∧ StAt (Lo (P - 1)) w el es
theorem StX.opn {P : Nat} {w : World} {g o : Nat} {t : Tr} (h : StX P w g o t) : ∃ (k1 k2 : IntKind) (c a : Int) (nm : By) (ix v th el : Tr) (vi vv : Option Addr) (qt : Option Addr) (nt ct : Nat) (qe : Option Addr) (ne ce' : Nat), t = stk k1 k2 c a nm ix v th el ∧ ∀ W, Below (P - 1) w W → SmO P W g o c ⟨nm.toArray⟩ ix v th el vi vv qt nt ct qe ne ce' := by
  obtain ⟨k1, k2, c, a, nm, ix, v, th, el, vi, vv, vt, ve, nt, ne, ts, es, e, h⟩ := h
  obtain ⟨-, -, -, h4, -, h6, -⟩ := h w (Below.refl _ _)
  obtain ⟨qt, ct, rfl⟩ := zd h4.1
  obtain ⟨qe, ce', rfl⟩ := zd h6.1
  refine ⟨k1, k2, c, a, nm, ix, v, th, el, vi, vv, qt, nt, ct, qe, ne, ce', e, fun W hW => ?_⟩
  obtain ⟨h1, h2, h3, h4, h5, h6, h7⟩ := h W hW
  exact ⟨h1.c0, h1.c2, h1.c3, h1.c4, h1.c5, h1.c6, h2, h3, ⟨_, h4, h5⟩, ⟨_, h6, h7⟩⟩
theorem add_4 {R : Nat → Nat} {w : World} {P mb : Nat} {s s' : Wr} {u : Unit} {l : Nat} (h : WrM R w P mb s) (hx : qU { ms0 with code := 4, label := (l : Int) } s = some (u, s')) : Calls Tryz.prog 70 #[ptr P, .agg #[.int .i64 4, .int .i64 0, .int .i64 0, .int .i64 0, .int .i64 0, .int .i64 0, .string ⟨#[]⟩, .int .i64 (l : Int), .string ⟨#[]⟩, .slice none 0 0]] w (LuP P R mb w s') := add_y 4 0 0 0 0 0 ⟨#[]⟩ (l : Int) ⟨#[]⟩ [] none 0 0 h (ArAt.none _ _) hx
theorem loop_of {F : Lf} {S : Tr → Lm Unit} (hU : UnC 215 F.U) (hB : BkC S) {R : Nat → Nat} {w : World} {P mb : Nat} {s s' : Wr} {g o : Nat} {c : Int} {yn : ByteArray} {ix v th el : Tr} {vi vv : Option Addr} {qt : Option Addr} {nt ct : Nat} {qe : Option Addr} {ne ce' : Nat} {u : Unit} (h : WrM R w P mb s) (hx : ∀ W, Below (P - 1) w W → SmO P W g o c yn ix v th el vi vv qt nt ct qe ne ce') (hl : loopL F S v (unc th) s = some (u, s')) :
    Calls Tryz.prog 165 #[ptr P, .pointer (some ⟨g, o, none⟩)] w (LuP P R mb w s') := by
  obtain ⟨la, s1, e1, hl⟩ := zg hl
  obtain ⟨le, s2, e2, hl⟩ := zg hl
  obtain ⟨u3, s3, e3, hl⟩ := zg hl
  obtain ⟨u4, s4, e4, hl⟩ := zg hl
  obtain ⟨u5, s5, e5, hl⟩ := zg hl
  obtain ⟨u6, s6, e6, e7⟩ := zg hl
  have HX : Hid (∀ W, Below (P - 1) w W → SmO P W g o c yn ix v th el vi vv qt nt ct qe ne ce') := hx
  have HC1 : Hid (Calls Tryz.prog 214 #[ptr P] w (LnP P R mb w (la : Int) s1)) := label_any h e1
  obtain ⟨G, hG⟩ : ∃ G, G = LuP P R mb w s' := ⟨_, rfl⟩
  have HG : Hid (G = LuP P R mb w s') := hG
  rw [← hG]
  clear hG h hx
  go_enter Tryz.func165, Tryz.ntmps165
  go_wp2_with (go_at_call 214; fail)
  refine HC1.out.mono ?_
  rintro e w1 ⟨rfl, R1, hm1, hl1⟩
  have HL1 : Hid (Lw P R R1 w w1) := hl1
  have HC2 : Hid (Calls Tryz.prog 214 #[ptr P] w1 (LnP P R1 mb w1 (le : Int) s2)) := label_any hm1 e2
  clear hm1 hl1 HC1
  go_wp2_with (go_at_call 214; fail)
  refine HC2.out.mono ?_
  rintro e w2 ⟨rfl, R2, hm2, hl2⟩
  have HL2 : Hid (Lw P R R2 w w2) := HL1.out.trans hl2
  have HC3 : Hid (Calls Tryz.prog 216 #[ptr P, .int .i64 (la : Int)] w2 (LuP P R2 mb w2 s3)) := put_any hm2 e3
  clear hm2 hl2 HC2
  go_wp2_with (go_at_call 216; fail)
  refine HC3.out.mono ?_
  rintro e w3 ⟨rfl, R3, hm3, hl3⟩
  have HL3 : Hid (Lw P R R3 w w3) := HL2.out.trans hl3
  have hO := HX.out w3 HL3.out.bel
  have c4 := hO.c4
  have HC4 : Hid (Calls Tryz.prog 215 #[ptr P, .pointer vv, .int .i64 (le : Int)] w3 (LuP P R3 mb w3 s4)) := hU R3 w3 P mb s3 s4 v _ le u4 hm3 hO.xv e4
  clear hm3 hl3 HC3 hO
  go_wp2_with (go_at_call 215; fail)
  clear c4
  refine HC4.out.mono ?_
  rintro e w4 ⟨rfl, R4, hm4, hl4⟩
  have HL4 : Hid (Lw P R R4 w w4) := HL3.out.trans hl4
  have hO := HX.out w4 HL4.out.bel
  have c5 := hO.c5
  obtain ⟨ts, k1, k2⟩ := hO.rt
  have HC5 : Hid (Calls Tryz.prog 69 #[ptr P, .slice qt nt ct] w4 (LuP P R4 mb w4 s5)) := hB R4 w4 P mb s4 s5 th _ nt ts u5 hm4 k1 k2 e5
  clear hm4 hl4 HC4 hO k1 k2
  go_wp2_with (go_at_call 69; fail)
  clear c5
  refine HC5.out.mono ?_
  rintro e w5 ⟨rfl, R5, hm5, hl5⟩
  have HL5 : Hid (Lw P R R5 w w5) := HL4.out.trans hl5
  have HC6 : Hid (Calls Tryz.prog 70 #[ptr P, .agg #[.int .i64 4, .int .i64 0, .int .i64 0, .int .i64 0, .int .i64 0, .int .i64 0, .string ⟨#[]⟩, .int .i64 (la : Int), .string ⟨#[]⟩, .slice none 0 0]] w5 (LuP P R5 mb w5 s6)) := add_4 hm5 e6
  clear hm5 hl5 HC5
  go_wp2_with (go_at_call 70; fail)
  refine HC6.out.mono ?_
  rintro e w6 ⟨rfl, R6, hm6, hl6⟩
  have HL6 : Hid (Lw P R R6 w w6) := HL5.out.trans hl6
  have HC7 : Hid (Calls Tryz.prog 216 #[ptr P, .int .i64 (le : Int)] w6 (LuP P R6 mb w6 s')) := put_any hm6 e7
  clear hm6 hl6 HC6
  go_wp2_with (go_at_call 216; fail)
  refine HC7.out.mono ?_
  rintro e w7 ⟨rfl, R7, hm7, hl7⟩
  have HE : Hid (G (.returned (.tuple #[])) w7) := by show G _ _; rw [HG.out]; exact ⟨rfl, R7, hm7, HL6.out.trans hl7⟩
  clear hm7 hl7
  go_wp2
  go_end0
  exact HE.out
theorem choice_of {F : Lf} {S : Tr → Lm Unit} (hU : UnC 215 F.U) (hB : BkC S) {R : Nat → Nat} {w : World} {P mb : Nat} {s s' : Wr} {g o : Nat} {c : Int} {yn : ByteArray} {ix v th el : Tr} {vi vv : Option Addr} {qt : Option Addr} {nt ct : Nat} {qe : Option Addr} {ne ce' : Nat} {u : Unit} (h : WrM R w P mb s) (hx : ∀ W, Below (P - 1) w W → SmO P W g o c yn ix v th el vi vv qt nt ct qe ne ce') (hl : choiceL F S v (unc th) (unc el) s = some (u, s')) :
    Calls Tryz.prog 164 #[ptr P, .pointer (some ⟨g, o, none⟩)] w (LuP P R mb w s') := by
  obtain ⟨lo, s1, e1, hl⟩ := zg hl
  obtain ⟨u2, s2, e2, hl⟩ := zg hl
  obtain ⟨u3, s3, e3, hl⟩ := zg hl
  have HX : Hid (∀ W, Below (P - 1) w W → SmO P W g o c yn ix v th el vi vv qt nt ct qe ne ce') := hx
  have hne : ne = (unc el).length := by
    obtain ⟨es, k1, k2⟩ := (hx w (Below.refl _ _)).re
    exact (st_row k1 k2).1
  have HC1 : Hid (Calls Tryz.prog 214 #[ptr P] w (LnP P R mb w (lo : Int) s1)) := label_any h e1
  obtain ⟨G, hG⟩ : ∃ G, G = LuP P R mb w s' := ⟨_, rfl⟩
  have HG : Hid (G = LuP P R mb w s') := hG
  have HNe : Hid (ne = (unc el).length) := hne
  rw [← hG]
  clear hG h hx
  have hcase : (ne = 0 ∧ putL lo s3 = some (u, s')) ∨ (0 < ne ∧ ∃ le s4 u5 s5 u6 s6 u7 s7, qR s3 = some (le, s4) ∧ qU { ms0 with code := 4, label := (le : Int) } s4 = some (u5, s5) ∧ putL lo s5 = some (u6, s6) ∧ blkL S (unc el) s6 = some (u7, s7) ∧ putL le s7 = some (u, s')) := by
    split at hl
    · rename_i he
      exact .inl ⟨by rw [hne, he]; rfl, hl⟩
    · rename_i he
      obtain ⟨le, s4, k1, hl⟩ := zg hl
      obtain ⟨u5, s5, k2, hl⟩ := zg hl
      obtain ⟨u6, s6, k3, hl⟩ := zg hl
      obtain ⟨u7, s7, k4, k5⟩ := zg hl
      exact .inr ⟨by rw [hne]; exact List.length_pos_iff.2 he, le, s4, u5, s5, u6, s6, u7, s7, k1, k2, k3, k4, k5⟩
  clear hl hne
  rcases hcase with ⟨rfl, e4⟩ | ⟨hpos, le, s4, u5, s5, u6, s6, u7, s7, e4, e5, e6, e7, e8⟩
  · go_enter Tryz.func164, Tryz.ntmps164
    go_wp2_with (go_at_call 214; fail)
    refine HC1.out.mono ?_
    rintro e w1 ⟨rfl, R1, hm1, hl1⟩
    have HL1 : Hid (Lw P R R1 w w1) := hl1
    have hO := HX.out w1 HL1.out.bel
    have c4 := hO.c4
    have HC2 : Hid (Calls Tryz.prog 215 #[ptr P, .pointer vv, .int .i64 (lo : Int)] w1 (LuP P R1 mb w1 s2)) := hU R1 w1 P mb s1 s2 v _ lo u2 hm1 hO.xv e2
    clear hm1 hl1 HC1 hO
    go_wp2_with (go_at_call 215; fail)
    clear c4
    refine HC2.out.mono ?_
    rintro e w2 ⟨rfl, R2, hm2, hl2⟩
    have HL2 : Hid (Lw P R R2 w w2) := HL1.out.trans hl2
    have hO := HX.out w2 HL2.out.bel
    have c5 := hO.c5
    obtain ⟨ts, k1, k2⟩ := hO.rt
    have HC3 : Hid (Calls Tryz.prog 69 #[ptr P, .slice qt nt ct] w2 (LuP P R2 mb w2 s3)) := hB R2 w2 P mb s2 s3 th _ nt ts u3 hm2 k1 k2 e3
    clear hm2 hl2 HC2 hO k1 k2
    go_wp2_with (go_at_call 69; fail)
    clear c5
    refine HC3.out.mono ?_
    rintro e w3 ⟨rfl, R3, hm3, hl3⟩
    have HL3 : Hid (Lw P R R3 w w3) := HL2.out.trans hl3
    have c6 := (HX.out w3 HL3.out.bel).c6
    have HC4 : Hid (Calls Tryz.prog 216 #[ptr P, .int .i64 (lo : Int)] w3 (LuP P R3 mb w3 s')) := put_any hm3 e4
    clear hm3 hl3 HC3
    go_wp2_with (go_at_call 216; fail)
    clear c6
    refine HC4.out.mono ?_
    rintro e w4 ⟨rfl, R4, hm4, hl4⟩
    have HE : Hid (G (.returned (.tuple #[])) w4) := by show G _ _; rw [HG.out]; exact ⟨rfl, R4, hm4, HL3.out.trans hl4⟩
    clear hm4 hl4
    go_wp2
    go_end0
    exact HE.out
  · have hpos' : (0 : Int) < (ne : Int) := by omega
    go_enter Tryz.func164, Tryz.ntmps164
    go_wp2_with (go_at_call 214; fail)
    refine HC1.out.mono ?_
    rintro e w1 ⟨rfl, R1, hm1, hl1⟩
    have HL1 : Hid (Lw P R R1 w w1) := hl1
    have hO := HX.out w1 HL1.out.bel
    have c4 := hO.c4
    have HC2 : Hid (Calls Tryz.prog 215 #[ptr P, .pointer vv, .int .i64 (lo : Int)] w1 (LuP P R1 mb w1 s2)) := hU R1 w1 P mb s1 s2 v _ lo u2 hm1 hO.xv e2
    clear hm1 hl1 HC1 hO
    go_wp2_with (go_at_call 215; fail)
    clear c4
    refine HC2.out.mono ?_
    rintro e w2 ⟨rfl, R2, hm2, hl2⟩
    have HL2 : Hid (Lw P R R2 w w2) := HL1.out.trans hl2
    have hO := HX.out w2 HL2.out.bel
    have c5 := hO.c5
    obtain ⟨ts, k1, k2⟩ := hO.rt
    have HC3 : Hid (Calls Tryz.prog 69 #[ptr P, .slice qt nt ct] w2 (LuP P R2 mb w2 s3)) := hB R2 w2 P mb s2 s3 th _ nt ts u3 hm2 k1 k2 e3
    clear hm2 hl2 HC2 hO k1 k2
    go_wp2_with (go_at_call 69; fail)
    clear c5
    refine HC3.out.mono ?_
    rintro e w3 ⟨rfl, R3, hm3, hl3⟩
    have HL3 : Hid (Lw P R R3 w w3) := HL2.out.trans hl3
    have c6 := (HX.out w3 HL3.out.bel).c6
    have HC4 : Hid (Calls Tryz.prog 214 #[ptr P] w3 (LnP P R3 mb w3 (le : Int) s4)) := label_any hm3 e4
    clear hm3 hl3 HC3
    go_wp2_with (go_at_call 214; fail)
    clear c6
    refine HC4.out.mono ?_
    rintro e w4 ⟨rfl, R4, hm4, hl4⟩
    have HL4 : Hid (Lw P R R4 w w4) := HL3.out.trans hl4
    have HC5 : Hid (Calls Tryz.prog 70 #[ptr P, .agg #[.int .i64 4, .int .i64 0, .int .i64 0, .int .i64 0, .int .i64 0, .int .i64 0, .string ⟨#[]⟩, .int .i64 (le : Int), .string ⟨#[]⟩, .slice none 0 0]] w4 (LuP P R4 mb w4 s5)) := add_4 hm4 e5
    clear hm4 hl4 HC4
    go_wp2_with (go_at_call 70; fail)
    refine HC5.out.mono ?_
    rintro e w5 ⟨rfl, R5, hm5, hl5⟩
    have HL5 : Hid (Lw P R R5 w w5) := HL4.out.trans hl5
    have HC6 : Hid (Calls Tryz.prog 216 #[ptr P, .int .i64 (lo : Int)] w5 (LuP P R5 mb w5 s6)) := put_any hm5 e6
    clear hm5 hl5 HC5
    go_wp2_with (go_at_call 216; fail)
    refine HC6.out.mono ?_
    rintro e w6 ⟨rfl, R6, hm6, hl6⟩
    have HL6 : Hid (Lw P R R6 w w6) := HL5.out.trans hl6
    have hO := HX.out w6 HL6.out.bel
    have c6 := hO.c6
    obtain ⟨es, k1, k2⟩ := hO.re
    have HC7 : Hid (Calls Tryz.prog 69 #[ptr P, .slice qe ne ce'] w6 (LuP P R6 mb w6 s7)) := hB R6 w6 P mb s6 s7 el _ ne es u7 hm6 k1 k2 e7
    clear hm6 hl6 HC6 hO k1 k2
    go_wp2_with (go_at_call 69; fail)
    clear c6
    refine HC7.out.mono ?_
    rintro e w7 ⟨rfl, R7, hm7, hl7⟩
    have HL7 : Hid (Lw P R R7 w w7) := HL6.out.trans hl7
    have HC8 : Hid (Calls Tryz.prog 216 #[ptr P, .int .i64 (le : Int)] w7 (LuP P R7 mb w7 s')) := put_any hm7 e8
    clear hm7 hl7 HC7
    go_wp2_with (go_at_call 216; fail)
    refine HC8.out.mono ?_
    rintro e w8 ⟨rfl, R8, hm8, hl8⟩
    have HE : Hid (G (.returned (.tuple #[])) w8) := by show G _ _; rw [HG.out]; exact ⟨rfl, R8, hm8, HL7.out.trans hl8⟩
    clear hm8 hl8
    go_wp2
    go_end0
    exact HE.out
def Kn {α : Type} (x : Lm α) : Prop := ∀ s a s', x s = some (a, s') → s'.nm = s.nm
theorem zH {α β : Type} {x : Lm α} {f : α → Lm β} (hx : Kn x) (hf : ∀ a, Kn (f a)) : Kn (lb x f) := fun s b s' h => by
  obtain ⟨a, s1, h1, h2⟩ := zg h
  exact (hf a s1 b s' h2).trans (hx s a s1 h1)
theorem kn_lp {α : Type} (a : α) : Kn (lp a) := fun s b s' h => by injection h with h; injection h with _ h; rw [h]
theorem kn_ln {α : Type} : Kn (ln : Lm α) := fun s b s' h => by cases h
theorem kn_add (x : Ms) : Kn (qU x) := fun s b s' h => by obtain ⟨_, _, rfl⟩ := addL_some h; rfl
theorem kn_take (k : Int) : Kn (takeL k) := fun s b s' h => by
  unfold takeL at h
  split at h
  · rcases take2_some h with ⟨_, _, _, rfl⟩ | ⟨_, _, rfl⟩ <;> rfl
  · split at h
    · rcases take1_some h with ⟨_, _, _, rfl⟩ | ⟨_, _, rfl⟩ <;> rfl
    · cases h
theorem kn_take1 : Kn take1 := fun s b s' h => by rcases take1_some h with ⟨_, _, _, rfl⟩ | ⟨_, _, rfl⟩ <;> rfl
theorem kn_setU (a b : Nat) : Kn (setU a b) := fun s x s' h => by injection h with h; injection h with _ h; rw [← h]
theorem kn_zero : Kn zeroL := fun s b s' h => by
  unfold zeroL at h
  split at h
  · injection h with h; injection h with _ h; rw [h]
  · split at h
    · injection h with h; injection h with _ h; rw [← h]
    · cases h
theorem kn_label : Kn qR := fun s b s' h => by obtain ⟨_, _, rfl⟩ := labelL_some h; rfl
theorem kn_name (x : By) : Kn (nameL x) := fun s b s' h => by
  unfold nameL at h
  split at h
  · injection h with h; injection h with _ h; rw [h]
  · cases h
theorem kn_kind (c : Int) (x : By) : Kn (kindL c x) := fun s b s' h => by obtain ⟨rfl, _⟩ := kindL_some h; rfl
theorem kn_fin (x : Ms) (p : Nat) : Kn (finL x p) := by
  unfold finL
  split
  · exact kn_lp _
  · exact zH (kn_add _) fun _ => kn_lp _
theorem kn_args {V : Tr → Lm Nat} (hV : ∀ t, Kn (V t)) : ∀ xs, Kn (argsL V xs)
  | [] => kn_lp _
  | x :: xs => zH (hV x) fun _ => zH (kn_args hV xs) fun _ => kn_lp _
structure KnF (F : Lf) : Prop where
  V : ∀ t, Kn (F.V t)
  L : ∀ t, Kn (F.L t)
  U : ∀ t e, Kn (F.U t e)
  W : ∀ t e, Kn (F.W t e)
theorem kn_val {F : Lf} (h : KnF F) (t : Tr) : Kn (valL F t) := by
  unfold valL
  split
  · split
    · exact kn_name _
    · exact fun s => (zH (h.L _) fun _ => zH (kn_setU s.u1 s.u2) fun _ => zH (kn_kind _ _) fun _ => zH (kn_take _) fun _ => kn_fin _ _) s
  · exact kn_ln
theorem kn_las {F : Lf} (h : KnF F) (t : Tr) : Kn (lasK F t) := by
  unfold lasK
  split
  · unfold lasL
    split
    · split
      · exact zH (kn_name _) fun _ => kn_lp _
      split
      · unfold twoL
        split
        · exact zH kn_take1 fun _ => zH kn_label fun _ => zH (kn_add _) fun _ => zH (h.U _ _) fun _ => zH (kn_add _) fun _ => zH (kn_add _) fun _ => kn_lp _
        · exact zH (h.V _) fun _ => zH (h.V _) fun _ => kn_lp _
      split
      · exact zH (h.V _) fun _ => zH kn_zero fun _ => kn_lp _
      split
      · exact zH (kn_args h.V _) fun _ => kn_lp _
      split
      · exact zH (h.V _) fun _ => kn_lp _
      split
      · exact zH (h.V _) fun _ => kn_lp _
      split
      · exact zH (h.V _) fun _ => zH (h.V _) fun _ => kn_lp _
      split
      · exact kn_lp _
      · exact kn_lp _
    · exact kn_ln
  · exact kn_ln
theorem kn_unl {F : Lf} (h : KnF F) (t : Tr) (e : Nat) : Kn (unlL F t e) := by
  unfold unlL
  split
  · refine fun s => (zH ?_ fun _ => kn_setU s.u1 s.u2) s
    split
    · exact h.W _ _
    split
    · exact zH (h.U _ _) fun _ => h.U _ _
    split
    · exact zH kn_label fun _ => zH (h.W _ _) fun _ => zH (h.U _ _) fun _ => kn_add _
    · exact zH (h.V _) fun _ => kn_add _
  · exact kn_ln
theorem kn_whn {F : Lf} (h : KnF F) (t : Tr) (e : Nat) : Kn (whnL F t e) := by
  unfold whnL
  split
  · refine fun s => (zH ?_ fun _ => kn_setU s.u1 s.u2) s
    split
    · exact h.U _ _
    split
    · exact zH (h.W _ _) fun _ => h.W _ _
    split
    · exact zH kn_label fun _ => zH (h.U _ _) fun _ => zH (h.W _ _) fun _ => kn_add _
    · exact zH (h.V _) fun _ => zH (kn_setU _ _) fun _ => zH kn_take1 fun _ => zH kn_zero fun _ => zH (kn_add _) fun _ => kn_add _
  · exact kn_ln
theorem kn_all : ∀ g, KnF (lwK g)
  | 0 => ⟨fun _ => kn_ln, fun _ => kn_ln, fun _ _ => kn_ln, fun _ _ => kn_ln⟩
  | g + 1 => ⟨kn_val (kn_all g), kn_las (kn_all g), kn_unl (kn_all g), kn_whn (kn_all g)⟩
theorem gr_belo {B : Nat} {w w' : World} {row : Option Nat} (h : w.grownBy w' row) (hB : B ≤ w.heap.size) (hr : ∀ k, row = some k → B ≤ k) : Below B w w' :=
  ⟨h.os, h.tape, h.output, h.size, fun b hb => h.block b (by omega) (fun e => by have := hr b e.symm; omega)⟩
theorem Wc.bind {R : Nat → Nat} {w : World} {P mb : Nat} {tv sv v1 v2 : Value} {s : Wr} (h : Wc R w P mb tv sv v1 v2 s) (x : By) (p : Nat) (hx : x.length ≤ 1000) (hn : s.nm.length < 100000) (hp : p < 100000) : ∃ w', (Instr.mapUpdate 92 (.map (some mb)) (.string ⟨x.toArray⟩) (.int .i64 (p : Int))).run Tryz.prog w = .ok () w' ∧ Wc R w' P mb tv sv v1 v2 { s with nm := (x, p) :: s.nm } ∧ Lw P R R w w' := by
  obtain ⟨n, m1, m2⟩ := h.m
  have hk : keyOf Tryz.prog 9 (.string ⟨x.toArray⟩) = some (.string x) := by
    have := key_s ⟨x.toArray⟩ (by simp [ByteArray.size]; omega)
    simpa using this
  obtain ⟨w', hr, hm, hg⟩ := m1.put kdS und92 (by omega) hk trivial (.int .i64 (p : Int)) (g := nmF ((x, p) :: s.nm)) (by show (((x, p) :: s.nm).lookup x).map _ = _; simp [List.lookup]) (fun y hy => by
    cases y with
    | string z =>
      have hz : z ≠ x := fun e => hy (by rw [e])
      show (((x, p) :: s.nm).lookup z).map _ = (s.nm.lookup z).map _
      have : (z == x) = false := by simpa using hz
      simp [List.lookup, this]
    | _ => rfl)
  have hPm : P - 1 ≤ mb := (h.lo mb (by rw [h.rm]; omega)).1
  have hb : Below (P - 1) w w' := gr_belo hg (by have := h.ltP; omega) (fun k e => by have e2 : mb = k := Option.some.inj e; omega)
  obtain ⟨hl, a1, a2, a3, a4, a5⟩ := h.part (r := 5) (R' := R) (w' := w') (fun b hb h1 _ => hg.block b hb (fun e => h1 (by have e2 : b = mb := Option.some.inj e; rw [e2]; exact h.rm))) (fun _ _ => rfl) (by omega) hb
  have hP : w'.heap[P]? = w.heap[P]? := hg.block P h.ltP (fun e => by have e2 : P = mb := Option.some.inj e; have h1 := h.rP; have h2 := h.rm; rw [← e2] at h2; omega)
  refine ⟨w', hr, ⟨hP.trans h.blk, a1 (by omega), a2 (by omega), a3 (by omega), a4 (by omega), ⟨_, hm, ?_⟩, h.rP, h.rt, h.rs, h.r1, h.r2, h.rm, fun b hb' => ⟨(h.lo b hb').1, Nat.lt_of_lt_of_le (h.lo b hb').2 hb.size⟩, ?_⟩, hl⟩
  · show _ ≤ ((x, p) :: s.nm).length
    simp only [List.length_cons]
    split <;> omega
  · have ho := h.ok
    exact ⟨ho.ts, ho.ss, ho.p1, ho.p2, by show ((x, p) :: s.nm).length ≤ 100000; simp only [List.length_cons]; omega, ho.lb, ho.u1, ho.u2, ho.oks, ho.okt, ho.s1, ho.s2, ho.no, fun y hy => by
      rcases List.mem_cons.1 hy with rfl | hy
      · exact hp
      · exact ho.nms y hy⟩
theorem bindL_some {x : By} {p : Nat} {s s' : Wr} {u : Unit} (h : bindL x p s = some (u, s')) : s.nm.length < 100000 ∧ x.length ≤ 1000 ∧ p < 100000 ∧ s' = { s with nm := (x, p) :: s.nm } := by
  unfold bindL at h
  split at h
  · rename_i hc
    injection h with h
    injection h with _ h
    exact ⟨hc.1, hc.2.1, hc.2.2, h.symm⟩
  · cases h
theorem nameL_some {x : By} {s s' : Wr} {p : Nat} (h : nameL x s = some (p, s')) : x.length ≤ 1000 ∧ p = nmG s.nm x ∧ s' = s := by
  unfold nameL at h
  split at h
  · rename_i hn
    injection h with h
    injection h with h1 h2
    exact ⟨hn, h1.symm, h2.symm⟩
  · cases h
theorem kindT_any {R : Nat → Nat} {w : World} {P mb : Nat} {s s' : Wr} {t : Tr} {v : Value} {k : Int} (h : WrM R w P mb s) (hx : ExAt (Lo (P - 1)) w t v) (hk : kindT t s = some (k, s')) : Calls Tryz.prog 161 #[ptr P, v] w (LnP P R mb w k s') ∧ s' = s := by
  unfold kindT at hk
  split at hk
  · obtain ⟨rfl, _⟩ := kindL_some hk
    exact ⟨kind_any h hx hk, rfl⟩
  · cases hk
end Go.Proofs.YtnfhpdbbfejioaaGreatDoor.Mid
