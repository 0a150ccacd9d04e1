/- XB XC -/
import Derived.Test.YtnfhpdbbfejioaaGreatDoorQ14
namespace Go.Proofs.YtnfhpdbbfejioaaGreatDoor
set_option linter.unusedVariables false
set_option linter.unusedSimpArgs false
open Go
def hpc (t : Tr) (k : Nat) (s : List Pc) : List Pc := if k ≤ zK t then s else fx [40] :: (s ++ [fx [41]])
def sepc : Tr → List Pc
 | .slice [] [] => []
 | _ => [fx [44], bl 32]
def pcE : Tr → List Pc
 | .agg [.lit (.int _ c), .lit (.int _ _), .lit (.int _ n), .lit (.string nm), .lit (.string op), l, r, g] =>
  if c = 1 then [⟨2, Lib.itoa n⟩]
  else if c = 2 then [⟨0, nm⟩]
  else if c = 3 then hpc l (zi op) (pcE l) ++ ([bl 32, fx op, bl 32] ++ hpc r (zi op + 1) (pcE r))
  else if c = 4 then fx op :: hpc l 7 (pcE l)
  else if c = 5 then ⟨0, nm⟩ :: fx [40] :: (pcE g ++ [fx [41]])
  else if c = 6 then fx [110, 101, 119] :: fx [40] :: (pcE l ++ [fx [41]])
  else if c = 7 then fx [108, 101, 110] :: fx [40] :: (pcE l ++ [fx [41]])
  else if c = 9 then [fx [105, 110, 112, 117, 116], fx [40], fx [41]]
  else if c = 8 then hpc l 8 (pcE l) ++ (fx [91] :: (pcE r ++ [fx [93]]))
  else []
 | .slice [x] [g] => pcE x ++ (sepc g ++ pcE g)
 | _ => []
theorem pc_1 (a n : Int) (nm op : By) (l r g : Tr) : pcE (nd 1 a n nm op l r g) = [⟨2, Lib.itoa n⟩] := by rw [pcE]; simp
theorem pc_2 (a n : Int) (nm op : By) (l r g : Tr) : pcE (nd 2 a n nm op l r g) = [⟨0, nm⟩] := by rw [pcE]; simp
theorem pc_3 (a n : Int) (nm op : By) (l r g : Tr) : pcE (nd 3 a n nm op l r g) = hpc l (zi op) (pcE l) ++ ([bl 32, fx op, bl 32] ++ hpc r (zi op + 1) (pcE r)) := by rw [pcE]; simp
theorem pc_4 (a n : Int) (nm op : By) (l r g : Tr) : pcE (nd 4 a n nm op l r g) = fx op :: hpc l 7 (pcE l) := by rw [pcE]; simp
theorem pc_5 (a n : Int) (nm op : By) (l r g : Tr) : pcE (nd 5 a n nm op l r g) = ⟨0, nm⟩ :: fx [40] :: (pcE g ++ [fx [41]]) := by rw [pcE]; simp
theorem pc_6 (a n : Int) (nm op : By) (l r g : Tr) : pcE (nd 6 a n nm op l r g) = fx [110, 101, 119] :: fx [40] :: (pcE l ++ [fx [41]]) := by rw [pcE]; simp
theorem pc_7 (a n : Int) (nm op : By) (l r g : Tr) : pcE (nd 7 a n nm op l r g) = fx [108, 101, 110] :: fx [40] :: (pcE l ++ [fx [41]]) := by rw [pcE]; simp
theorem pc_8 (a n : Int) (nm op : By) (l r g : Tr) : pcE (nd 8 a n nm op l r g) = hpc l 8 (pcE l) ++ (fx [91] :: (pcE r ++ [fx [93]])) := by rw [pcE]; simp
theorem pc_9 (a n : Int) (nm op : By) (l r g : Tr) : pcE (nd 9 a n nm op l r g) = [fx [105, 110, 112, 117, 116], fx [40], fx [41]] := by rw [pcE]; simp
theorem pc_cc (x g : Tr) : pcE (cc x g) = pcE x ++ (sepc g ++ pcE g) := by rw [pcE]
theorem pc_ce : pcE ce = [] := by simp [pcE]
def up (t : Tr) (k : Nat) : Nat := if k ≤ zK t then 0 else 1
def RE : Nat → Nat → Tr → Prop
 | 0, _, _ => False
 | f + 1, d, t => d ≤ 12 ∧
  ((∃ (a n : Int), 0 ≤ n ∧ n ≤ 9223372036854775807 ∧ t = nd 1 a n [] [] .nil .nil ce) ∨
   (∃ (a : Int) (nm : By), Nam nm ∧ t = nd 2 a 0 nm [] .nil .nil ce) ∨
   (∃ (a : Int) (op : By) (l r : Tr), 1 ≤ zi op ∧ RE f (d + up l (zi op)) l ∧ RE f (d + up r (zi op + 1)) r ∧ t = nd 3 a 0 [] op l r ce) ∨
   (∃ (a : Int) (op : By) (l : Tr), (op = [45] ∨ op = [33]) ∧ RE f (d + 1 + up l 7) l ∧ t = nd 4 a 0 [] op l .nil ce) ∨
   (∃ (a : Int) (nm : By) (xs : List Tr), Nam nm ∧ (∀ x ∈ xs, RE f (d + 1) x) ∧ t = nd 5 a 0 nm [] .nil .nil (chain xs)) ∨
   (∃ (a : Int) (l : Tr), RE f (d + 1) l ∧ t = nd 6 a 0 [] [] l .nil ce) ∨
   (∃ (a : Int) (l : Tr), RE f (d + 1) l ∧ t = nd 7 a 0 [] [] l .nil ce) ∨
   (∃ (a : Int) (l r : Tr), RE f (d + up l 8) l ∧ RE f (d + 1) r ∧ t = nd 8 a 0 [] [] l r ce) ∨
   (∃ (a : Int), t = nd 9 a 0 [] [] .nil .nil ce))
theorem qY : ∀ (f f' d d' : Nat) (t : Tr), f ≤ f' → d' ≤ d → RE f d t → RE f' d' t
 | 0, _, _, _, _, _, _, h => h.elim
 | f + 1, 0, _, _, _, hf, _, _ => by omega
 | f + 1, f' + 1, d, d', t, hf, hd, h => by
  have ih : ∀ (d d' : Nat) (t : Tr), d' ≤ d → RE f d t → RE f' d' t := fun d d' t h1 h2 => qY f f' d d' t (by omega) h1 h2
  rw [RE] at h ⊢
  obtain ⟨h12, h⟩ := h
  refine ⟨by omega, ?_⟩
  rcases h with h | h | ⟨a, op, l, r, h1, h2, h3, e⟩ | ⟨a, op, l, h1, h2, e⟩ | ⟨a, nm, xs, h1, h2, e⟩ | ⟨a, l, h2, e⟩ | ⟨a, l, h2, e⟩ | ⟨a, l, r, h2, h3, e⟩ | h
  ·exact .inl h
  ·exact .inr (.inl h)
  ·exact .inr (.inr (.inl ⟨a, op, l, r, h1, ih _ _ _ (by omega) h2, ih _ _ _ (by omega) h3, e⟩))
  ·exact .inr (.inr (.inr (.inl ⟨a, op, l, h1, ih _ _ _ (by omega) h2, e⟩)))
  ·exact .inr (.inr (.inr (.inr (.inl ⟨a, nm, xs, h1, fun x hx => ih _ _ _ (by omega) (h2 x hx), e⟩))))
  ·exact .inr (.inr (.inr (.inr (.inr (.inl ⟨a, l, ih _ _ _ (by omega) h2, e⟩)))))
  ·exact .inr (.inr (.inr (.inr (.inr (.inr (.inl ⟨a, l, ih _ _ _ (by omega) h2, e⟩))))))
  ·exact .inr (.inr (.inr (.inr (.inr (.inr (.inr (.inl ⟨a, l, r, ih _ _ _ (by omega) h2, ih _ _ _ (by omega) h3, e⟩)))))))
  ·exact .inr (.inr (.inr (.inr (.inr (.inr (.inr (.inr h)))))))
theorem re_le {f d : Nat} {t : Tr} (h : RE f d t) : d ≤ 12 := by
 cases f with
 | zero => exact h.elim
 | succ f => rw [RE] at h; exact h.1
theorem re_nd {f d : Nat} {t : Tr} (h : RE f d t) : ∃ c a n nm op l r g, t = nd c a n nm op l r g := by
 cases f with
 | zero => exact h.elim
 | succ f =>
  rw [RE] at h
  rcases h.2 with ⟨a, n, _, _, e⟩ | ⟨a, nm, _, e⟩ | ⟨a, op, l, r, h1, h2, h3, e⟩ | ⟨a, op, l, h1, h2, e⟩ | ⟨a, nm, xs, h1, h2, e⟩ | ⟨a, l, h2, e⟩ | ⟨a, l, h2, e⟩ | ⟨a, l, r, h2, h3, e⟩ | ⟨a, e⟩ <;> exact ⟨_, _, _, _, _, _, _, _, e⟩
theorem hold_re {f d : Nat} {t : Tr} (h : RE f d t) (k : Nat) (s : By) : zJ t k s = if k ≤ zK t then s else [40] ++ s ++ [41] := by
 obtain ⟨c, a, n, nm, op, l, r, g, rfl⟩ := re_nd h
 rfl
theorem near_pair {m : By} (h : 1 ≤ zi m) : ∃ x ∈ pairsL, x.1 = m ∧ zi m = x.2 := by
 unfold zi at h ⊢
 cases hf : pairsL.find? (·.1 == m) with
 | none => rw [hf] at h; simp at h
 | some x => exact ⟨x, List.mem_of_find?_eq_some hf, by simpa using List.find?_some hf, by simp⟩
theorem near_mark {m : By} (h : 1 ≤ zi m) : m ∈ marksL ∧ zi m ≤ 6 ∧ alnum.contains (m.headD 0) = false := by
 obtain ⟨x, hx, e1, e2⟩ := near_pair h
 have : ∀ x ∈ pairsL, x.1 ∈ marksL ∧ x.2 ≤ 6 ∧ alnum.contains (x.1.headD 0) = false := by decide
 rw [e2, ← e1]
 exact this x hx
theorem dec_dig : ∀ (k u : Nat), u < k → ∀ c ∈ Lib.decDigits u, digs.contains c = true
 | 0, u, h, _, _ => by omega
 | k + 1, u, h, c, hc => by
  have hd : ∀ i, i < 10 → digs.contains (UInt8.ofNat (48 + i)) = true := by decide
  rw [Lib.decDigits] at hc
  split at hc
  ·rename_i h10
   simp only [List.mem_singleton] at hc
   subst hc
   exact hd u h10
  ·simp only [List.mem_append, List.mem_singleton] at hc
   rcases hc with hc | hc
   ·exact dec_dig k (u / 10) (by omega) c hc
   ·subst hc
    exact hd _ (Nat.mod_lt _ (by omega))
theorem itoa_dig {n : Int} (h : 0 ≤ n) : Dig (Lib.itoa n) := by
 unfold Lib.itoa
 rw [if_neg (by omega)]
 refine ⟨?_, dec_dig _ _ (Nat.lt_succ_self _)⟩
 rw [Lib.decDigits]
 split <;> simp
def Fst (p : Pc) : Prop := (p.k = 0 ∧ Nam p.w) ∨ (p.k = 2 ∧ Dig p.w) ∨ (p.k = 1 ∧ p.w ∈ [[45], [33], [40], [110, 101, 119], [108, 101, 110], [105, 110, 112, 117, 116]])
structure Fa (q : List Pc) (s : By) : Prop where
 fst : ∃ p r, q = p :: r ∧ Fst p
 ok : ∀ x ∈ q, PcOk x
 sep : ∀ c, alnum.contains c = false → Sep c q = true
 tx : txt q = s
structure Fb (q : List Pc) (s : By) : Prop where
 ok : ∀ x ∈ q, PcOk x
 sep : ∀ c, alnum.contains c = false → Sep c q = true
 tx : txt q = s
theorem fst_head {p : Pc} (h : Fst p) : p.k ≠ 9 ∧ p.w ≠ [] ∧ p.w.headD 32 ≠ 61 := by
 have al : ∀ w : By, w ≠ [] → (∀ c ∈ w, alnum.contains c = true) → w ≠ [] ∧ w.headD 32 ≠ 61 := fun w a b => by
  refine ⟨a, ?_⟩
  cases w with
  | nil => exact absurd rfl a
  | cons x w =>
   intro e
   have e' : x = 61 := e
   have := b x (by simp)
   rw [e'] at this
   revert this
   decide
 rcases h with ⟨h1, h2⟩ | ⟨h1, h2⟩ | ⟨h1, h2⟩
 ·exact ⟨by omega, al _ h2.1 h2.2.1⟩
 ·refine ⟨by omega, al _ h2.1 fun c hc => ?_⟩
  have : alnum.contains c = (lets.contains c || digs.contains c) := by simp only [alnum, List.contains_eq_any_beq, List.any_append]
  rw [this, h2.2 c hc, Bool.or_true]
 ·refine ⟨by omega, ?_⟩
  have : ∀ w ∈ ([[45], [33], [40], [110, 101, 119], [108, 101, 110], [105, 110, 112, 117, 116]] : List By), w ≠ [] ∧ w.headD 32 ≠ 61 := by decide
  exact this _ h2
theorem Fa.fb {q : List Pc} {s : By} (h : Fa q s) (c : UInt8) : fb c q ≠ 61 := by
 obtain ⟨p, r, rfl, hp⟩ := h.fst
 have := fst_head hp
 rw [YtnfhpdbbfejioaaGreatDoor.fb, if_neg this.1]
 exact this.2.2
theorem Fa.b {q : List Pc} {s : By} (h : Fa q s) : Fb q s := ⟨h.ok, h.sep, h.tx⟩
theorem okm (x : By) (h : x ∈ marksL) : PcOk (fx x) := .inr (.inr (.inr (.inr ⟨rfl, h⟩)))
theorem okw (x : By) (h : x ∈ wordsL) : PcOk (fx x) := .inr (.inr (.inr (.inl ⟨rfl, h⟩)))
theorem ok32 : PcOk (bl 32) := .inl ⟨rfl, .inl rfl⟩
theorem ok10 : PcOk (bl 10) := .inl ⟨rfl, .inr rfl⟩
theorem ok1_any (x : By) (c : UInt8) (h : alnum.contains (x.headD 0) = false ∧ [[60], [62], [61], [33]].contains x = false) : ok1 (fx x) c = true := by
 unfold ok1
 rw [if_neg (by rw [h.1]; simp), if_neg (by rw [h.2]; simp)]
 simp
theorem ok1_al (p : Pc) (c : UInt8) (h : alnum.contains (p.w.headD 0) = true) (hc : alnum.contains c = false) : ok1 p c = true := by
 unfold ok1
 rw [if_pos h, hc]
 simp
theorem nam_al {w : By} (h : Nam w) : alnum.contains (w.headD 0) = true := by
 obtain ⟨a, b, _⟩ := h
 cases w with
 | nil => exact absurd rfl a
 | cons x w => exact b x (by simp)
theorem dig_al {w : By} (h : Dig w) : alnum.contains (w.headD 0) = true := by
 obtain ⟨a, b⟩ := h
 cases w with
 | nil => exact absurd rfl a
 | cons x w =>
  have : alnum.contains x = (lets.contains x || digs.contains x) := by simp only [alnum, List.contains_eq_any_beq, List.any_append]
  show alnum.contains x = true
  rw [this, b x (by simp), Bool.or_true]
theorem sep_one (p : Pc) (c : UInt8) (h : ok1 p c = true) : Sep c [p] = true := by
 rw [Sep, Sep, Bool.and_true]
 exact h
theorem zZ (p : Pc) (q : List Pc) (c : UInt8) (h1 : ok1 p (fb c q) = true) (h2 : Sep c q = true) : Sep c (p :: q) = true := by
 rw [Sep, h1, h2]
 rfl
theorem sep_two (a b : List Pc) (c : UInt8) (h1 : Sep (fb c b) a = true) (h2 : Sep c b = true) : Sep c (a ++ b) = true := by
 rw [sep_app, h1, h2]
 rfl
theorem fb_in {q : List Pc} {s : By} (h : Fb q s) (x y : By) (hx : x ∈ marksL) (hx2 : alnum.contains (x.headD 0) = false ∧ [[60], [62], [61], [33]].contains x = false) (hy : y ∈ marksL) (hy2 : alnum.contains (y.headD 0) = false ∧ [[60], [62], [61], [33]].contains y = false) (hy3 : alnum.contains (y.headD 32) = false) : Fb (fx x :: (q ++ [fx y])) (x ++ s ++ y) := by
 refine ⟨fun z hz => ?_, fun c hc => ?_, ?_⟩
 ·rcases List.mem_cons.1 hz with rfl | hz
  ·exact okm x hx
  ·rcases List.mem_append.1 hz with hz | hz
   ·exact h.ok z hz
   ·rw [List.mem_singleton] at hz
    subst hz
    exact okm y hy
 ·refine zZ _ _ _ (ok1_any x _ hx2) (sep_two _ _ _ (h.sep _ hy3) (sep_one _ _ (ok1_any y c hy2)))
 ·rw [txt_cons, txt_app, h.tx, txt_cons, txt_nil]
  simp
theorem fb_par {q : List Pc} {s : By} (h : Fb q s) : Fb (fx [40] :: (q ++ [fx [41]])) ([40] ++ s ++ [41]) := fb_in h [40] [41] (by decide) (by decide) (by decide) (by decide) (by decide)
theorem fb_idx {q : List Pc} {s : By} (h : Fb q s) : Fb (fx [91] :: (q ++ [fx [93]])) ([91] ++ s ++ [93]) := fb_in h [91] [93] (by decide) (by decide) (by decide) (by decide) (by decide)
theorem fa_hold {q : List Pc} {s : By} {f d : Nat} {t : Tr} (hr : RE f d t) (h : Fa q s) (k : Nat) : Fa (hpc t k q) (zJ t k s) := by
 rw [hold_re hr]
 unfold hpc
 split
 ·exact h
 ·have := fb_par h.b
  exact ⟨⟨_, _, rfl, .inr (.inr ⟨rfl, by decide⟩)⟩, this.ok, this.sep, this.tx⟩
theorem fa_call {p : Pc} {q : List Pc} {s : By} (hp : PcOk p) (hal : alnum.contains (p.w.headD 0) = true) (hf : Fst p) (h : Fb q s) : Fa (p :: fx [40] :: (q ++ [fx [41]])) ((p.w ++ [40]) ++ s ++ [41]) := by
 have h2 := fb_par h
 refine ⟨⟨_, _, rfl, hf⟩, fun z hz => ?_, fun c hc => zZ _ _ _ (ok1_al p _ hal (by show alnum.contains 40 = false; decide)) (h2.sep c hc), ?_⟩
 ·rcases List.mem_cons.1 hz with rfl | hz
  ·exact hp
  ·exact h2.ok z hz
 ·rw [txt_cons, h2.tx]
  simp
theorem fa_one {p : Pc} (hp : PcOk p) (hal : alnum.contains (p.w.headD 0) = true) (hf : Fst p) : Fa [p] p.w :=
 ⟨⟨_, _, rfl, hf⟩, fun z hz => by rw [List.mem_singleton] at hz; subst hz; exact hp, fun c hc => sep_one _ _ (ok1_al p _ hal hc), by rw [txt_cons, txt_nil]; simp⟩
theorem fa_app {a b : List Pc} {s t : By} (ha : Fa a s) (hb : Fb b t) (h : ∀ c, alnum.contains c = false → alnum.contains (fb c b) = false) : Fa (a ++ b) (s ++ t) := by
 obtain ⟨p, r, e, hp⟩ := ha.fst
 refine ⟨⟨p, r ++ b, by rw [e]; rfl, hp⟩, fun z hz => ?_, fun c hc => sep_two _ _ _ (ha.sep _ (h c hc)) (hb.sep c hc), by rw [txt_app, ha.tx, hb.tx]⟩
 rcases List.mem_append.1 hz with hz | hz
 ·exact ha.ok z hz
 ·exact hb.ok z hz
theorem fb_args : ∀ (xs : List Tr), (∀ x ∈ xs, Fa (pcE x) (wrT x)) → Fb (pcE (chain xs)) (wrT (chain xs))
 | [], _ => by
  rw [show chain [] = ce from rfl, pc_ce]
  exact ⟨fun z hz => by simp at hz, fun c _ => rfl, by simp [txt, wrT]⟩
 | [x], h => by
  have hx := h x (by simp)
  have e1 : pcE (chain [x]) = pcE x := by rw [show chain [x] = cc x ce from rfl, pc_cc, pc_ce]; simp [sepc]
  have e2 : wrT (chain [x]) = wrT x := by simp [chain, wrT, sep]
  rw [e1, e2]
  exact hx.b
 | x :: y :: xs, h => by
  have hx := h x (by simp)
  have hr := fb_args (y :: xs) (fun z hz => h z (by simp [hz]))
  have e1 : pcE (chain (x :: y :: xs)) = pcE x ++ ([fx [44], bl 32] ++ pcE (chain (y :: xs))) := by rw [show chain (x :: y :: xs) = cc x (chain (y :: xs)) from rfl, pc_cc]; rfl
  have e2 : wrT (chain (x :: y :: xs)) = wrT x ++ ([44, 32] ++ wrT (chain (y :: xs))) := by
   show wrT (.slice [x] [chain (y :: xs)]) = _
   rw [wrT]
   simp [sep, chain]
  rw [e1, e2]
  refine (fa_app hx ⟨fun z hz => ?_, fun c hc => ?_, by rw [txt_app, hr.tx]; rfl⟩ (fun c _ => by show alnum.contains 44 = false; decide)).b
  ·simp only [List.cons_append, List.nil_append, List.mem_cons] at hz
   rcases hz with rfl | rfl | hz
   ·exact okm _ (by decide)
   ·exact ok32
   ·exact hr.ok z hz
  ·exact zZ _ _ _ (ok1_any _ _ (by decide)) (zZ _ _ _ (by unfold ok1; rfl) (hr.sep c hc))
theorem re_fa : ∀ (f d : Nat) (t : Tr), RE f d t → Fa (pcE t) (wrT t)
 | 0, _, _, h => h.elim
 | f + 1, d, t, h => by
  rw [RE] at h
  rcases h.2 with ⟨a, n, h0, h1, rfl⟩ | ⟨a, nm, hn, rfl⟩ | ⟨a, op, l, r, h1, h2, h3, rfl⟩ | ⟨a, op, l, h1, h2, rfl⟩ | ⟨a, nm, xs, h1, h2, rfl⟩ | ⟨a, l, h2, rfl⟩ | ⟨a, l, h2, rfl⟩ | ⟨a, l, r, h2, h3, rfl⟩ | ⟨a, rfl⟩
  ·rw [pc_1, wrT, if_pos rfl]
   exact fa_one (p := ⟨2, Lib.itoa n⟩) (.inr (.inr (.inl ⟨rfl, itoa_dig h0⟩))) (dig_al (itoa_dig h0)) (.inr (.inl ⟨rfl, itoa_dig h0⟩))
  ·rw [pc_2, show wrT (nd 2 a 0 nm [] .nil .nil ce) = nm by rw [wrT]; simp]
   exact fa_one (p := ⟨0, nm⟩) (.inr (.inl ⟨rfl, hn⟩)) (nam_al hn) (.inl ⟨rfl, hn⟩)
  ·have hl := fa_hold h2 (re_fa f _ l h2) (zi op)
   have hr := fa_hold h3 (re_fa f _ r h3) (zi op + 1)
   obtain ⟨m1, m2, m3⟩ := near_mark h1
   rw [pc_3, show wrT (nd 3 a 0 [] op l r ce) = zJ l (zi op) (wrT l) ++ ([32] ++ op ++ [32] ++ zJ r (zi op + 1) (wrT r)) by rw [wrT]; simp]
   refine fa_app hl ⟨fun z hz => ?_, fun c hc => ?_, by rw [txt_app, hr.tx]; simp [txt]⟩ (fun c _ => by show alnum.contains 32 = false; decide)
   ·simp only [List.cons_append, List.nil_append, List.mem_cons] at hz
    rcases hz with rfl | rfl | rfl | hz
    ·exact ok32
    ·exact okm _ m1
    ·exact ok32
    ·exact hr.ok z hz
   ·exact zZ _ _ _ (by unfold ok1; rfl) (zZ _ _ _ (ok1_bl _ _ (.inl rfl)) (zZ _ _ _ (by unfold ok1; rfl) (hr.sep c hc)))
  ·have hl := fa_hold h2 (re_fa f _ l h2) 7
   rw [pc_4, show wrT (nd 4 a 0 [] op l .nil ce) = op ++ zJ l 7 (wrT l) by rw [wrT]; simp]
   refine ⟨⟨_, _, rfl, .inr (.inr ⟨rfl, by rcases h1 with rfl | rfl <;> decide⟩)⟩, fun z hz => ?_, fun c hc => ?_, by rw [txt_cons, hl.tx]⟩
   ·rcases List.mem_cons.1 hz with rfl | hz
    ·exact okm _ (by rcases h1 with rfl | rfl <;> decide)
    ·exact hl.ok z hz
   ·refine zZ _ _ _ ?_ (hl.sep c hc)
    rcases h1 with rfl | rfl
    ·exact ok1_any _ _ (by decide)
    ·have := hl.fb c
     unfold ok1
     rw [if_neg (by decide), if_pos (by decide)]
     simpa using this
  ·have hg := fb_args xs (fun x hx => re_fa f _ x (h2 x hx))
   rw [pc_5, show wrT (nd 5 a 0 nm [] .nil .nil (chain xs)) = (nm ++ [40]) ++ wrT (chain xs) ++ [41] by rw [wrT]; simp]
   exact fa_call (p := ⟨0, nm⟩) (.inr (.inl ⟨rfl, h1⟩)) (nam_al h1) (.inl ⟨rfl, h1⟩) hg
  ·rw [pc_6, show wrT (nd 6 a 0 [] [] l .nil ce) = ([110, 101, 119] ++ [40]) ++ wrT l ++ [41] by rw [wrT]; simp]
   exact fa_call (p := fx [110, 101, 119]) (okw _ (by decide)) (by decide) (.inr (.inr ⟨rfl, by decide⟩)) (re_fa f _ l h2).b
  ·rw [pc_7, show wrT (nd 7 a 0 [] [] l .nil ce) = ([108, 101, 110] ++ [40]) ++ wrT l ++ [41] by rw [wrT]; simp]
   exact fa_call (p := fx [108, 101, 110]) (okw _ (by decide)) (by decide) (.inr (.inr ⟨rfl, by decide⟩)) (re_fa f _ l h2).b
  ·have hl := fa_hold h2 (re_fa f _ l h2) 8
   have hr := fb_idx (re_fa f _ r h3).b
   rw [pc_8, show wrT (nd 8 a 0 [] [] l r ce) = zJ l 8 (wrT l) ++ ([91] ++ wrT r ++ [93]) by rw [wrT]; simp]
   exact fa_app hl hr (fun c _ => by show alnum.contains 91 = false; decide)
  ·rw [pc_9, show wrT (nd 9 a 0 [] [] .nil .nil ce) = ([105, 110, 112, 117, 116] ++ [40]) ++ [] ++ [41] by rw [wrT]; simp]
   exact fa_call (p := fx [105, 110, 112, 117, 116]) (q := []) (okw _ (by decide)) (by decide) (.inr (.inr ⟨rfl, by decide⟩)) ⟨fun z hz => by simp at hz, fun c _ => rfl, rfl⟩
end Go.Proofs.YtnfhpdbbfejioaaGreatDoor
namespace Go.Proofs.YtnfhpdbbfejioaaGreatDoor
set_option linter.unusedVariables false
set_option linter.unusedSimpArgs false
open Go
abbrev tk (x : By) : Tok := ⟨1, x, 0⟩
abbrev te (t : Tr) : List Tok := tks (pcE t)
abbrev hk (t : Tr) (k : Nat) : List Tok := tks (hpc t k (pcE t))
theorem zj (x : By) (q : List Pc) : tks (fx x :: q) = tk x :: tks q := by rw [tks, if_neg (by show ¬ (1 : Nat) = 9; decide)]
theorem zV (c : UInt8) (q : List Pc) : tks (bl c :: q) = tks q := by rw [tks, if_pos rfl]
theorem tks_nm (x : By) (q : List Pc) : tks (⟨0, x⟩ :: q) = ⟨0, x, 0⟩ :: tks q := by rw [tks, if_neg (by show ¬ (0 : Nat) = 9; decide)]
theorem tks_nu (x : By) (q : List Pc) : tks (⟨2, x⟩ :: q) = ⟨2, x, 0⟩ :: tks q := by rw [tks, if_neg (by show ¬ (2 : Nat) = 9; decide)]
theorem zv : tks [] = [] := rfl
theorem hk_eq (t : Tr) (k : Nat) : hk t k = if k ≤ zK t then te t else tk [40] :: (te t ++ [tk [41]]) := by
 unfold hk hpc
 split
 ·rfl
 ·rw [zj, zo, zj, zv]
theorem zX (x : By) (l : List Tok) : zf x (tk x :: l) = .ok ((), l) := by
 unfold zf
 rw [if_pos (show (hd (tk x :: l)).t = x from rfl)]
 rfl
theorem bound_le {d : Nat} (h : d ≤ 12) (l : List Tok) : qU d l = .ok ((), l) := by
 unfold qU
 rw [if_neg (by omega)]
theorem zh {α β : Type} (a : α) (l : List Tok) (f : α → List Tok → R β) : bnd (.ok (a, l)) f = f a l := rfl
abbrev nu0 : Tok := ⟨3, [], 0⟩
def Off (l : List Tok) : Prop := (hd l).t ≠ [91] ∧ (hd l).t ≠ [40]
def MX (X : List Tok) (y : Tr) (d : Nat) : Prop := ∀ F rest, (hd rest).t ≠ [40] → 12 * X.length + 4 ≤ F → ∃ F', F ≤ F' + 12 * X.length ∧ exV F 2 0 d .nil 0 (X ++ rest) = exV F' 3 0 d y 0 rest
def OX (X : List Tok) (y : Tr) (d : Nat) : Prop := ∀ F rest, Off rest → 12 * X.length + 4 ≤ F → exV F 2 0 d .nil 0 (X ++ rest) = .ok (y, rest)
def AX (k : Nat) (X : List Tok) (y : Tr) (d : Nat) : Prop := ∀ F rest, zi (hd rest).t ≤ k → Off rest → 12 * X.length + (12 - k) ≤ F → ∃ F', F ≤ F' + 12 * X.length ∧ exV F 0 k d .nil 0 (X ++ rest) = exV F' 1 k d y 0 rest
def BX (k : Nat) (X : List Tok) (y : Tr) (d : Nat) : Prop := ∀ F rest, zi (hd rest).t < k → Off rest → 12 * X.length + (12 - k) ≤ F → exV F 0 k d .nil 0 (X ++ rest) = .ok (y, rest)
def Pos (X : List Tok) : Prop := ∃ x q, X = x :: q ∧ x.p = 0
theorem Pos.len {X : List Tok} (h : Pos X) : 1 ≤ X.length := by
 obtain ⟨x, q, rfl, _⟩ := h
 simp
theorem Pos.p {X : List Tok} (h : Pos X) (r : List Tok) : (hd (X ++ r)).p = 0 := by
 obtain ⟨x, q, rfl, e⟩ := h
 exact e
theorem o_of_m {X : List Tok} {y : Tr} {d : Nat} (h : MX X y d) : OX X y d := fun F rest ho hF => by
 obtain ⟨F', h1, h2⟩ := h F rest ho.2 hF
 obtain ⟨G, rfl⟩ : ∃ G, F' = G + 1 := ⟨F' - 1, by omega⟩
 rw [h2, exV, if_neg ho.1]
theorem b7_of_o {X : List Tok} {y : Tr} {d : Nat} (h : OX X y d) : BX 7 X y d := fun F rest hn ho hF => by
 obtain ⟨G, rfl⟩ : ∃ G, F = G + 1 := ⟨F - 1, by omega⟩
 rw [exV, if_pos (by omega)]
 exact h G rest ho (by omega)
theorem a_of_b {X : List Tok} {y : Tr} {d k : Nat} (hp : Pos X) (hk : k ≤ 6) (h : BX (k + 1) X y d) : AX k X y d := fun F rest hn ho hF => by
 have hl := hp.len
 obtain ⟨G, rfl⟩ : ∃ G, F = G + 1 := ⟨F - 1, by omega⟩
 refine ⟨G, by omega, ?_⟩
 rw [exV, if_neg (by omega), h G rest (by omega) ho (by omega), zh, hp.p]
theorem b_of_a {X : List Tok} {y : Tr} {d k : Nat} (hk : k ≤ 6) (h : AX k X y d) : BX k X y d := fun F rest hn ho hF => by
 obtain ⟨F', h1, h2⟩ := h F rest (by omega) ho hF
 obtain ⟨G, rfl⟩ : ∃ G, F' = G + 1 := ⟨F' - 1, by omega⟩
 rw [h2, exV, if_neg (by omega)]
theorem down {X : List Tok} {y : Tr} {d : Nat} (hp : Pos X) : ∀ (i k : Nat), k + i ≤ 7 → BX (k + i) X y d → BX k X y d
 | 0, k, _, h => h
 | i + 1, k, hk, h => by
  have h1 : BX (k + 1) X y d := down hp i (k + 1) (by omega) (by rw [show k + 1 + i = k + (i + 1) by omega]; exact h)
  exact b_of_a (by omega) (a_of_b hp (by omega) h1)
structure All (X : List Tok) (y : Tr) (d h : Nat) : Prop where
 pos : Pos X
 m : 8 ≤ h → MX X y d
 o : 7 ≤ h → OX X y d
 a : ∀ k, k ≤ 6 → k ≤ h → AX k X y d
 b : ∀ k, k ≤ 7 → k ≤ h → BX k X y d
theorem All.mono {X : List Tok} {y : Tr} {d h h' : Nat} (H : All X y d h) (hh : h' ≤ h) : All X y d h' := ⟨H.pos, fun e => H.m (by omega), fun e => H.o (by omega), fun k h1 h2 => H.a k h1 (by omega), fun k h1 h2 => H.b k h1 (by omega)⟩
theorem all_o {X : List Tok} {y : Tr} {d : Nat} (hp : Pos X) (h : OX X y d) : All X y d 7 := by
 have hb : ∀ k, k ≤ 7 → BX k X y d := fun k hk => down hp (7 - k) k (by omega) (by rw [show k + (7 - k) = 7 by omega]; exact b7_of_o h)
 exact ⟨hp, fun e => by omega, fun _ => h, fun k h1 _ => a_of_b hp h1 (hb (k + 1) (by omega)), fun k h1 _ => hb k h1⟩
theorem all_m {X : List Tok} {y : Tr} {d : Nat} (hp : Pos X) (h : MX X y d) : All X y d 8 := by
 have H := all_o hp (o_of_m h)
 exact ⟨hp, fun _ => h, fun _ => H.o (by omega), fun k h1 _ => H.a k h1 (by omega), fun k h1 _ => H.b k h1 (by omega)⟩
theorem all_a {X : List Tok} {y : Tr} {d j : Nat} (hp : Pos X) (hj : j ≤ 6) (h : AX j X y d) : All X y d j := by
 have hb : ∀ k, k ≤ j → BX k X y d := fun k hk => down hp (j - k) k (by omega) (by rw [show k + (j - k) = j by omega]; exact b_of_a hj h)
 refine ⟨hp, fun e => by omega, fun e => by omega, fun k h1 h2 => ?_, fun k h1 h2 => hb k h2⟩
 rcases Nat.lt_or_ge k j with hlt | hge
 ·exact a_of_b hp h1 (hb (k + 1) (by omega))
 ·obtain rfl : k = j := by omega
  exact h
theorem m_leaf {X : List Tok} {y : Tr} {d : Nat} (hd' : d ≤ 12) (hp : Pos X) (hf : ∀ r, (hd (X ++ r)).t ≠ [45] ∧ (hd (X ++ r)).t ≠ [33]) (h : ∀ F rest, (hd rest).t ≠ [40] → 12 * X.length + 3 ≤ F → exV F 4 0 d .nil 0 (X ++ rest) = .ok (y, rest)) : MX X y d := fun F rest ho hF => by
 have hl := hp.len
 obtain ⟨G, rfl⟩ : ∃ G, F = G + 1 := ⟨F - 1, by omega⟩
 refine ⟨G, by omega, ?_⟩
 rw [exV, bound_le hd', zh, if_neg (by have := hf rest; exact fun e => e.elim this.1 this.2), h G rest ho (by omega), zh, hp.p]
theorem held_x {X : List Tok} {y : Tr} {d : Nat} (H : BX 1 X y (d + 1)) (F : Nat) (rest : List Tok) (hF : 12 * X.length + 13 ≤ F) : exV F 5 0 d .nil 0 (tk [40] :: (X ++ (tk [41] :: rest))) = .ok (y, rest) := by
 obtain ⟨G, rfl⟩ : ∃ G, F = G + 1 := ⟨F - 1, by omega⟩
 rw [exV, zX, zh, H G (tk [41] :: rest) (by show zi [41] < 1; decide) ⟨by show ([41] : By) ≠ [91]; decide, by show ([41] : By) ≠ [40]; decide⟩ (by omega), zh, zX, zh]
theorem idx_x {X : List Tok} {y : Tr} {d : Nat} (H : BX 1 X y (d + 1)) (F : Nat) (rest : List Tok) (hF : 12 * X.length + 13 ≤ F) : exV F 6 0 d .nil 0 (X ++ (tk [93] :: rest)) = .ok (y, rest) := by
 obtain ⟨G, rfl⟩ : ∃ G, F = G + 1 := ⟨F - 1, by omega⟩
 rw [exV, H G (tk [93] :: rest) (by show zi [93] < 1; decide) ⟨by show ([93] : By) ≠ [91]; decide, by show ([93] : By) ≠ [40]; decide⟩ (by omega), zh, zX, zh]
theorem par_app (X rest : List Tok) : (tk [40] :: (X ++ [tk [41]])) ++ rest = tk [40] :: (X ++ (tk [41] :: rest)) := by simp
theorem wrap_x {X : List Tok} {y : Tr} {d : Nat} (hd' : d ≤ 12) (H : BX 1 X y (d + 1)) : All (tk [40] :: (X ++ [tk [41]])) y d 8 := by
 have hp : Pos (tk [40] :: (X ++ [tk [41]])) := ⟨_, _, rfl, rfl⟩
 refine all_m hp (m_leaf hd' hp (fun r => ⟨by show ([40] : By) ≠ [45]; decide, by show ([40] : By) ≠ [33]; decide⟩) fun F rest ho hF => ?_)
 obtain ⟨G, rfl⟩ : ∃ G, F = G + 1 := ⟨F - 1, by omega⟩
 simp only [List.length_cons, List.length_append, List.length_nil] at hF
 rw [par_app, exV, if_neg (by show ¬ (1 : Nat) = 2; decide), if_neg (by show ¬ (1 : Nat) = 0; decide), if_neg (by show ¬ ([40] : By) = _; decide), if_neg (by show ¬ ([40] : By) = _; decide), if_neg (by show ¬ ([40] : By) = _; decide)]
 exact held_x H G rest (by omega)
theorem te_chain1 (x : Tr) : te (chain [x]) = te x := by
 rw [show chain [x] = cc x ce from rfl]
 unfold te
 rw [pc_cc, pc_ce]
 simp [sepc]
theorem te_chain2 (x y : Tr) (xs : List Tr) : te (chain (x :: y :: xs)) = te x ++ (tk [44] :: te (chain (y :: xs))) := by
 rw [show chain (x :: y :: xs) = cc x (chain (y :: xs)) from rfl]
 unfold te
 rw [pc_cc, zo, zo, show sepc (chain (y :: xs)) = [fx [44], bl 32] from rfl, zj, zV, zv]
 rfl
theorem args_x {d : Nat} : ∀ (xs : List Tr), xs ≠ [] → (∀ x ∈ xs, BX 1 (te x) (er x) (d + 1)) → ∀ F rest, 12 * (te (chain xs)).length + 13 ≤ F → exV F 7 0 d ce 0 (te (chain xs) ++ (tk [41] :: rest)) = .ok (er (chain xs), rest)
 | [], h, _, _, _, _ => absurd rfl h
 | [x], _, h, F, rest, hF => by
  rw [te_chain1] at hF ⊢
  obtain ⟨G, rfl⟩ : ∃ G, F = G + 1 := ⟨F - 1, by omega⟩
  rw [exV, h x (by simp) G (tk [41] :: rest) (by show zi [41] < 1; decide) ⟨by show ([41] : By) ≠ [91]; decide, by show ([41] : By) ≠ [40]; decide⟩ (by omega), zh, if_neg (by show ¬ ([41] : By) = [44]; decide), zX, zh, show chain [x] = cc x ce from rfl, er_cc, zE]
 | x :: y :: xs, _, h, F, rest, hF => by
  rw [te_chain2] at hF ⊢
  simp only [List.length_append, List.length_cons] at hF
  obtain ⟨G, rfl⟩ : ∃ G, F = G + 1 := ⟨F - 1, by omega⟩
  have ih := args_x (y :: xs) (by simp) (fun z hz => h z (by simp [hz])) G rest (by omega)
  rw [List.append_assoc, List.cons_append, exV, h x (by simp) G (tk [44] :: (te (chain (y :: xs)) ++ (tk [41] :: rest))) (by show zi [44] < 1; decide) ⟨by show ([44] : By) ≠ [91]; decide, by show ([44] : By) ≠ [40]; decide⟩ (by omega), zh, if_pos (by rfl)]
  show bnd (exV G 7 0 d ce 0 (te (chain (y :: xs)) ++ (tk [41] :: rest))) _ = _
  rw [ih, zh, show chain (x :: y :: xs) = cc x (chain (y :: xs)) from rfl, er_cc]
theorem te_first {f d : Nat} {t : Tr} (h : RE f d t) : ∃ p q, te t = ⟨p.k, p.w, 0⟩ :: q ∧ Fst p := by
 obtain ⟨p, r, e, hp⟩ := (re_fa f d t h).fst
 have h9 := (fst_head hp).1
 exact ⟨p, tks r, by unfold te; rw [e, tks, if_neg h9], hp⟩
theorem te_pos {f d : Nat} {t : Tr} (h : RE f d t) : Pos (te t) := by
 obtain ⟨p, q, e, _⟩ := te_first h
 exact ⟨_, _, e, rfl⟩
theorem fst_not {p : Pc} (h : Fst p) : p.w ≠ [41] ∧ p.w ≠ [] ∧ p.w ≠ [93] := by
 have al : ∀ w : By, w ≠ [] → (∀ c ∈ w, alnum.contains c = true) → w ≠ [41] ∧ w ≠ [] ∧ w ≠ [93] := fun w a b => by
  refine ⟨fun e => ?_, a, fun e => ?_⟩
  ·have := b 41 (by rw [e]; simp)
   revert this
   decide
  ·have := b 93 (by rw [e]; simp)
   revert this
   decide
 rcases h with ⟨h1, h2⟩ | ⟨h1, h2⟩ | ⟨h1, h2⟩
 ·exact al _ h2.1 h2.2.1
 ·refine al _ h2.1 fun c hc => ?_
  have : alnum.contains c = (lets.contains c || digs.contains c) := by simp only [alnum, List.contains_eq_any_beq, List.any_append]
  rw [this, h2.2 c hc, Bool.or_true]
 ·have : ∀ w ∈ ([[45], [33], [40], [110, 101, 119], [108, 101, 110], [105, 110, 112, 117, 116]] : List By), w ≠ [41] ∧ w ≠ [] ∧ w ≠ [93] := by decide
  exact this _ h2
theorem al_not {w x : By} (c : UInt8) (hw : ∀ c ∈ w, alnum.contains c = true) (hx : x = [c]) (hc : alnum.contains c = false) : w ≠ x := fun e => by
 have := hw c (by rw [e, hx]; simp)
 rw [hc] at this
 cases this
theorem dig_alnum {w : By} (h : Dig w) : ∀ c ∈ w, alnum.contains c = true := fun c hc => by
 have : alnum.contains c = (lets.contains c || digs.contains c) := by simp only [alnum, List.contains_eq_any_beq, List.any_append]
 rw [this, h.2 c hc, Bool.or_true]
theorem chain_te {f d : Nat} {x : Tr} {xs : List Tr} (h : RE f d x) (r : List Tok) : (hd (te (chain (x :: xs)) ++ r)).t ≠ [41] := by
 obtain ⟨p, q, e, hp⟩ := te_first h
 have : ∃ z, te (chain (x :: xs)) = ⟨p.k, p.w, 0⟩ :: z := by
  cases xs with
  | nil => exact ⟨q, by rw [te_chain1, e]⟩
  | cons y xs => exact ⟨q ++ (tk [44] :: te (chain (y :: xs))), by rw [te_chain2, e]; rfl⟩
 obtain ⟨z, hz⟩ := this
 rw [hz]
 exact (fst_not hp).1
theorem dig_natX (u : Nat) (h : u < 10) : (UInt8.ofNat (48 + u)).toNat = 48 + u := by simp [UInt8.toNat_ofNat']; omega
theorem parseM_app (M : Nat) : ∀ (l r : By) (acc u : Nat), Lib.parseUintM M acc l = .ok u → Lib.parseUintM M acc (l ++ r) = Lib.parseUintM M u r
 | [], r, acc, u, h => by simp only [Lib.parseUintM] at h; injection h with h; subst h; rfl
 | c :: l, r, acc, u, h => by
  simp only [Lib.parseUintM, List.cons_append] at h ⊢
  split at h
  ·rename_i hc
   rw [if_pos hc]
   split at h
   ·cases h
   ·rename_i h1
    rw [if_neg h1]
    split at h
    ·cases h
    ·rename_i h2
     rw [if_neg h2]
     exact parseM_app M l r _ u h
  ·cases h
theorem parseM_decX (M : Nat) (hM : M ≤ 18446744073709551615) : ∀ (k u : Nat), u < k → u ≤ M → Lib.parseUintM M 0 (Lib.decDigits u) = .ok u
 | 0, u, h, _ => by omega
 | k + 1, u, h, hu => by
  rw [Lib.decDigits]
  split
  ·rename_i h10
   simp only [Lib.parseUintM, dig_natX u h10]
   rw [if_pos (by omega), if_neg (by omega), if_neg (by omega)]
   simp
  ·rename_i h10
   rw [parseM_app M _ _ 0 (u / 10) (parseM_decX M hM k (u / 10) (by omega) (by omega))]
   simp only [Lib.parseUintM, dig_natX (u % 10) (Nat.mod_lt _ (by omega))]
   rw [if_pos (by omega), if_neg (by omega), if_neg (by omega)]
   congr 1
   omega
theorem parse_itoaX (n : Int) (h0 : 0 ≤ n) (h1 : n ≤ 9223372036854775807) : Lib.parseIntB 64 (Lib.itoa n) = .ok n := by
 have hdg := itoa_dig h0
 unfold Lib.itoa at hdg ⊢
 rw [if_neg (by omega)] at hdg ⊢
 have e : Lib.parseUintB 64 (Lib.decDigits n.toNat) = .ok n.toNat := by
  unfold Lib.parseUintB
  rw [if_neg hdg.1]
  exact parseM_decX _ (by decide) (n.toNat + 1) _ (by omega) (by omega)
 cases hd : Lib.decDigits n.toNat with
 | nil => exact absurd hd hdg.1
 | cons c r =>
  have hc : digs.contains c = true := hdg.2 c (by rw [hd]; simp)
  have hc43 : c.toNat ≠ 43 := fun e => by
   have : c = 43 := UInt8.toNat_inj.1 e
   rw [this] at hc
   revert hc
   decide
  have hc45 : c.toNat ≠ 45 := fun e => by
   have : c = 45 := UInt8.toNat_inj.1 e
   rw [this] at hc
   revert hc
   decide
  simp only [Lib.parseIntB]
  rw [if_neg (by omega), ← hd, e]
  dsimp only
  rw [if_neg (by omega), if_neg (by omega), if_neg (by omega)]
  congr 1
  omega
theorem holds_3 (a n : Int) (nm op : By) (l r g : Tr) : zK (nd 3 a n nm op l r g) = zi op := by simp [zK]
theorem holds_4 (a n : Int) (nm op : By) (l r g : Tr) : zK (nd 4 a n nm op l r g) = 7 := by simp [zK]
theorem qk {c : Int} (a n : Int) (nm op : By) (l r g : Tr) (h3 : c ≠ 3) (h4 : c ≠ 4) : zK (nd c a n nm op l r g) = 8 := by simp [zK, h3, h4]
theorem holds_pos {f d : Nat} {t : Tr} (h : RE f d t) : 1 ≤ zK t := by
 cases f with
 | zero => exact h.elim
 | succ f =>
  rw [RE] at h
  rcases h.2 with ⟨a, n, _, _, rfl⟩ | ⟨a, nm, _, rfl⟩ | ⟨a, op, l, r, h1, h2, h3, rfl⟩ | ⟨a, op, l, h1, h2, rfl⟩ | ⟨a, nm, xs, h1, h2, rfl⟩ | ⟨a, l, h2, rfl⟩ | ⟨a, l, h2, rfl⟩ | ⟨a, l, r, h2, h3, rfl⟩ | ⟨a, rfl⟩
  ·rw [qk _ _ _ _ _ _ _ (by decide) (by decide)]; omega
  ·rw [qk _ _ _ _ _ _ _ (by decide) (by decide)]; omega
  ·rw [holds_3]; exact h1
  ·rw [holds_4]; omega
  all_goals rw [qk _ _ _ _ _ _ _ (by decide) (by decide)]; omega
theorem hold_x {f d k : Nat} {t : Tr} (h : RE f (d + up t k) t) (hd' : d ≤ 12) (hk8 : k ≤ 8) (H : All (te t) (er t) (d + up t k) (zK t)) : All (hk t k) (er t) d k := by
 rw [hk_eq]
 unfold up at H h
 split
 ·rename_i hle
  rw [if_pos hle] at H
  exact H.mono hle
 ·rename_i hle
  rw [if_neg hle] at H h
  exact (wrap_x hd' (H.b 1 (by omega) (holds_pos h))).mono hk8
theorem hold_d {f d k : Nat} {t : Tr} (h : RE f (d + up t k) t) : d ≤ 12 := by have := re_le h; omega
theorem read_x : ∀ (f d : Nat) (t : Tr), RE f d t → All (te t) (er t) d (zK t)
 | 0, _, _, h => h.elim
 | f + 1, d, t, h => by
  have hpos := te_pos h
  have h12 := re_le h
  have IH : ∀ (d k : Nat) (t : Tr), k ≤ 8 → RE f (d + up t k) t → All (hk t k) (er t) d k := fun d k t hk8 h => hold_x h (hold_d h) hk8 (read_x f _ t h)
  have IB : ∀ (d : Nat) (t : Tr), RE f d t → BX 1 (te t) (er t) d := fun d t h => (read_x f d t h).b 1 (by omega) (holds_pos h)
  rw [RE] at h
  rcases h.2 with ⟨a, n, h0, h1, rfl⟩ | ⟨a, nm, hn, rfl⟩ | ⟨a, op, l, r, h1, h2, h3, rfl⟩ | ⟨a, op, l, h1, h2, rfl⟩ | ⟨a, nm, xs, h1, h2, rfl⟩ | ⟨a, l, h2, rfl⟩ | ⟨a, l, h2, rfl⟩ | ⟨a, l, r, h2, h3, rfl⟩ | ⟨a, rfl⟩
  ·rw [qk _ _ _ _ _ _ _ (by decide) (by decide)]
   refine all_m hpos (m_leaf h12 hpos (fun r => ?_) fun F rest ho hF => ?_)
   ·unfold te
    rw [pc_1, tks_nu]
    exact ⟨al_not 45 (dig_alnum (itoa_dig h0)) rfl (by decide), al_not 33 (dig_alnum (itoa_dig h0)) rfl (by decide)⟩
   ·obtain ⟨G, rfl⟩ : ∃ G, F = G + 1 := ⟨F - 1, by omega⟩
    unfold te
    rw [pc_1, tks_nu, zv, List.cons_append, List.nil_append, exV, if_pos (by rfl)]
    unfold numVv
    rw [show (hd ((⟨2, Lib.itoa n, 0⟩ : Tok) :: rest)).t = Lib.itoa n from rfl, parse_itoaX n h0 h1]
    rw [qS, zp, zE]
    rfl
  ·rw [qk _ _ _ _ _ _ _ (by decide) (by decide)]
   refine all_m hpos (m_leaf h12 hpos (fun r => ?_) fun F rest ho hF => ?_)
   ·unfold te
    rw [pc_2, tks_nm]
    exact ⟨al_not 45 hn.2.1 rfl (by decide), al_not 33 hn.2.1 rfl (by decide)⟩
   ·obtain ⟨G, rfl⟩ : ∃ G, F = G + 1 := ⟨F - 1, by omega⟩
    have hnv : zI ((⟨0, nm, 0⟩ : Tok) :: rest) = .ok (nm, rest) := by
     unfold zI
     rw [if_neg (by show ¬ (0 : Nat) ≠ 0; decide), if_neg (by show ¬ 12 < nm.length; have := hn.2.2.2.2; omega)]
     rfl
    unfold te
    rw [pc_2, tks_nm, zv, List.cons_append, List.nil_append, exV, if_neg (by show ¬ (0 : Nat) = 2; decide), if_pos (by rfl), hnv, zh, if_neg ho, qS, zp, zE]
    rfl
  ·obtain ⟨m1, m2, m3⟩ := near_mark h1
   rw [holds_3]
   refine all_a hpos m2 fun F rest hn ho hF => ?_
   have HL := IH d (zi op) l (by omega) h2
   have HR := IH d (zi op + 1) r (by omega) h3
   have e : te (nd 3 a 0 [] op l r ce) = hk l (zi op) ++ (tk op :: hk r (zi op + 1)) := by
    unfold te hk
    rw [pc_3, zo, zo, zV, zj, zV, zv]
    rfl
   rw [e] at hF ⊢
   simp only [List.length_append, List.length_cons] at hF ⊢
   obtain ⟨F1, a1, a2⟩ := HL.a (zi op) m2 (Nat.le_refl _) F (tk op :: (hk r (zi op + 1) ++ rest)) (Nat.le_refl _) ⟨fun e => by have e' : op = [91] := e; rw [e'] at h1; revert h1; decide, fun e => by have e' : op = [40] := e; rw [e'] at h1; revert h1; decide⟩ (by omega)
   obtain ⟨G, rfl⟩ : ∃ G, F1 = G + 1 := ⟨F1 - 1, by omega⟩
   refine ⟨G, by omega, ?_⟩
   rw [List.append_assoc, List.cons_append, a2, exV, if_pos (by rfl)]
   show bnd (exV G 0 (zi op + 1) d .nil 0 (hk r (zi op + 1) ++ rest)) _ = _
   rw [HR.b (zi op + 1) (by omega) (Nat.le_refl _) G rest (by omega) ho (by omega), zh, qS, zE]
   rfl
  ·rw [holds_4]
   refine all_o hpos fun F rest ho hF => ?_
   have HL := IH (d + 1) 7 l (by omega) h2
   have e : te (nd 4 a 0 [] op l .nil ce) = tk op :: hk l 7 := by
    unfold te hk
    rw [pc_4, zj]
   rw [e] at hF ⊢
   simp only [List.length_cons] at hF
   obtain ⟨G, rfl⟩ : ∃ G, F = G + 1 := ⟨F - 1, by omega⟩
   rw [List.cons_append, exV, bound_le h12, zh, if_pos (by exact h1)]
   show bnd (exV G 2 0 (d + 1) .nil 0 (hk l 7 ++ rest)) _ = _
   rw [HL.o (by omega) G rest ho (by omega), zh, qS, zp, zE]
   rfl
  ·rw [qk _ _ _ _ _ _ _ (by decide) (by decide)]
   refine all_m hpos (m_leaf h12 hpos (fun r => ?_) fun F rest ho hF => ?_)
   ·unfold te
    rw [pc_5, tks_nm]
    exact ⟨al_not 45 h1.2.1 rfl (by decide), al_not 33 h1.2.1 rfl (by decide)⟩
   ·obtain ⟨G, rfl⟩ : ∃ G, F = G + 1 := ⟨F - 1, by omega⟩
    have e : te (nd 5 a 0 nm [] .nil .nil (chain xs)) = ⟨0, nm, 0⟩ :: tk [40] :: (te (chain xs) ++ [tk [41]]) := by
     unfold te
     rw [pc_5, tks_nm, zj, zo, zj, zv]
    rw [e] at hF ⊢
    simp only [List.length_cons, List.length_append, List.length_nil] at hF
    have e2 : (⟨0, nm, 0⟩ :: tk [40] :: (te (chain xs) ++ [tk [41]])) ++ rest = (⟨0, nm, 0⟩ : Tok) :: tk [40] :: (te (chain xs) ++ (tk [41] :: rest)) := by simp
    have hnv : ∀ l, zI ((⟨0, nm, 0⟩ : Tok) :: l) = .ok (nm, l) := fun l => by
     unfold zI
     rw [if_neg (by show ¬ (0 : Nat) ≠ 0; decide), if_neg (by show ¬ 12 < nm.length; have := h1.2.2.2.2; omega)]
     rfl
    rw [e2, exV, if_neg (by show ¬ (0 : Nat) = 2; decide), if_pos (by rfl), hnv, zh, if_pos (by rfl)]
    cases xs with
    | nil =>
     have e3 : te (chain []) = [] := by show tks (pcE ce) = []; rw [pc_ce]; rfl
     rw [e3, List.nil_append, if_pos (by rfl), qS, zp, show chain [] = ce from rfl, zE]
     rfl
    | cons x xs =>
     rw [if_neg (show ¬ (hd (tk [40] :: (te (chain (x :: xs)) ++ (tk [41] :: rest))).tail).t = [41] from chain_te (h2 x (by simp)) _)]
     show bnd (exV G 7 0 d ce 0 (te (chain (x :: xs)) ++ (tk [41] :: rest))) _ = _
     rw [args_x (x :: xs) (by simp) (fun z hz => IB _ z (h2 z hz)) G rest (by omega), zh, qS, zp]
     rfl
  ·rw [qk _ _ _ _ _ _ _ (by decide) (by decide)]
   have e : te (nd 6 a 0 [] [] l .nil ce) = tk [110, 101, 119] :: tk [40] :: (te l ++ [tk [41]]) := by
    unfold te
    rw [pc_6, zj, zj, zo, zj, zv]
   refine all_m hpos (m_leaf h12 hpos (fun r => ?_) fun F rest ho hF => ?_)
   ·rw [e]
    exact ⟨by show ([110, 101, 119] : By) ≠ _; decide, by show ([110, 101, 119] : By) ≠ _; decide⟩
   ·obtain ⟨G, rfl⟩ : ∃ G, F = G + 1 := ⟨F - 1, by omega⟩
    rw [e] at hF ⊢
    simp only [List.length_cons, List.length_append, List.length_nil] at hF
    have e2 : (tk [110, 101, 119] :: tk [40] :: (te l ++ [tk [41]])) ++ rest = tk [110, 101, 119] :: tk [40] :: (te l ++ (tk [41] :: rest)) := by simp
    rw [e2, exV, if_neg (by show ¬ (1 : Nat) = 2; decide), if_neg (by show ¬ (1 : Nat) = 0; decide), if_pos (by rfl)]
    show bnd (exV G 5 0 d .nil 0 (tk [40] :: (te l ++ (tk [41] :: rest)))) _ = _
    rw [held_x (IB _ l h2) G rest (by omega), zh, qS, zp, zE]
    rfl
  ·rw [qk _ _ _ _ _ _ _ (by decide) (by decide)]
   have e : te (nd 7 a 0 [] [] l .nil ce) = tk [108, 101, 110] :: tk [40] :: (te l ++ [tk [41]]) := by
    unfold te
    rw [pc_7, zj, zj, zo, zj, zv]
   refine all_m hpos (m_leaf h12 hpos (fun r => ?_) fun F rest ho hF => ?_)
   ·rw [e]
    exact ⟨by show ([108, 101, 110] : By) ≠ _; decide, by show ([108, 101, 110] : By) ≠ _; decide⟩
   ·obtain ⟨G, rfl⟩ : ∃ G, F = G + 1 := ⟨F - 1, by omega⟩
    rw [e] at hF ⊢
    simp only [List.length_cons, List.length_append, List.length_nil] at hF
    have e2 : (tk [108, 101, 110] :: tk [40] :: (te l ++ [tk [41]])) ++ rest = tk [108, 101, 110] :: tk [40] :: (te l ++ (tk [41] :: rest)) := by simp
    rw [e2, exV, if_neg (by show ¬ (1 : Nat) = 2; decide), if_neg (by show ¬ (1 : Nat) = 0; decide), if_neg (by show ¬ ([108, 101, 110] : By) = _; decide), if_pos (by rfl)]
    show bnd (exV G 5 0 d .nil 0 (tk [40] :: (te l ++ (tk [41] :: rest)))) _ = _
    rw [held_x (IB _ l h2) G rest (by omega), zh, qS, zp, zE]
    rfl
  ·rw [qk _ _ _ _ _ _ _ (by decide) (by decide)]
   have HL := IH d 8 l (by omega) h2
   have e : te (nd 8 a 0 [] [] l r ce) = hk l 8 ++ (tk [91] :: (te r ++ [tk [93]])) := by
    unfold te hk
    rw [pc_8, zo, zj, zo, zj, zv]
   refine all_m hpos fun F rest ho hF => ?_
   rw [e] at hF ⊢
   simp only [List.length_cons, List.length_append, List.length_nil] at hF ⊢
   have e2 : (hk l 8 ++ (tk [91] :: (te r ++ [tk [93]]))) ++ rest = hk l 8 ++ (tk [91] :: (te r ++ (tk [93] :: rest))) := by simp
   obtain ⟨F1, a1, a2⟩ := HL.m (Nat.le_refl _) F (tk [91] :: (te r ++ (tk [93] :: rest))) (by show ([91] : By) ≠ [40]; decide) (by omega)
   obtain ⟨G, rfl⟩ : ∃ G, F1 = G + 1 := ⟨F1 - 1, by omega⟩
   refine ⟨G, by omega, ?_⟩
   rw [e2, a2, exV, if_pos (by rfl)]
   show bnd (exV G 6 0 d .nil 0 (te r ++ (tk [93] :: rest))) _ = _
   rw [idx_x (IB _ r h3) G rest (by omega), zh, qS, zE]
   rfl
  ·rw [qk _ _ _ _ _ _ _ (by decide) (by decide)]
   have e : te (nd 9 a 0 [] [] .nil .nil ce) = [tk [105, 110, 112, 117, 116], tk [40], tk [41]] := by
    unfold te
    rw [pc_9, zj, zj, zj, zv]
   refine all_m hpos (m_leaf h12 hpos (fun r => ?_) fun F rest ho hF => ?_)
   ·rw [e]
    exact ⟨by show ([105, 110, 112, 117, 116] : By) ≠ _; decide, by show ([105, 110, 112, 117, 116] : By) ≠ _; decide⟩
   ·obtain ⟨G, rfl⟩ : ∃ G, F = G + 1 := ⟨F - 1, by omega⟩
    rw [e]
    have e2 : [tk [105, 110, 112, 117, 116], tk [40], tk [41]] ++ rest = tk [105, 110, 112, 117, 116] :: tk [40] :: tk [41] :: rest := by simp
    rw [e2, exV, if_neg (by show ¬ (1 : Nat) = 2; decide), if_neg (by show ¬ (1 : Nat) = 0; decide), if_neg (by show ¬ ([105, 110, 112, 117, 116] : By) = _; decide), if_neg (by show ¬ ([105, 110, 112, 117, 116] : By) = _; decide), if_pos (by rfl)]
    show bnd (zf [40] (tk [40] :: tk [41] :: rest)) _ = _
    rw [zX, zh, zX, zh, qS, zp, zE]
    rfl
end Go.Proofs.YtnfhpdbbfejioaaGreatDoor
