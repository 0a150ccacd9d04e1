/- Plain: a text in pieces, tokens and blanks; its tokens, whatever the blanks are. Plain: expressions in pieces; expressions as they are read. Plain: the tokens of a written expression are read as that expression. Plain: what is read of tokens is an expression as it is written, with no more tokens. Plain: statements in pieces; their tokens are read as these statements. Plain: the tokens of written statements are read as these statements. Plain: what is read of tokens are statements as they are written, with no more tokens. Plain: programs in pieces; what is written is read as it was, whatever the blanks are. TreeBack, walked. Plain: other blanks, byte by byte; how long a text with them is. TreeBlanks, walked. -/
import Derived.Test.YtpakgaegckkmnaaGreatDoorT0
import Derived.Lib.ItoaMem
import Derived.Test.YtpakgaegckkmnaaGreatDoorMC
namespace Go.Proofs.YtpakgaegckkmnaaGreatDoor
set_option linter.unusedVariables false
set_option linter.unusedSimpArgs false
open Go

/-- A piece: a token (kinds 0 to 2), or a blank (kind 9). -/
structure Pc where
  k : Nat
  w : By
abbrev bl (c : UInt8) : Pc := ⟨9, [c]⟩
abbrev fx (x : By) : Pc := ⟨1, x⟩
/-- The text of pieces; with other blanks (by number and sign); their tokens. -/
def txt (l : List Pc) : By := l.flatMap (·.w)
def txtF (fl : Nat → UInt8 → By) : Nat → List Pc → By
  | _, [] => []
  | n, p :: q => if p.k = 9 then fl n (p.w.headD 32) ++ txtF fl (n + 1) q else p.w ++ txtF fl n q
def tks : List Pc → List Tok
  | [] => []
  | p :: q => if p.k = 9 then tks q else ⟨p.k, p.w, 0⟩ :: tks q
theorem tks_app : ∀ a b : List Pc, tks (a ++ b) = tks a ++ tks b
  | [], b => rfl
  | p :: a, b => by
    rw [List.cons_append, tks, tks, tks_app a b]
    split <;> rfl
theorem txt_app (a b : List Pc) : txt (a ++ b) = txt a ++ txt b := by simp [txt]
theorem txt_cons (p : Pc) (a : List Pc) : txt (p :: a) = p.w ++ txt a := by simp [txt]
theorem txt_nil : txt [] = [] := rfl

abbrev alnum : By := lets ++ digs
def Nam (w : By) : Prop := w ≠ [] ∧ (∀ c ∈ w, alnum.contains c = true) ∧ digs.contains (w.headD 0) = false ∧ wordsL.contains w = false ∧ w.length ≤ 12
def Dig (w : By) : Prop := w ≠ [] ∧ ∀ c ∈ w, digs.contains c = true
/-- A piece as it may be. -/
def PcOk (p : Pc) : Prop := (p.k = 9 ∧ (p.w = [32] ∨ p.w = [10])) ∨ (p.k = 0 ∧ Nam p.w) ∨ (p.k = 2 ∧ Dig p.w) ∨ (p.k = 1 ∧ p.w ∈ wordsL) ∨ (p.k = 1 ∧ p.w ∈ marksL)
/-- May this sign stand behind a piece? -/
def ok1 (p : Pc) (c : UInt8) : Bool := p.k == 9 || (if alnum.contains (p.w.headD 0) then !alnum.contains c else if [[60], [62], [61], [33]].contains p.w then c != 61 else true)
def fb (c : UInt8) : List Pc → UInt8
  | [] => c
  | p :: _ => if p.k = 9 then 32 else p.w.headD 32
def Sep (c : UInt8) : List Pc → Bool
  | [] => true
  | p :: q => ok1 p (fb c q) && Sep c q
theorem fb_app (c : UInt8) : ∀ a b : List Pc, fb c (a ++ b) = fb (fb c b) a
  | [], b => rfl
  | p :: a, b => rfl
theorem sep_app (c : UInt8) : ∀ a b : List Pc, Sep c (a ++ b) = (Sep (fb c b) a && Sep c b)
  | [], b => by simp [Sep]
  | p :: a, b => by rw [List.cons_append, Sep, Sep, sep_app c a b, fb_app, Bool.and_assoc]

theorem run_of (set : By) : ∀ (w R : By), (∀ c ∈ w, set.contains c = true) → set.contains (R.headD 32) = false → runV (w ++ R) set = w
  | [], [], _, _ => rfl
  | [], c :: R, _, h => by
    have : set.contains c = false := h
    unfold runV
    rw [List.nil_append, List.takeWhile_cons, this]
    rfl
  | x :: w, R, h1, h2 => by
    have ih := run_of set w R (fun c hc => h1 c (by simp [hc])) h2
    unfold runV at ih ⊢
    rw [List.cons_append, List.takeWhile_cons, h1 x (by simp), if_pos rfl, ih]
theorem run_no (set : By) (x : UInt8) (R : By) (h : set.contains x = false) : runV (x :: R) set = [] := by
  unfold runV
  rw [List.takeWhile_cons, h]
  rfl
theorem digs_sub : ∀ c, alnum.contains c = false → digs.contains c = false := by
  intro c h
  have h2 : alnum.contains c = (lets.contains c || digs.contains c) := by
    simp only [alnum, List.contains_eq_any_beq, List.any_append]
  rw [h2] at h
  simp only [Bool.or_eq_false_iff] at h
  exact h.2
theorem words_al : ∀ w ∈ wordsL, w ≠ [] ∧ (∀ c ∈ w, alnum.contains c = true) ∧ digs.contains (w.headD 0) = false := by decide
theorem marks_al : ∀ w ∈ marksL, w ≠ [] ∧ alnum.contains (w.headD 0) = false := by decide
theorem word_one {w R : By} (hw : w ≠ []) (ha : ∀ c ∈ w, alnum.contains c = true) (hd : digs.contains (w.headD 0) = false) (hR : alnum.contains (R.headD 32) = false) : oneTok (w ++ R) = some (if wordsL.contains w then 1 else 0, w) := by
  unfold oneTok
  have e1 : runV (w ++ R) digs = [] := by
    cases w with
    | nil => exact absurd rfl hw
    | cons x w => exact run_no digs x _ hd
  have e2 : runV (w ++ R) (lets ++ digs) = w := run_of alnum w R ha hR
  rw [e1, e2, if_neg (by simp), if_pos hw]
theorem num_one {w R : By} (h : Dig w) (hR : alnum.contains (R.headD 32) = false) : oneTok (w ++ R) = some (2, w) := by
  unfold oneTok
  have e1 : runV (w ++ R) digs = w := run_of digs w R h.2 (digs_sub _ hR)
  rw [e1, if_pos h.1]
theorem mark_one {w R : By} (h : w ∈ marksL) (hR : [[60], [62], [61], [33]].contains w = true → R.headD 32 ≠ 61) : oneTok (w ++ R) = some (1, w) := by
  have ha := marks_al w h
  have e1 : runV (w ++ R) alnum = [] := by
    cases w with
    | nil => exact absurd rfl ha.1
    | cons x w => exact run_no alnum x _ ha.2
  have e2 : runV (w ++ R) digs = [] := by
    cases w with
    | nil => exact absurd rfl ha.1
    | cons x w => exact run_no digs x _ (digs_sub _ ha.2)
  unfold oneTok
  rw [e2, show runV (w ++ R) (lets ++ digs) = [] from e1, if_neg (by simp), if_neg (by simp)]
  have hf : marksL.find? (·.isPrefixOf (w ++ R)) = some w := by
    clear ha e1 e2
    simp only [marksL, List.mem_cons, List.not_mem_nil, or_false] at h
    rcases h with rfl | rfl | rfl | rfl | rfl | rfl | rfl | rfl | rfl | rfl | rfl | rfl | rfl | rfl | rfl | rfl | rfl | rfl | rfl | rfl | rfl | rfl | rfl | rfl
    all_goals first
      | (simp [marksL, List.find?, List.isPrefixOf]; done)
      | (have h61 := hR (by decide)
         cases R with
         | nil => simp [marksL, List.find?, List.isPrefixOf]
         | cons c R =>
           have hc : ¬ c = 61 := h61
           have hc2 : (61 == c) = false := by simp; exact fun e => hc e.symm
           simp [marksL, List.find?, List.isPrefixOf, hc2])
  rw [hf]
  rfl
/-- The token that a piece is. -/
theorem one_of {p : Pc} {R : By} (h : PcOk p) (h9 : p.k ≠ 9) (ho : ok1 p (R.headD 32) = true) : oneTok (p.w ++ R) = some (p.k, p.w) := by
  unfold ok1 at ho
  have h9' : (p.k == 9) = false := by simpa using h9
  rw [h9', Bool.false_or] at ho
  rcases h with ⟨h1, _⟩ | ⟨h1, h2⟩ | ⟨h1, h2⟩ | ⟨h1, h2⟩ | ⟨h1, h2⟩
  · exact absurd h1 h9
  · obtain ⟨a, b, c, d, _⟩ := h2
    have hal : alnum.contains (p.w.headD 0) = true := by
      cases hw : p.w with
      | nil => exact absurd hw a
      | cons x w => exact b x (by rw [hw]; simp)
    rw [if_pos hal] at ho
    rw [word_one a b c (by simpa using ho), d, h1]
    rfl
  · have hal : alnum.contains (p.w.headD 0) = true := by
      cases hw : p.w with
      | nil => exact absurd hw h2.1
      | cons x w =>
        have hx := h2.2 x (by rw [hw]; simp)
        have : alnum.contains x = (lets.contains x || digs.contains x) := by simp only [alnum, List.contains_eq_any_beq, List.any_append]
        show alnum.contains x = true
        rw [this, hx, Bool.or_true]
    rw [if_pos hal] at ho
    rw [num_one h2 (by simpa using ho), h1]
  · obtain ⟨a, b, c⟩ := words_al _ h2
    have hal : alnum.contains (p.w.headD 0) = true := by
      cases hw : p.w with
      | nil => exact absurd hw a
      | cons x w => exact b x (by rw [hw]; simp)
    rw [if_pos hal] at ho
    rw [word_one a b c (by simpa using ho), h1, if_pos (List.contains_iff_mem.2 h2)]
  · have hal := (marks_al _ h2).2
    rw [if_neg (by rw [hal]; simp)] at ho
    rw [mark_one h2 (fun hm => by rw [if_pos hm] at ho; simpa using ho), h1]
theorem al_skip : ∀ c : UInt8, alnum.contains c = true → ¬ (c = 32 ∨ c = 9 ∨ c = 10) ∧ ¬ c = 35 := by
  intro c h
  refine ⟨fun e => ?_, fun e => ?_⟩
  · rcases e with rfl | rfl | rfl <;> revert h <;> decide
  · subst e
    revert h
    decide
theorem marks_skip : ∀ w ∈ marksL, ¬ (w.headD 0 = 32 ∨ w.headD 0 = 9 ∨ w.headD 0 = 10) ∧ ¬ w.headD 0 = 35 := by decide
theorem skip_tok {p : Pc} (R : By) (h : PcOk p) (h9 : p.k ≠ 9) : p.w ≠ [] ∧ skipS false (p.w ++ R) = p.w ++ R := by
  have key : p.w ≠ [] ∧ ¬ (p.w.headD 0 = 32 ∨ p.w.headD 0 = 9 ∨ p.w.headD 0 = 10) ∧ ¬ p.w.headD 0 = 35 := by
    have al : p.w ≠ [] → (∀ c ∈ p.w, alnum.contains c = true) → p.w ≠ [] ∧ ¬ (p.w.headD 0 = 32 ∨ p.w.headD 0 = 9 ∨ p.w.headD 0 = 10) ∧ ¬ p.w.headD 0 = 35 := fun a b => by
      refine ⟨a, al_skip _ ?_⟩
      cases hw : p.w with
      | nil => exact absurd hw a
      | cons x w => exact b x (by rw [hw]; simp)
    rcases h with ⟨h1, _⟩ | ⟨h1, h2⟩ | ⟨h1, h2⟩ | ⟨h1, h2⟩ | ⟨h1, h2⟩
    · exact absurd h1 h9
    · exact al h2.1 h2.2.1
    · refine al h2.1 (fun c hc => ?_)
      have : alnum.contains c = (lets.contains c || digs.contains c) := by simp only [alnum, List.contains_eq_any_beq, List.any_append]
      rw [this, h2.2 c hc, Bool.or_true]
    · exact al (words_al _ h2).1 (words_al _ h2).2.1
    · exact ⟨(marks_al _ h2).1, marks_skip _ h2⟩
  obtain ⟨a, b, c⟩ := key
  refine ⟨a, ?_⟩
  cases hw : p.w with
  | nil => exact absurd hw a
  | cons x w =>
    rw [hw] at b c
    have b' : ¬ (x = 32 ∨ x = 9 ∨ x = 10) := b
    have c' : ¬ x = 35 := c
    rw [List.cons_append, skipS, if_neg b', if_neg c']

/-- Blanks that stand for a blank. -/
def FlOk (fl : Nat → UInt8 → By) : Prop := ∀ n c, (c = 32 ∨ c = 10) → (∃ x y, fl n c = x :: y ∧ (x = 32 ∨ x = 9 ∨ x = 10)) ∧ ∀ R, skipS false (fl n c ++ R) = skipS false R
theorem ok1_bl (p : Pc) (x : UInt8) (h : x = 32 ∨ x = 9 ∨ x = 10) : ok1 p x = true := by
  have a : alnum.contains x = false ∧ (x != 61) = true := by rcases h with rfl | rfl | rfl <;> decide
  unfold ok1
  rw [a.1, a.2]
  simp
theorem pc_bl {p : Pc} (h : PcOk p) (h9 : p.k = 9) : p.w.headD 32 = 32 ∨ p.w.headD 32 = 10 := by
  rcases h with ⟨_, h | h⟩ | ⟨h1, _⟩ | ⟨h1, _⟩ | ⟨h1, _⟩ | ⟨h1, _⟩
  · rw [h]; exact .inl rfl
  · rw [h]; exact .inr rfl
  all_goals omega
theorem fb_txt {fl : Nat → UInt8 → By} (hf : FlOk fl) (p : Pc) : ∀ (q : List Pc) (n : Nat), (∀ x ∈ q, PcOk x) → ok1 p (fb 32 q) = true → ok1 p ((txtF fl n q).headD 32) = true
  | [], n, _, h => h
  | x :: q, n, hq, h => by
    rw [txtF]
    rw [fb] at h
    split
    · rename_i h9
      obtain ⟨⟨y, z, e, hy⟩, _⟩ := hf n _ (pc_bl (hq x (by simp)) h9)
      rw [e]
      exact ok1_bl p y hy
    · rename_i h9
      rw [if_neg h9] at h
      have := (skip_tok [] (hq x (by simp)) h9).1
      cases hw : x.w with
      | nil => exact absurd hw this
      | cons y w =>
        rw [hw] at h
        exact h
/-- The tokens of pieces' text. -/
theorem cut_pcs {fl : Nat → UInt8 → By} (hf : FlOk fl) (N : Nat) : ∀ (q : List Pc) (n F : Nat) (L : List Tok), (∀ x ∈ q, PcOk x) → Sep 32 q = true → (txtF fl n q).length + 1 ≤ F → L.length + (tks q).length ≤ 1500 → ∃ az : List Tok, az.map (fun t => (⟨t.k, t.t, 0⟩ : Tok)) = tks q ∧ cutV N F (skipS false (txtF fl n q)) L = .ok (L ++ az ++ [⟨3, [], N⟩])
  | [], n, F, L, _, _, h1, _ => by
    obtain ⟨F, rfl⟩ : ∃ F', F = F' + 1 := ⟨F - 1, by omega⟩
    exact ⟨[], rfl, by simp [txtF, skipS, cutV]⟩
  | p :: q, n, F, L, hq, hs, h1, h2 => by
    rw [Sep, Bool.and_eq_true] at hs
    rw [txtF] at h1 ⊢
    rw [tks] at h2 ⊢
    have hq' : ∀ x ∈ q, PcOk x := fun x hx => hq x (by simp [hx])
    split
    · rename_i h9
      rw [if_pos h9] at h1 h2
      obtain ⟨_, hR⟩ := hf n _ (pc_bl (hq p (by simp)) h9)
      rw [hR]
      exact cut_pcs hf N q (n + 1) F L hq' hs.2 (by simp at h1; omega) h2
    · rename_i h9
      rw [if_neg h9] at h1 h2
      obtain ⟨hne, hsk⟩ := skip_tok (txtF fl n q) (hq p (by simp)) h9
      have hone := one_of (hq p (by simp)) h9 (fb_txt hf p q n hq' hs.1)
      obtain ⟨F, rfl⟩ : ∃ F', F = F' + 1 := ⟨F - 1, by omega⟩
      have hpos : 0 < p.w.length := List.length_pos_iff.2 hne
      simp only [List.length_append, List.length_cons] at h1 h2
      obtain ⟨az, a1, a2⟩ := cut_pcs hf N q n F (L ++ [⟨p.k, p.w, N - (p.w ++ txtF fl n q).length⟩]) hq' hs.2 (by omega) (by simp; omega)
      refine ⟨⟨p.k, p.w, N - (p.w ++ txtF fl n q).length⟩ :: az, by rw [List.map_cons, a1], ?_⟩
      rw [hsk, cutV, if_neg (by simp [hne]), hone]
      show (if L.length = 1500 then _ else cutV N F (skipS false ((p.w ++ txtF fl n q).drop p.w.length)) _) = _
      rw [if_neg (by omega), List.drop_left, a2]
      simp
theorem tok_pcs {fl : Nat → UInt8 → By} (hf : FlOk fl) (q : List Pc) (h1 : ∀ x ∈ q, PcOk x) (h2 : Sep 32 q = true) (h3 : (tks q).length ≤ 1500) : ∃ r : List Tok, tokV (txtF fl 0 q) = .ok r ∧ r.map (fun t => (⟨t.k, t.t, 0⟩ : Tok)) = tks q ++ [⟨3, [], 0⟩] := by
  obtain ⟨az, a1, a2⟩ := cut_pcs hf (txtF fl 0 q).length q 0 ((txtF fl 0 q).length + 1) [] h1 h2 (Nat.le_refl _) (by simpa using h3)
  exact ⟨_, a2, by rw [List.nil_append, List.map_append, a1]; rfl⟩
/-- A blank's own sign. -/
def ownFl : Nat → UInt8 → By := fun _ c => [c]
theorem own_ok : FlOk ownFl := fun n c h => by
  refine ⟨⟨c, [], rfl, by rcases h with rfl | rfl <;> simp⟩, fun R => ?_⟩
  show skipS false (c :: R) = _
  rw [skipS, if_pos (by rcases h with rfl | rfl <;> simp)]
theorem own_txt : ∀ (q : List Pc) (n : Nat), (∀ x ∈ q, PcOk x) → txtF ownFl n q = txt q
  | [], _, _ => rfl
  | p :: q, n, h => by
    have ih := fun m => own_txt q m (fun x hx => h x (by simp [hx]))
    rw [txtF, txt_cons, ih, ih]
    split
    · rename_i h9
      have : ownFl n (p.w.headD 32) = p.w := by
        rcases h p (by simp) with ⟨_, e | e⟩ | ⟨h1, _⟩ | ⟨h1, _⟩ | ⟨h1, _⟩ | ⟨h1, _⟩
        · rw [e]; rfl
        · rw [e]; rfl
        all_goals omega
      rw [this]
    · rfl
end Go.Proofs.YtpakgaegckkmnaaGreatDoor

namespace Go.Proofs.YtpakgaegckkmnaaGreatDoor
set_option linter.unusedVariables false
set_option linter.unusedSimpArgs false
open Go

def hpc (t : Tr) (k : Nat) (s : List Pc) : List Pc := if k ≤ holdsV t then s else fx [40] :: (s ++ [fx [41]])
def sepc : Tr → List Pc
  | .slice [] [] => []
  | _ => [fx [44], bl 32]
/-- An expression (args) in pieces. -/
def pcE : Tr → List Pc
  | .agg [.lit (.int _ c), .lit (.int _ _), .lit (.int _ n), .lit (.string nm), .lit (.string op), l, r, g] =>
    if c = 1 then [⟨2, Lib.itoa n⟩]
    else if c = 2 then [⟨0, nm⟩]
    else if c = 3 then hpc l (nearV op) (pcE l) ++ ([bl 32, fx op, bl 32] ++ hpc r (nearV op + 1) (pcE r))
    else if c = 4 then fx op :: hpc l 7 (pcE l)
    else if c = 5 then ⟨0, nm⟩ :: fx [40] :: (pcE g ++ [fx [41]])
    else if c = 6 then fx [110, 101, 119] :: fx [40] :: (pcE l ++ [fx [41]])
    else if c = 7 then fx [108, 101, 110] :: fx [40] :: (pcE l ++ [fx [41]])
    else if c = 9 then [fx [105, 110, 112, 117, 116], fx [40], fx [41]]
    else if c = 8 then hpc l 8 (pcE l) ++ (fx [91] :: (pcE r ++ [fx [93]]))
    else []
  | .slice [x] [g] => pcE x ++ (sepc g ++ pcE g)
  | _ => []
theorem pc_1 (a n : Int) (nm op : By) (l r g : Tr) : pcE (nd 1 a n nm op l r g) = [⟨2, Lib.itoa n⟩] := by rw [pcE]; simp
theorem pc_2 (a n : Int) (nm op : By) (l r g : Tr) : pcE (nd 2 a n nm op l r g) = [⟨0, nm⟩] := by rw [pcE]; simp
theorem pc_3 (a n : Int) (nm op : By) (l r g : Tr) : pcE (nd 3 a n nm op l r g) = hpc l (nearV op) (pcE l) ++ ([bl 32, fx op, bl 32] ++ hpc r (nearV op + 1) (pcE r)) := by rw [pcE]; simp
theorem pc_4 (a n : Int) (nm op : By) (l r g : Tr) : pcE (nd 4 a n nm op l r g) = fx op :: hpc l 7 (pcE l) := by rw [pcE]; simp
theorem pc_5 (a n : Int) (nm op : By) (l r g : Tr) : pcE (nd 5 a n nm op l r g) = ⟨0, nm⟩ :: fx [40] :: (pcE g ++ [fx [41]]) := by rw [pcE]; simp
theorem pc_6 (a n : Int) (nm op : By) (l r g : Tr) : pcE (nd 6 a n nm op l r g) = fx [110, 101, 119] :: fx [40] :: (pcE l ++ [fx [41]]) := by rw [pcE]; simp
theorem pc_7 (a n : Int) (nm op : By) (l r g : Tr) : pcE (nd 7 a n nm op l r g) = fx [108, 101, 110] :: fx [40] :: (pcE l ++ [fx [41]]) := by rw [pcE]; simp
theorem pc_8 (a n : Int) (nm op : By) (l r g : Tr) : pcE (nd 8 a n nm op l r g) = hpc l 8 (pcE l) ++ (fx [91] :: (pcE r ++ [fx [93]])) := by rw [pcE]; simp
theorem pc_9 (a n : Int) (nm op : By) (l r g : Tr) : pcE (nd 9 a n nm op l r g) = [fx [105, 110, 112, 117, 116], fx [40], fx [41]] := by rw [pcE]; simp
theorem pc_cc (x g : Tr) : pcE (cc x g) = pcE x ++ (sepc g ++ pcE g) := by rw [pcE]
theorem pc_ce : pcE ce = [] := by simp [pcE]

/-- One deeper, where it is held by ( and ). -/
def up (t : Tr) (k : Nat) : Nat := if k ≤ holdsV t then 0 else 1
/-- An expression as it is read: fuel, how deep it stands. -/
def RE : Nat → Nat → Tr → Prop
  | 0, _, _ => False
  | f + 1, d, t => d ≤ 12 ∧
    ((∃ (a n : Int), 0 ≤ n ∧ n ≤ 9223372036854775807 ∧ t = nd 1 a n [] [] .nil .nil ce) ∨
     (∃ (a : Int) (nm : By), Nam nm ∧ t = nd 2 a 0 nm [] .nil .nil ce) ∨
     (∃ (a : Int) (op : By) (l r : Tr), 1 ≤ nearV op ∧ RE f (d + up l (nearV op)) l ∧ RE f (d + up r (nearV op + 1)) r ∧ t = nd 3 a 0 [] op l r ce) ∨
     (∃ (a : Int) (op : By) (l : Tr), (op = [45] ∨ op = [33]) ∧ RE f (d + 1 + up l 7) l ∧ t = nd 4 a 0 [] op l .nil ce) ∨
     (∃ (a : Int) (nm : By) (xs : List Tr), Nam nm ∧ (∀ x ∈ xs, RE f (d + 1) x) ∧ t = nd 5 a 0 nm [] .nil .nil (chain xs)) ∨
     (∃ (a : Int) (l : Tr), RE f (d + 1) l ∧ t = nd 6 a 0 [] [] l .nil ce) ∨
     (∃ (a : Int) (l : Tr), RE f (d + 1) l ∧ t = nd 7 a 0 [] [] l .nil ce) ∨
     (∃ (a : Int) (l r : Tr), RE f (d + up l 8) l ∧ RE f (d + 1) r ∧ t = nd 8 a 0 [] [] l r ce) ∨
     (∃ (a : Int), t = nd 9 a 0 [] [] .nil .nil ce))
theorem re_mono : ∀ (f f' d d' : Nat) (t : Tr), f ≤ f' → d' ≤ d → RE f d t → RE f' d' t
  | 0, _, _, _, _, _, _, h => h.elim
  | f + 1, 0, _, _, _, hf, _, _ => by omega
  | f + 1, f' + 1, d, d', t, hf, hd, h => by
    have ih : ∀ (d d' : Nat) (t : Tr), d' ≤ d → RE f d t → RE f' d' t := fun d d' t h1 h2 => re_mono f f' d d' t (by omega) h1 h2
    rw [RE] at h ⊢
    obtain ⟨h12, h⟩ := h
    refine ⟨by omega, ?_⟩
    rcases h with h | h | ⟨a, op, l, r, h1, h2, h3, e⟩ | ⟨a, op, l, h1, h2, e⟩ | ⟨a, nm, xs, h1, h2, e⟩ | ⟨a, l, h2, e⟩ | ⟨a, l, h2, e⟩ | ⟨a, l, r, h2, h3, e⟩ | h
    · exact .inl h
    · exact .inr (.inl h)
    · exact .inr (.inr (.inl ⟨a, op, l, r, h1, ih _ _ _ (by omega) h2, ih _ _ _ (by omega) h3, e⟩))
    · exact .inr (.inr (.inr (.inl ⟨a, op, l, h1, ih _ _ _ (by omega) h2, e⟩)))
    · exact .inr (.inr (.inr (.inr (.inl ⟨a, nm, xs, h1, fun x hx => ih _ _ _ (by omega) (h2 x hx), e⟩))))
    · exact .inr (.inr (.inr (.inr (.inr (.inl ⟨a, l, ih _ _ _ (by omega) h2, e⟩)))))
    · exact .inr (.inr (.inr (.inr (.inr (.inr (.inl ⟨a, l, ih _ _ _ (by omega) h2, e⟩))))))
    · exact .inr (.inr (.inr (.inr (.inr (.inr (.inr (.inl ⟨a, l, r, ih _ _ _ (by omega) h2, ih _ _ _ (by omega) h3, e⟩)))))))
    · exact .inr (.inr (.inr (.inr (.inr (.inr (.inr (.inr h)))))))
theorem re_le {f d : Nat} {t : Tr} (h : RE f d t) : d ≤ 12 := by
  cases f with
  | zero => exact h.elim
  | succ f => rw [RE] at h; exact h.1
theorem re_nd {f d : Nat} {t : Tr} (h : RE f d t) : ∃ c a n nm op l r g, t = nd c a n nm op l r g := by
  cases f with
  | zero => exact h.elim
  | succ f =>
    rw [RE] at h
    rcases h.2 with ⟨a, n, _, _, e⟩ | ⟨a, nm, _, e⟩ | ⟨a, op, l, r, h1, h2, h3, e⟩ | ⟨a, op, l, h1, h2, e⟩ | ⟨a, nm, xs, h1, h2, e⟩ | ⟨a, l, h2, e⟩ | ⟨a, l, h2, e⟩ | ⟨a, l, r, h2, h3, e⟩ | ⟨a, e⟩ <;> exact ⟨_, _, _, _, _, _, _, _, e⟩
theorem hold_re {f d : Nat} {t : Tr} (h : RE f d t) (k : Nat) (s : By) : hold t k s = if k ≤ holdsV t then s else [40] ++ s ++ [41] := by
  obtain ⟨c, a, n, nm, op, l, r, g, rfl⟩ := re_nd h
  rfl

theorem near_pair {m : By} (h : 1 ≤ nearV m) : ∃ x ∈ pairsL, x.1 = m ∧ nearV m = x.2 := by
  unfold nearV at h ⊢
  cases hf : pairsL.find? (·.1 == m) with
  | none => rw [hf] at h; simp at h
  | some x => exact ⟨x, List.mem_of_find?_eq_some hf, by simpa using List.find?_some hf, by simp⟩
theorem near_mark {m : By} (h : 1 ≤ nearV m) : m ∈ marksL ∧ nearV m ≤ 6 ∧ alnum.contains (m.headD 0) = false := by
  obtain ⟨x, hx, e1, e2⟩ := near_pair h
  have : ∀ x ∈ pairsL, x.1 ∈ marksL ∧ x.2 ≤ 6 ∧ alnum.contains (x.1.headD 0) = false := by decide
  rw [e2, ← e1]
  exact this x hx
theorem dec_dig : ∀ (k u : Nat), u < k → ∀ c ∈ Lib.decDigits u, digs.contains c = true
  | 0, u, h, _, _ => by omega
  | k + 1, u, h, c, hc => by
    have hd : ∀ i, i < 10 → digs.contains (UInt8.ofNat (48 + i)) = true := by decide
    rw [Lib.decDigits] at hc
    split at hc
    · rename_i h10
      simp only [List.mem_singleton] at hc
      subst hc
      exact hd u h10
    · simp only [List.mem_append, List.mem_singleton] at hc
      rcases hc with hc | hc
      · exact dec_dig k (u / 10) (by omega) c hc
      · subst hc
        exact hd _ (Nat.mod_lt _ (by omega))
theorem itoa_dig {n : Int} (h : 0 ≤ n) : Dig (Lib.itoa n) := by
  unfold Lib.itoa
  rw [if_neg (by omega)]
  refine ⟨?_, dec_dig _ _ (Nat.lt_succ_self _)⟩
  rw [Lib.decDigits]
  split <;> simp

/-- With what an expression begins. -/
def Fst (p : Pc) : Prop := (p.k = 0 ∧ Nam p.w) ∨ (p.k = 2 ∧ Dig p.w) ∨ (p.k = 1 ∧ p.w ∈ [[45], [33], [40], [110, 101, 119], [108, 101, 110], [105, 110, 112, 117, 116]])
structure Fa (q : List Pc) (s : By) : Prop where
  fst : ∃ p r, q = p :: r ∧ Fst p
  ok : ∀ x ∈ q, PcOk x
  sep : ∀ c, alnum.contains c = false → Sep c q = true
  tx : txt q = s
structure Fb (q : List Pc) (s : By) : Prop where
  ok : ∀ x ∈ q, PcOk x
  sep : ∀ c, alnum.contains c = false → Sep c q = true
  tx : txt q = s
theorem fst_head {p : Pc} (h : Fst p) : p.k ≠ 9 ∧ p.w ≠ [] ∧ p.w.headD 32 ≠ 61 := by
  have al : ∀ w : By, w ≠ [] → (∀ c ∈ w, alnum.contains c = true) → w ≠ [] ∧ w.headD 32 ≠ 61 := fun w a b => by
    refine ⟨a, ?_⟩
    cases w with
    | nil => exact absurd rfl a
    | cons x w =>
      intro e
      have e' : x = 61 := e
      have := b x (by simp)
      rw [e'] at this
      revert this
      decide
  rcases h with ⟨h1, h2⟩ | ⟨h1, h2⟩ | ⟨h1, h2⟩
  · exact ⟨by omega, al _ h2.1 h2.2.1⟩
  · refine ⟨by omega, al _ h2.1 fun c hc => ?_⟩
    have : alnum.contains c = (lets.contains c || digs.contains c) := by simp only [alnum, List.contains_eq_any_beq, List.any_append]
    rw [this, h2.2 c hc, Bool.or_true]
  · refine ⟨by omega, ?_⟩
    have : ∀ w ∈ ([[45], [33], [40], [110, 101, 119], [108, 101, 110], [105, 110, 112, 117, 116]] : List By), w ≠ [] ∧ w.headD 32 ≠ 61 := by decide
    exact this _ h2
theorem Fa.fb {q : List Pc} {s : By} (h : Fa q s) (c : UInt8) : fb c q ≠ 61 := by
  obtain ⟨p, r, rfl, hp⟩ := h.fst
  have := fst_head hp
  rw [YtpakgaegckkmnaaGreatDoor.fb, if_neg this.1]
  exact this.2.2
theorem Fa.b {q : List Pc} {s : By} (h : Fa q s) : Fb q s := ⟨h.ok, h.sep, h.tx⟩
theorem okm (x : By) (h : x ∈ marksL) : PcOk (fx x) := .inr (.inr (.inr (.inr ⟨rfl, h⟩)))
theorem okw (x : By) (h : x ∈ wordsL) : PcOk (fx x) := .inr (.inr (.inr (.inl ⟨rfl, h⟩)))
theorem ok32 : PcOk (bl 32) := .inl ⟨rfl, .inl rfl⟩
theorem ok10 : PcOk (bl 10) := .inl ⟨rfl, .inr rfl⟩
/-- A mark behind which anything may stand. -/
theorem ok1_any (x : By) (c : UInt8) (h : alnum.contains (x.headD 0) = false ∧ [[60], [62], [61], [33]].contains x = false) : ok1 (fx x) c = true := by
  unfold ok1
  rw [if_neg (by rw [h.1]; simp), if_neg (by rw [h.2]; simp)]
  simp
theorem ok1_al (p : Pc) (c : UInt8) (h : alnum.contains (p.w.headD 0) = true) (hc : alnum.contains c = false) : ok1 p c = true := by
  unfold ok1
  rw [if_pos h, hc]
  simp
theorem nam_al {w : By} (h : Nam w) : alnum.contains (w.headD 0) = true := by
  obtain ⟨a, b, _⟩ := h
  cases w with
  | nil => exact absurd rfl a
  | cons x w => exact b x (by simp)
theorem dig_al {w : By} (h : Dig w) : alnum.contains (w.headD 0) = true := by
  obtain ⟨a, b⟩ := h
  cases w with
  | nil => exact absurd rfl a
  | cons x w =>
    have : alnum.contains x = (lets.contains x || digs.contains x) := by simp only [alnum, List.contains_eq_any_beq, List.any_append]
    show alnum.contains x = true
    rw [this, b x (by simp), Bool.or_true]
theorem sep_one (p : Pc) (c : UInt8) (h : ok1 p c = true) : Sep c [p] = true := by
  rw [Sep, Sep, Bool.and_true]
  exact h
theorem sep_cons (p : Pc) (q : List Pc) (c : UInt8) (h1 : ok1 p (fb c q) = true) (h2 : Sep c q = true) : Sep c (p :: q) = true := by
  rw [Sep, h1, h2]
  rfl
theorem sep_two (a b : List Pc) (c : UInt8) (h1 : Sep (fb c b) a = true) (h2 : Sep c b = true) : Sep c (a ++ b) = true := by
  rw [sep_app, h1, h2]
  rfl
/-- Pieces between ( and ), or [ and ]. -/
theorem fb_in {q : List Pc} {s : By} (h : Fb q s) (x y : By) (hx : x ∈ marksL) (hx2 : alnum.contains (x.headD 0) = false ∧ [[60], [62], [61], [33]].contains x = false) (hy : y ∈ marksL) (hy2 : alnum.contains (y.headD 0) = false ∧ [[60], [62], [61], [33]].contains y = false) (hy3 : alnum.contains (y.headD 32) = false) : Fb (fx x :: (q ++ [fx y])) (x ++ s ++ y) := by
  refine ⟨fun z hz => ?_, fun c hc => ?_, ?_⟩
  · rcases List.mem_cons.1 hz with rfl | hz
    · exact okm x hx
    · rcases List.mem_append.1 hz with hz | hz
      · exact h.ok z hz
      · rw [List.mem_singleton] at hz
        subst hz
        exact okm y hy
  · refine sep_cons _ _ _ (ok1_any x _ hx2) (sep_two _ _ _ (h.sep _ hy3) (sep_one _ _ (ok1_any y c hy2)))
  · rw [txt_cons, txt_app, h.tx, txt_cons, txt_nil]
    simp
theorem fb_par {q : List Pc} {s : By} (h : Fb q s) : Fb (fx [40] :: (q ++ [fx [41]])) ([40] ++ s ++ [41]) := fb_in h [40] [41] (by decide) (by decide) (by decide) (by decide) (by decide)
theorem fb_idx {q : List Pc} {s : By} (h : Fb q s) : Fb (fx [91] :: (q ++ [fx [93]])) ([91] ++ s ++ [93]) := fb_in h [91] [93] (by decide) (by decide) (by decide) (by decide) (by decide)
theorem fa_hold {q : List Pc} {s : By} {f d : Nat} {t : Tr} (hr : RE f d t) (h : Fa q s) (k : Nat) : Fa (hpc t k q) (hold t k s) := by
  rw [hold_re hr]
  unfold hpc
  split
  · exact h
  · have := fb_par h.b
    exact ⟨⟨_, _, rfl, .inr (.inr ⟨rfl, by decide⟩)⟩, this.ok, this.sep, this.tx⟩
/-- A word or a name ahead of ( .. ). -/
theorem fa_call {p : Pc} {q : List Pc} {s : By} (hp : PcOk p) (hal : alnum.contains (p.w.headD 0) = true) (hf : Fst p) (h : Fb q s) : Fa (p :: fx [40] :: (q ++ [fx [41]])) ((p.w ++ [40]) ++ s ++ [41]) := by
  have h2 := fb_par h
  refine ⟨⟨_, _, rfl, hf⟩, fun z hz => ?_, fun c hc => sep_cons _ _ _ (ok1_al p _ hal (by show alnum.contains 40 = false; decide)) (h2.sep c hc), ?_⟩
  · rcases List.mem_cons.1 hz with rfl | hz
    · exact hp
    · exact h2.ok z hz
  · rw [txt_cons, h2.tx]
    simp
theorem fa_one {p : Pc} (hp : PcOk p) (hal : alnum.contains (p.w.headD 0) = true) (hf : Fst p) : Fa [p] p.w :=
  ⟨⟨_, _, rfl, hf⟩, fun z hz => by rw [List.mem_singleton] at hz; subst hz; exact hp, fun c hc => sep_one _ _ (ok1_al p _ hal hc), by rw [txt_cons, txt_nil]; simp⟩
theorem fa_app {a b : List Pc} {s t : By} (ha : Fa a s) (hb : Fb b t) (h : ∀ c, alnum.contains c = false → alnum.contains (fb c b) = false) : Fa (a ++ b) (s ++ t) := by
  obtain ⟨p, r, e, hp⟩ := ha.fst
  refine ⟨⟨p, r ++ b, by rw [e]; rfl, hp⟩, fun z hz => ?_, fun c hc => sep_two _ _ _ (ha.sep _ (h c hc)) (hb.sep c hc), by rw [txt_app, ha.tx, hb.tx]⟩
  rcases List.mem_append.1 hz with hz | hz
  · exact ha.ok z hz
  · exact hb.ok z hz
/-- Args. -/
theorem fb_args : ∀ (xs : List Tr), (∀ x ∈ xs, Fa (pcE x) (wrT x)) → Fb (pcE (chain xs)) (wrT (chain xs))
  | [], _ => by
    rw [show chain [] = ce from rfl, pc_ce]
    exact ⟨fun z hz => by simp at hz, fun c _ => rfl, by simp [txt, wrT]⟩
  | [x], h => by
    have hx := h x (by simp)
    have e1 : pcE (chain [x]) = pcE x := by rw [show chain [x] = cc x ce from rfl, pc_cc, pc_ce]; simp [sepc]
    have e2 : wrT (chain [x]) = wrT x := by simp [chain, wrT, sep]
    rw [e1, e2]
    exact hx.b
  | x :: y :: xs, h => by
    have hx := h x (by simp)
    have hr := fb_args (y :: xs) (fun z hz => h z (by simp [hz]))
    have e1 : pcE (chain (x :: y :: xs)) = pcE x ++ ([fx [44], bl 32] ++ pcE (chain (y :: xs))) := by rw [show chain (x :: y :: xs) = cc x (chain (y :: xs)) from rfl, pc_cc]; rfl
    have e2 : wrT (chain (x :: y :: xs)) = wrT x ++ ([44, 32] ++ wrT (chain (y :: xs))) := by
      show wrT (.slice [x] [chain (y :: xs)]) = _
      rw [wrT]
      simp [sep, chain]
    rw [e1, e2]
    refine (fa_app hx ⟨fun z hz => ?_, fun c hc => ?_, by rw [txt_app, hr.tx]; rfl⟩ (fun c _ => by show alnum.contains 44 = false; decide)).b
    · simp only [List.cons_append, List.nil_append, List.mem_cons] at hz
      rcases hz with rfl | rfl | hz
      · exact okm _ (by decide)
      · exact ok32
      · exact hr.ok z hz
    · exact sep_cons _ _ _ (ok1_any _ _ (by decide)) (sep_cons _ _ _ (by unfold ok1; rfl) (hr.sep c hc))
theorem re_fa : ∀ (f d : Nat) (t : Tr), RE f d t → Fa (pcE t) (wrT t)
  | 0, _, _, h => h.elim
  | f + 1, d, t, h => by
    rw [RE] at h
    rcases h.2 with ⟨a, n, h0, h1, rfl⟩ | ⟨a, nm, hn, rfl⟩ | ⟨a, op, l, r, h1, h2, h3, rfl⟩ | ⟨a, op, l, h1, h2, rfl⟩ | ⟨a, nm, xs, h1, h2, rfl⟩ | ⟨a, l, h2, rfl⟩ | ⟨a, l, h2, rfl⟩ | ⟨a, l, r, h2, h3, rfl⟩ | ⟨a, rfl⟩
    · rw [pc_1, wrT, if_pos rfl]
      exact fa_one (p := ⟨2, Lib.itoa n⟩) (.inr (.inr (.inl ⟨rfl, itoa_dig h0⟩))) (dig_al (itoa_dig h0)) (.inr (.inl ⟨rfl, itoa_dig h0⟩))
    · rw [pc_2, show wrT (nd 2 a 0 nm [] .nil .nil ce) = nm by rw [wrT]; simp]
      exact fa_one (p := ⟨0, nm⟩) (.inr (.inl ⟨rfl, hn⟩)) (nam_al hn) (.inl ⟨rfl, hn⟩)
    · have hl := fa_hold h2 (re_fa f _ l h2) (nearV op)
      have hr := fa_hold h3 (re_fa f _ r h3) (nearV op + 1)
      obtain ⟨m1, m2, m3⟩ := near_mark h1
      rw [pc_3, show wrT (nd 3 a 0 [] op l r ce) = hold l (nearV op) (wrT l) ++ ([32] ++ op ++ [32] ++ hold r (nearV op + 1) (wrT r)) by rw [wrT]; simp]
      refine fa_app hl ⟨fun z hz => ?_, fun c hc => ?_, by rw [txt_app, hr.tx]; simp [txt]⟩ (fun c _ => by show alnum.contains 32 = false; decide)
      · simp only [List.cons_append, List.nil_append, List.mem_cons] at hz
        rcases hz with rfl | rfl | rfl | hz
        · exact ok32
        · exact okm _ m1
        · exact ok32
        · exact hr.ok z hz
      · exact sep_cons _ _ _ (by unfold ok1; rfl) (sep_cons _ _ _ (ok1_bl _ _ (.inl rfl)) (sep_cons _ _ _ (by unfold ok1; rfl) (hr.sep c hc)))
    · have hl := fa_hold h2 (re_fa f _ l h2) 7
      rw [pc_4, show wrT (nd 4 a 0 [] op l .nil ce) = op ++ hold l 7 (wrT l) by rw [wrT]; simp]
      refine ⟨⟨_, _, rfl, .inr (.inr ⟨rfl, by rcases h1 with rfl | rfl <;> decide⟩)⟩, fun z hz => ?_, fun c hc => ?_, by rw [txt_cons, hl.tx]⟩
      · rcases List.mem_cons.1 hz with rfl | hz
        · exact okm _ (by rcases h1 with rfl | rfl <;> decide)
        · exact hl.ok z hz
      · refine sep_cons _ _ _ ?_ (hl.sep c hc)
        rcases h1 with rfl | rfl
        · exact ok1_any _ _ (by decide)
        · have := hl.fb c
          unfold ok1
          rw [if_neg (by decide), if_pos (by decide)]
          simpa using this
    · have hg := fb_args xs (fun x hx => re_fa f _ x (h2 x hx))
      rw [pc_5, show wrT (nd 5 a 0 nm [] .nil .nil (chain xs)) = (nm ++ [40]) ++ wrT (chain xs) ++ [41] by rw [wrT]; simp]
      exact fa_call (p := ⟨0, nm⟩) (.inr (.inl ⟨rfl, h1⟩)) (nam_al h1) (.inl ⟨rfl, h1⟩) hg
    · rw [pc_6, show wrT (nd 6 a 0 [] [] l .nil ce) = ([110, 101, 119] ++ [40]) ++ wrT l ++ [41] by rw [wrT]; simp]
      exact fa_call (p := fx [110, 101, 119]) (okw _ (by decide)) (by decide) (.inr (.inr ⟨rfl, by decide⟩)) (re_fa f _ l h2).b
    · rw [pc_7, show wrT (nd 7 a 0 [] [] l .nil ce) = ([108, 101, 110] ++ [40]) ++ wrT l ++ [41] by rw [wrT]; simp]
      exact fa_call (p := fx [108, 101, 110]) (okw _ (by decide)) (by decide) (.inr (.inr ⟨rfl, by decide⟩)) (re_fa f _ l h2).b
    · have hl := fa_hold h2 (re_fa f _ l h2) 8
      have hr := fb_idx (re_fa f _ r h3).b
      rw [pc_8, show wrT (nd 8 a 0 [] [] l r ce) = hold l 8 (wrT l) ++ ([91] ++ wrT r ++ [93]) by rw [wrT]; simp]
      exact fa_app hl hr (fun c _ => by show alnum.contains 91 = false; decide)
    · rw [pc_9, show wrT (nd 9 a 0 [] [] .nil .nil ce) = ([105, 110, 112, 117, 116] ++ [40]) ++ [] ++ [41] by rw [wrT]; simp]
      exact fa_call (p := fx [105, 110, 112, 117, 116]) (q := []) (okw _ (by decide)) (by decide) (.inr (.inr ⟨rfl, by decide⟩)) ⟨fun z hz => by simp at hz, fun c _ => rfl, rfl⟩
end Go.Proofs.YtpakgaegckkmnaaGreatDoor

namespace Go.Proofs.YtpakgaegckkmnaaGreatDoor
set_option linter.unusedVariables false
set_option linter.unusedSimpArgs false
open Go

abbrev tk (x : By) : Tok := ⟨1, x, 0⟩
abbrev te (t : Tr) : List Tok := tks (pcE t)
abbrev hk (t : Tr) (k : Nat) : List Tok := tks (hpc t k (pcE t))
theorem tks_fx (x : By) (q : List Pc) : tks (fx x :: q) = tk x :: tks q := by rw [tks, if_neg (by show ¬ (1 : Nat) = 9; decide)]
theorem tks_bl (c : UInt8) (q : List Pc) : tks (bl c :: q) = tks q := by rw [tks, if_pos rfl]
theorem tks_nm (x : By) (q : List Pc) : tks (⟨0, x⟩ :: q) = ⟨0, x, 0⟩ :: tks q := by rw [tks, if_neg (by show ¬ (0 : Nat) = 9; decide)]
theorem tks_nu (x : By) (q : List Pc) : tks (⟨2, x⟩ :: q) = ⟨2, x, 0⟩ :: tks q := by rw [tks, if_neg (by show ¬ (2 : Nat) = 9; decide)]
theorem tks_nil : tks [] = [] := rfl
theorem hk_eq (t : Tr) (k : Nat) : hk t k = if k ≤ holdsV t then te t else tk [40] :: (te t ++ [tk [41]]) := by
  unfold hk hpc
  split
  · rfl
  · rw [tks_fx, tks_app, tks_fx, tks_nil]
theorem need_hd (x : By) (l : List Tok) : needV x (tk x :: l) = .ok ((), l) := by
  unfold needV
  rw [if_pos (show (hd (tk x :: l)).t = x from rfl)]
  rfl
theorem bound_le {d : Nat} (h : d ≤ 12) (l : List Tok) : boundV d l = .ok ((), l) := by
  unfold boundV
  rw [if_neg (by omega)]
theorem bnd_eq {α β : Type} (a : α) (l : List Tok) (f : α → List Tok → R β) : bnd (.ok (a, l)) f = f a l := rfl

abbrev nu0 : Tok := ⟨3, [], 0⟩
/-- What may not stand behind an expression. -/
def Off (l : List Tok) : Prop := (hd l).t ≠ [91] ∧ (hd l).t ≠ [40]
def MX (X : List Tok) (y : Tr) (d : Nat) : Prop := ∀ F rest, (hd rest).t ≠ [40] → 12 * X.length + 4 ≤ F → ∃ F', F ≤ F' + 12 * X.length ∧ exV F 2 0 d .nil 0 (X ++ rest) = exV F' 3 0 d y 0 rest
def OX (X : List Tok) (y : Tr) (d : Nat) : Prop := ∀ F rest, Off rest → 12 * X.length + 4 ≤ F → exV F 2 0 d .nil 0 (X ++ rest) = .ok (y, rest)
def AX (k : Nat) (X : List Tok) (y : Tr) (d : Nat) : Prop := ∀ F rest, nearV (hd rest).t ≤ k → Off rest → 12 * X.length + (12 - k) ≤ F → ∃ F', F ≤ F' + 12 * X.length ∧ exV F 0 k d .nil 0 (X ++ rest) = exV F' 1 k d y 0 rest
def BX (k : Nat) (X : List Tok) (y : Tr) (d : Nat) : Prop := ∀ F rest, nearV (hd rest).t < k → Off rest → 12 * X.length + (12 - k) ≤ F → exV F 0 k d .nil 0 (X ++ rest) = .ok (y, rest)
/-- Tokens without places, one at least. -/
def Pos (X : List Tok) : Prop := ∃ x q, X = x :: q ∧ x.p = 0
theorem Pos.len {X : List Tok} (h : Pos X) : 1 ≤ X.length := by
  obtain ⟨x, q, rfl, _⟩ := h
  simp
theorem Pos.p {X : List Tok} (h : Pos X) (r : List Tok) : (hd (X ++ r)).p = 0 := by
  obtain ⟨x, q, rfl, e⟩ := h
  exact e
theorem o_of_m {X : List Tok} {y : Tr} {d : Nat} (h : MX X y d) : OX X y d := fun F rest ho hF => by
  obtain ⟨F', h1, h2⟩ := h F rest ho.2 hF
  obtain ⟨G, rfl⟩ : ∃ G, F' = G + 1 := ⟨F' - 1, by omega⟩
  rw [h2, exV, if_neg ho.1]
theorem b7_of_o {X : List Tok} {y : Tr} {d : Nat} (h : OX X y d) : BX 7 X y d := fun F rest hn ho hF => by
  obtain ⟨G, rfl⟩ : ∃ G, F = G + 1 := ⟨F - 1, by omega⟩
  rw [exV, if_pos (by omega)]
  exact h G rest ho (by omega)
theorem a_of_b {X : List Tok} {y : Tr} {d k : Nat} (hp : Pos X) (hk : k ≤ 6) (h : BX (k + 1) X y d) : AX k X y d := fun F rest hn ho hF => by
  have hl := hp.len
  obtain ⟨G, rfl⟩ : ∃ G, F = G + 1 := ⟨F - 1, by omega⟩
  refine ⟨G, by omega, ?_⟩
  rw [exV, if_neg (by omega), h G rest (by omega) ho (by omega), bnd_eq, hp.p]
theorem b_of_a {X : List Tok} {y : Tr} {d k : Nat} (hk : k ≤ 6) (h : AX k X y d) : BX k X y d := fun F rest hn ho hF => by
  obtain ⟨F', h1, h2⟩ := h F rest (by omega) ho hF
  obtain ⟨G, rfl⟩ : ∃ G, F' = G + 1 := ⟨F' - 1, by omega⟩
  rw [h2, exV, if_neg (by omega)]
theorem down {X : List Tok} {y : Tr} {d : Nat} (hp : Pos X) : ∀ (i k : Nat), k + i ≤ 7 → BX (k + i) X y d → BX k X y d
  | 0, k, _, h => h
  | i + 1, k, hk, h => by
    have h1 : BX (k + 1) X y d := down hp i (k + 1) (by omega) (by rw [show k + 1 + i = k + (i + 1) by omega]; exact h)
    exact b_of_a (by omega) (a_of_b hp (by omega) h1)
/-- All that is known of tokens that hold so near. -/
structure All (X : List Tok) (y : Tr) (d h : Nat) : Prop where
  pos : Pos X
  m : 8 ≤ h → MX X y d
  o : 7 ≤ h → OX X y d
  a : ∀ k, k ≤ 6 → k ≤ h → AX k X y d
  b : ∀ k, k ≤ 7 → k ≤ h → BX k X y d
theorem All.mono {X : List Tok} {y : Tr} {d h h' : Nat} (H : All X y d h) (hh : h' ≤ h) : All X y d h' := ⟨H.pos, fun e => H.m (by omega), fun e => H.o (by omega), fun k h1 h2 => H.a k h1 (by omega), fun k h1 h2 => H.b k h1 (by omega)⟩
theorem all_o {X : List Tok} {y : Tr} {d : Nat} (hp : Pos X) (h : OX X y d) : All X y d 7 := by
  have hb : ∀ k, k ≤ 7 → BX k X y d := fun k hk => down hp (7 - k) k (by omega) (by rw [show k + (7 - k) = 7 by omega]; exact b7_of_o h)
  exact ⟨hp, fun e => by omega, fun _ => h, fun k h1 _ => a_of_b hp h1 (hb (k + 1) (by omega)), fun k h1 _ => hb k h1⟩
theorem all_m {X : List Tok} {y : Tr} {d : Nat} (hp : Pos X) (h : MX X y d) : All X y d 8 := by
  have H := all_o hp (o_of_m h)
  exact ⟨hp, fun _ => h, fun _ => H.o (by omega), fun k h1 _ => H.a k h1 (by omega), fun k h1 _ => H.b k h1 (by omega)⟩
theorem all_a {X : List Tok} {y : Tr} {d j : Nat} (hp : Pos X) (hj : j ≤ 6) (h : AX j X y d) : All X y d j := by
  have hb : ∀ k, k ≤ j → BX k X y d := fun k hk => down hp (j - k) k (by omega) (by rw [show k + (j - k) = j by omega]; exact b_of_a hj h)
  refine ⟨hp, fun e => by omega, fun e => by omega, fun k h1 h2 => ?_, fun k h1 h2 => hb k h2⟩
  rcases Nat.lt_or_ge k j with hlt | hge
  · exact a_of_b hp h1 (hb (k + 1) (by omega))
  · obtain rfl : k = j := by omega
    exact h
/-- What a leaf is. -/
theorem m_leaf {X : List Tok} {y : Tr} {d : Nat} (hd' : d ≤ 12) (hp : Pos X) (hf : ∀ r, (hd (X ++ r)).t ≠ [45] ∧ (hd (X ++ r)).t ≠ [33]) (h : ∀ F rest, (hd rest).t ≠ [40] → 12 * X.length + 3 ≤ F → exV F 4 0 d .nil 0 (X ++ rest) = .ok (y, rest)) : MX X y d := fun F rest ho hF => by
  have hl := hp.len
  obtain ⟨G, rfl⟩ : ∃ G, F = G + 1 := ⟨F - 1, by omega⟩
  refine ⟨G, by omega, ?_⟩
  rw [exV, bound_le hd', bnd_eq, if_neg (by have := hf rest; exact fun e => e.elim this.1 this.2), h G rest ho (by omega), bnd_eq, hp.p]
/-- In ( and ). -/
theorem held_x {X : List Tok} {y : Tr} {d : Nat} (H : BX 1 X y (d + 1)) (F : Nat) (rest : List Tok) (hF : 12 * X.length + 13 ≤ F) : exV F 5 0 d .nil 0 (tk [40] :: (X ++ (tk [41] :: rest))) = .ok (y, rest) := by
  obtain ⟨G, rfl⟩ : ∃ G, F = G + 1 := ⟨F - 1, by omega⟩
  rw [exV, need_hd, bnd_eq, H G (tk [41] :: rest) (by show nearV [41] < 1; decide) ⟨by show ([41] : By) ≠ [91]; decide, by show ([41] : By) ≠ [40]; decide⟩ (by omega), bnd_eq, need_hd, bnd_eq]
theorem idx_x {X : List Tok} {y : Tr} {d : Nat} (H : BX 1 X y (d + 1)) (F : Nat) (rest : List Tok) (hF : 12 * X.length + 13 ≤ F) : exV F 6 0 d .nil 0 (X ++ (tk [93] :: rest)) = .ok (y, rest) := by
  obtain ⟨G, rfl⟩ : ∃ G, F = G + 1 := ⟨F - 1, by omega⟩
  rw [exV, H G (tk [93] :: rest) (by show nearV [93] < 1; decide) ⟨by show ([93] : By) ≠ [91]; decide, by show ([93] : By) ≠ [40]; decide⟩ (by omega), bnd_eq, need_hd, bnd_eq]
theorem par_app (X rest : List Tok) : (tk [40] :: (X ++ [tk [41]])) ++ rest = tk [40] :: (X ++ (tk [41] :: rest)) := by simp
theorem wrap_x {X : List Tok} {y : Tr} {d : Nat} (hd' : d ≤ 12) (H : BX 1 X y (d + 1)) : All (tk [40] :: (X ++ [tk [41]])) y d 8 := by
  have hp : Pos (tk [40] :: (X ++ [tk [41]])) := ⟨_, _, rfl, rfl⟩
  refine all_m hp (m_leaf hd' hp (fun r => ⟨by show ([40] : By) ≠ [45]; decide, by show ([40] : By) ≠ [33]; decide⟩) fun F rest ho hF => ?_)
  obtain ⟨G, rfl⟩ : ∃ G, F = G + 1 := ⟨F - 1, by omega⟩
  simp only [List.length_cons, List.length_append, List.length_nil] at hF
  rw [par_app, exV, if_neg (by show ¬ (1 : Nat) = 2; decide), if_neg (by show ¬ (1 : Nat) = 0; decide), if_neg (by show ¬ ([40] : By) = _; decide), if_neg (by show ¬ ([40] : By) = _; decide), if_neg (by show ¬ ([40] : By) = _; decide)]
  exact held_x H G rest (by omega)
/-- Args. -/
theorem te_chain1 (x : Tr) : te (chain [x]) = te x := by
  rw [show chain [x] = cc x ce from rfl]
  unfold te
  rw [pc_cc, pc_ce]
  simp [sepc]
theorem te_chain2 (x y : Tr) (xs : List Tr) : te (chain (x :: y :: xs)) = te x ++ (tk [44] :: te (chain (y :: xs))) := by
  rw [show chain (x :: y :: xs) = cc x (chain (y :: xs)) from rfl]
  unfold te
  rw [pc_cc, tks_app, tks_app, show sepc (chain (y :: xs)) = [fx [44], bl 32] from rfl, tks_fx, tks_bl, tks_nil]
  rfl
theorem args_x {d : Nat} : ∀ (xs : List Tr), xs ≠ [] → (∀ x ∈ xs, BX 1 (te x) (er x) (d + 1)) → ∀ F rest, 12 * (te (chain xs)).length + 13 ≤ F → exV F 7 0 d ce 0 (te (chain xs) ++ (tk [41] :: rest)) = .ok (er (chain xs), rest)
  | [], h, _, _, _, _ => absurd rfl h
  | [x], _, h, F, rest, hF => by
    rw [te_chain1] at hF ⊢
    obtain ⟨G, rfl⟩ : ∃ G, F = G + 1 := ⟨F - 1, by omega⟩
    rw [exV, h x (by simp) G (tk [41] :: rest) (by show nearV [41] < 1; decide) ⟨by show ([41] : By) ≠ [91]; decide, by show ([41] : By) ≠ [40]; decide⟩ (by omega), bnd_eq, if_neg (by show ¬ ([41] : By) = [44]; decide), need_hd, bnd_eq, show chain [x] = cc x ce from rfl, er_cc, er_ce]
  | x :: y :: xs, _, h, F, rest, hF => by
    rw [te_chain2] at hF ⊢
    simp only [List.length_append, List.length_cons] at hF
    obtain ⟨G, rfl⟩ : ∃ G, F = G + 1 := ⟨F - 1, by omega⟩
    have ih := args_x (y :: xs) (by simp) (fun z hz => h z (by simp [hz])) G rest (by omega)
    rw [List.append_assoc, List.cons_append, exV, h x (by simp) G (tk [44] :: (te (chain (y :: xs)) ++ (tk [41] :: rest))) (by show nearV [44] < 1; decide) ⟨by show ([44] : By) ≠ [91]; decide, by show ([44] : By) ≠ [40]; decide⟩ (by omega), bnd_eq, if_pos (by rfl)]
    show bnd (exV G 7 0 d ce 0 (te (chain (y :: xs)) ++ (tk [41] :: rest))) _ = _
    rw [ih, bnd_eq, show chain (x :: y :: xs) = cc x (chain (y :: xs)) from rfl, er_cc]
/-- The first token of an expression. -/
theorem te_first {f d : Nat} {t : Tr} (h : RE f d t) : ∃ p q, te t = ⟨p.k, p.w, 0⟩ :: q ∧ Fst p := by
  obtain ⟨p, r, e, hp⟩ := (re_fa f d t h).fst
  have h9 := (fst_head hp).1
  exact ⟨p, tks r, by unfold te; rw [e, tks, if_neg h9], hp⟩
theorem te_pos {f d : Nat} {t : Tr} (h : RE f d t) : Pos (te t) := by
  obtain ⟨p, q, e, _⟩ := te_first h
  exact ⟨_, _, e, rfl⟩
theorem fst_not {p : Pc} (h : Fst p) : p.w ≠ [41] ∧ p.w ≠ [] ∧ p.w ≠ [93] := by
  have al : ∀ w : By, w ≠ [] → (∀ c ∈ w, alnum.contains c = true) → w ≠ [41] ∧ w ≠ [] ∧ w ≠ [93] := fun w a b => by
    refine ⟨fun e => ?_, a, fun e => ?_⟩
    · have := b 41 (by rw [e]; simp)
      revert this
      decide
    · have := b 93 (by rw [e]; simp)
      revert this
      decide
  rcases h with ⟨h1, h2⟩ | ⟨h1, h2⟩ | ⟨h1, h2⟩
  · exact al _ h2.1 h2.2.1
  · refine al _ h2.1 fun c hc => ?_
    have : alnum.contains c = (lets.contains c || digs.contains c) := by simp only [alnum, List.contains_eq_any_beq, List.any_append]
    rw [this, h2.2 c hc, Bool.or_true]
  · have : ∀ w ∈ ([[45], [33], [40], [110, 101, 119], [108, 101, 110], [105, 110, 112, 117, 116]] : List By), w ≠ [41] ∧ w ≠ [] ∧ w ≠ [93] := by decide
    exact this _ h2
theorem al_not {w x : By} (c : UInt8) (hw : ∀ c ∈ w, alnum.contains c = true) (hx : x = [c]) (hc : alnum.contains c = false) : w ≠ x := fun e => by
  have := hw c (by rw [e, hx]; simp)
  rw [hc] at this
  cases this
theorem dig_alnum {w : By} (h : Dig w) : ∀ c ∈ w, alnum.contains c = true := fun c hc => by
  have : alnum.contains c = (lets.contains c || digs.contains c) := by simp only [alnum, List.contains_eq_any_beq, List.any_append]
  rw [this, h.2 c hc, Bool.or_true]
theorem chain_te {f d : Nat} {x : Tr} {xs : List Tr} (h : RE f d x) (r : List Tok) : (hd (te (chain (x :: xs)) ++ r)).t ≠ [41] := by
  obtain ⟨p, q, e, hp⟩ := te_first h
  have : ∃ z, te (chain (x :: xs)) = ⟨p.k, p.w, 0⟩ :: z := by
    cases xs with
    | nil => exact ⟨q, by rw [te_chain1, e]⟩
    | cons y xs => exact ⟨q ++ (tk [44] :: te (chain (y :: xs))), by rw [te_chain2, e]; rfl⟩
  obtain ⟨z, hz⟩ := this
  rw [hz]
  exact (fst_not hp).1
/-- A number is read as it was written. -/
theorem dig_natX (u : Nat) (h : u < 10) : (UInt8.ofNat (48 + u)).toNat = 48 + u := by simp [UInt8.toNat_ofNat']; omega
theorem parseM_app (M : Nat) : ∀ (l r : By) (acc u : Nat), Lib.parseUintM M acc l = .ok u → Lib.parseUintM M acc (l ++ r) = Lib.parseUintM M u r
  | [], r, acc, u, h => by simp only [Lib.parseUintM] at h; injection h with h; subst h; rfl
  | c :: l, r, acc, u, h => by
    simp only [Lib.parseUintM, List.cons_append] at h ⊢
    split at h
    · rename_i hc
      rw [if_pos hc]
      split at h
      · cases h
      · rename_i h1
        rw [if_neg h1]
        split at h
        · cases h
        · rename_i h2
          rw [if_neg h2]
          exact parseM_app M l r _ u h
    · cases h
theorem parseM_decX (M : Nat) (hM : M ≤ 18446744073709551615) : ∀ (k u : Nat), u < k → u ≤ M → Lib.parseUintM M 0 (Lib.decDigits u) = .ok u
  | 0, u, h, _ => by omega
  | k + 1, u, h, hu => by
    rw [Lib.decDigits]
    split
    · rename_i h10
      simp only [Lib.parseUintM, dig_natX u h10]
      rw [if_pos (by omega), if_neg (by omega), if_neg (by omega)]
      simp
    · rename_i h10
      rw [parseM_app M _ _ 0 (u / 10) (parseM_decX M hM k (u / 10) (by omega) (by omega))]
      simp only [Lib.parseUintM, dig_natX (u % 10) (Nat.mod_lt _ (by omega))]
      rw [if_pos (by omega), if_neg (by omega), if_neg (by omega)]
      congr 1
      omega
theorem parse_itoaX (n : Int) (h0 : 0 ≤ n) (h1 : n ≤ 9223372036854775807) : Lib.parseIntB 64 (Lib.itoa n) = .ok n := by
  have hdg := itoa_dig h0
  unfold Lib.itoa at hdg ⊢
  rw [if_neg (by omega)] at hdg ⊢
  have e : Lib.parseUintB 64 (Lib.decDigits n.toNat) = .ok n.toNat := by
    unfold Lib.parseUintB
    rw [if_neg hdg.1]
    exact parseM_decX _ (by decide) (n.toNat + 1) _ (by omega) (by omega)
  cases hd : Lib.decDigits n.toNat with
  | nil => exact absurd hd hdg.1
  | cons c r =>
    have hc : digs.contains c = true := hdg.2 c (by rw [hd]; simp)
    have hc43 : c.toNat ≠ 43 := fun e => by
      have : c = 43 := UInt8.toNat_inj.1 e
      rw [this] at hc
      revert hc
      decide
    have hc45 : c.toNat ≠ 45 := fun e => by
      have : c = 45 := UInt8.toNat_inj.1 e
      rw [this] at hc
      revert hc
      decide
    simp only [Lib.parseIntB]
    rw [if_neg (by omega), ← hd, e]
    dsimp only
    rw [if_neg (by omega), if_neg (by omega), if_neg (by omega)]
    congr 1
    omega
theorem holds_3 (a n : Int) (nm op : By) (l r g : Tr) : holdsV (nd 3 a n nm op l r g) = nearV op := by simp [holdsV]
theorem holds_4 (a n : Int) (nm op : By) (l r g : Tr) : holdsV (nd 4 a n nm op l r g) = 7 := by simp [holdsV]
theorem holds_8 {c : Int} (a n : Int) (nm op : By) (l r g : Tr) (h3 : c ≠ 3) (h4 : c ≠ 4) : holdsV (nd c a n nm op l r g) = 8 := by simp [holdsV, h3, h4]
theorem holds_pos {f d : Nat} {t : Tr} (h : RE f d t) : 1 ≤ holdsV t := by
  cases f with
  | zero => exact h.elim
  | succ f =>
    rw [RE] at h
    rcases h.2 with ⟨a, n, _, _, rfl⟩ | ⟨a, nm, _, rfl⟩ | ⟨a, op, l, r, h1, h2, h3, rfl⟩ | ⟨a, op, l, h1, h2, rfl⟩ | ⟨a, nm, xs, h1, h2, rfl⟩ | ⟨a, l, h2, rfl⟩ | ⟨a, l, h2, rfl⟩ | ⟨a, l, r, h2, h3, rfl⟩ | ⟨a, rfl⟩
    · rw [holds_8 _ _ _ _ _ _ _ (by decide) (by decide)]; omega
    · rw [holds_8 _ _ _ _ _ _ _ (by decide) (by decide)]; omega
    · rw [holds_3]; exact h1
    · rw [holds_4]; omega
    all_goals rw [holds_8 _ _ _ _ _ _ _ (by decide) (by decide)]; omega
/-- What a part is, held as near as it must be. -/
theorem hold_x {f d k : Nat} {t : Tr} (h : RE f (d + up t k) t) (hd' : d ≤ 12) (hk8 : k ≤ 8) (H : All (te t) (er t) (d + up t k) (holdsV t)) : All (hk t k) (er t) d k := by
  rw [hk_eq]
  unfold up at H h
  split
  · rename_i hle
    rw [if_pos hle] at H
    exact H.mono hle
  · rename_i hle
    rw [if_neg hle] at H h
    exact (wrap_x hd' (H.b 1 (by omega) (holds_pos h))).mono hk8
theorem hold_d {f d k : Nat} {t : Tr} (h : RE f (d + up t k) t) : d ≤ 12 := by have := re_le h; omega

set_option maxHeartbeats 1000000 in
theorem read_x : ∀ (f d : Nat) (t : Tr), RE f d t → All (te t) (er t) d (holdsV t)
  | 0, _, _, h => h.elim
  | f + 1, d, t, h => by
    have hpos := te_pos h
    have h12 := re_le h
    have IH : ∀ (d k : Nat) (t : Tr), k ≤ 8 → RE f (d + up t k) t → All (hk t k) (er t) d k := fun d k t hk8 h => hold_x h (hold_d h) hk8 (read_x f _ t h)
    have IB : ∀ (d : Nat) (t : Tr), RE f d t → BX 1 (te t) (er t) d := fun d t h => (read_x f d t h).b 1 (by omega) (holds_pos h)
    rw [RE] at h
    rcases h.2 with ⟨a, n, h0, h1, rfl⟩ | ⟨a, nm, hn, rfl⟩ | ⟨a, op, l, r, h1, h2, h3, rfl⟩ | ⟨a, op, l, h1, h2, rfl⟩ | ⟨a, nm, xs, h1, h2, rfl⟩ | ⟨a, l, h2, rfl⟩ | ⟨a, l, h2, rfl⟩ | ⟨a, l, r, h2, h3, rfl⟩ | ⟨a, rfl⟩
    · rw [holds_8 _ _ _ _ _ _ _ (by decide) (by decide)]
      refine all_m hpos (m_leaf h12 hpos (fun r => ?_) fun F rest ho hF => ?_)
      · unfold te
        rw [pc_1, tks_nu]
        exact ⟨al_not 45 (dig_alnum (itoa_dig h0)) rfl (by decide), al_not 33 (dig_alnum (itoa_dig h0)) rfl (by decide)⟩
      · obtain ⟨G, rfl⟩ : ∃ G, F = G + 1 := ⟨F - 1, by omega⟩
        unfold te
        rw [pc_1, tks_nu, tks_nil, List.cons_append, List.nil_append, exV, if_pos (by rfl)]
        unfold numVv
        rw [show (hd ((⟨2, Lib.itoa n, 0⟩ : Tok) :: rest)).t = Lib.itoa n from rfl, parse_itoaX n h0 h1]
        rw [er_nd, er_nil, er_ce]
        rfl
    · rw [holds_8 _ _ _ _ _ _ _ (by decide) (by decide)]
      refine all_m hpos (m_leaf h12 hpos (fun r => ?_) fun F rest ho hF => ?_)
      · unfold te
        rw [pc_2, tks_nm]
        exact ⟨al_not 45 hn.2.1 rfl (by decide), al_not 33 hn.2.1 rfl (by decide)⟩
      · obtain ⟨G, rfl⟩ : ∃ G, F = G + 1 := ⟨F - 1, by omega⟩
        have hnv : nameVv ((⟨0, nm, 0⟩ : Tok) :: rest) = .ok (nm, rest) := by
          unfold nameVv
          rw [if_neg (by show ¬ (0 : Nat) ≠ 0; decide), if_neg (by show ¬ 12 < nm.length; have := hn.2.2.2.2; omega)]
          rfl
        unfold te
        rw [pc_2, tks_nm, tks_nil, List.cons_append, List.nil_append, exV, if_neg (by show ¬ (0 : Nat) = 2; decide), if_pos (by rfl), hnv, bnd_eq, if_neg ho, er_nd, er_nil, er_ce]
        rfl
    · obtain ⟨m1, m2, m3⟩ := near_mark h1
      rw [holds_3]
      refine all_a hpos m2 fun F rest hn ho hF => ?_
      have HL := IH d (nearV op) l (by omega) h2
      have HR := IH d (nearV op + 1) r (by omega) h3
      have e : te (nd 3 a 0 [] op l r ce) = hk l (nearV op) ++ (tk op :: hk r (nearV op + 1)) := by
        unfold te hk
        rw [pc_3, tks_app, tks_app, tks_bl, tks_fx, tks_bl, tks_nil]
        rfl
      rw [e] at hF ⊢
      simp only [List.length_append, List.length_cons] at hF ⊢
      obtain ⟨F1, a1, a2⟩ := HL.a (nearV op) m2 (Nat.le_refl _) F (tk op :: (hk r (nearV op + 1) ++ rest)) (Nat.le_refl _) ⟨fun e => by have e' : op = [91] := e; rw [e'] at h1; revert h1; decide, fun e => by have e' : op = [40] := e; rw [e'] at h1; revert h1; decide⟩ (by omega)
      obtain ⟨G, rfl⟩ : ∃ G, F1 = G + 1 := ⟨F1 - 1, by omega⟩
      refine ⟨G, by omega, ?_⟩
      rw [List.append_assoc, List.cons_append, a2, exV, if_pos (by rfl)]
      show bnd (exV G 0 (nearV op + 1) d .nil 0 (hk r (nearV op + 1) ++ rest)) _ = _
      rw [HR.b (nearV op + 1) (by omega) (Nat.le_refl _) G rest (by omega) ho (by omega), bnd_eq, er_nd, er_ce]
      rfl
    · rw [holds_4]
      refine all_o hpos fun F rest ho hF => ?_
      have HL := IH (d + 1) 7 l (by omega) h2
      have e : te (nd 4 a 0 [] op l .nil ce) = tk op :: hk l 7 := by
        unfold te hk
        rw [pc_4, tks_fx]
      rw [e] at hF ⊢
      simp only [List.length_cons] at hF
      obtain ⟨G, rfl⟩ : ∃ G, F = G + 1 := ⟨F - 1, by omega⟩
      rw [List.cons_append, exV, bound_le h12, bnd_eq, if_pos (by exact h1)]
      show bnd (exV G 2 0 (d + 1) .nil 0 (hk l 7 ++ rest)) _ = _
      rw [HL.o (by omega) G rest ho (by omega), bnd_eq, er_nd, er_nil, er_ce]
      rfl
    · rw [holds_8 _ _ _ _ _ _ _ (by decide) (by decide)]
      refine all_m hpos (m_leaf h12 hpos (fun r => ?_) fun F rest ho hF => ?_)
      · unfold te
        rw [pc_5, tks_nm]
        exact ⟨al_not 45 h1.2.1 rfl (by decide), al_not 33 h1.2.1 rfl (by decide)⟩
      · obtain ⟨G, rfl⟩ : ∃ G, F = G + 1 := ⟨F - 1, by omega⟩
        have e : te (nd 5 a 0 nm [] .nil .nil (chain xs)) = ⟨0, nm, 0⟩ :: tk [40] :: (te (chain xs) ++ [tk [41]]) := by
          unfold te
          rw [pc_5, tks_nm, tks_fx, tks_app, tks_fx, tks_nil]
        rw [e] at hF ⊢
        simp only [List.length_cons, List.length_append, List.length_nil] at hF
        have e2 : (⟨0, nm, 0⟩ :: tk [40] :: (te (chain xs) ++ [tk [41]])) ++ rest = (⟨0, nm, 0⟩ : Tok) :: tk [40] :: (te (chain xs) ++ (tk [41] :: rest)) := by simp
        have hnv : ∀ l, nameVv ((⟨0, nm, 0⟩ : Tok) :: l) = .ok (nm, l) := fun l => by
          unfold nameVv
          rw [if_neg (by show ¬ (0 : Nat) ≠ 0; decide), if_neg (by show ¬ 12 < nm.length; have := h1.2.2.2.2; omega)]
          rfl
        rw [e2, exV, if_neg (by show ¬ (0 : Nat) = 2; decide), if_pos (by rfl), hnv, bnd_eq, if_pos (by rfl)]
        cases xs with
        | nil =>
          have e3 : te (chain []) = [] := by show tks (pcE ce) = []; rw [pc_ce]; rfl
          rw [e3, List.nil_append, if_pos (by rfl), er_nd, er_nil, show chain [] = ce from rfl, er_ce]
          rfl
        | cons x xs =>
          rw [if_neg (show ¬ (hd (tk [40] :: (te (chain (x :: xs)) ++ (tk [41] :: rest))).tail).t = [41] from chain_te (h2 x (by simp)) _)]
          show bnd (exV G 7 0 d ce 0 (te (chain (x :: xs)) ++ (tk [41] :: rest))) _ = _
          rw [args_x (x :: xs) (by simp) (fun z hz => IB _ z (h2 z hz)) G rest (by omega), bnd_eq, er_nd, er_nil]
          rfl
    · rw [holds_8 _ _ _ _ _ _ _ (by decide) (by decide)]
      have e : te (nd 6 a 0 [] [] l .nil ce) = tk [110, 101, 119] :: tk [40] :: (te l ++ [tk [41]]) := by
        unfold te
        rw [pc_6, tks_fx, tks_fx, tks_app, tks_fx, tks_nil]
      refine all_m hpos (m_leaf h12 hpos (fun r => ?_) fun F rest ho hF => ?_)
      · rw [e]
        exact ⟨by show ([110, 101, 119] : By) ≠ _; decide, by show ([110, 101, 119] : By) ≠ _; decide⟩
      · obtain ⟨G, rfl⟩ : ∃ G, F = G + 1 := ⟨F - 1, by omega⟩
        rw [e] at hF ⊢
        simp only [List.length_cons, List.length_append, List.length_nil] at hF
        have e2 : (tk [110, 101, 119] :: tk [40] :: (te l ++ [tk [41]])) ++ rest = tk [110, 101, 119] :: tk [40] :: (te l ++ (tk [41] :: rest)) := by simp
        rw [e2, exV, if_neg (by show ¬ (1 : Nat) = 2; decide), if_neg (by show ¬ (1 : Nat) = 0; decide), if_pos (by rfl)]
        show bnd (exV G 5 0 d .nil 0 (tk [40] :: (te l ++ (tk [41] :: rest)))) _ = _
        rw [held_x (IB _ l h2) G rest (by omega), bnd_eq, er_nd, er_nil, er_ce]
        rfl
    · rw [holds_8 _ _ _ _ _ _ _ (by decide) (by decide)]
      have e : te (nd 7 a 0 [] [] l .nil ce) = tk [108, 101, 110] :: tk [40] :: (te l ++ [tk [41]]) := by
        unfold te
        rw [pc_7, tks_fx, tks_fx, tks_app, tks_fx, tks_nil]
      refine all_m hpos (m_leaf h12 hpos (fun r => ?_) fun F rest ho hF => ?_)
      · rw [e]
        exact ⟨by show ([108, 101, 110] : By) ≠ _; decide, by show ([108, 101, 110] : By) ≠ _; decide⟩
      · obtain ⟨G, rfl⟩ : ∃ G, F = G + 1 := ⟨F - 1, by omega⟩
        rw [e] at hF ⊢
        simp only [List.length_cons, List.length_append, List.length_nil] at hF
        have e2 : (tk [108, 101, 110] :: tk [40] :: (te l ++ [tk [41]])) ++ rest = tk [108, 101, 110] :: tk [40] :: (te l ++ (tk [41] :: rest)) := by simp
        rw [e2, exV, if_neg (by show ¬ (1 : Nat) = 2; decide), if_neg (by show ¬ (1 : Nat) = 0; decide), if_neg (by show ¬ ([108, 101, 110] : By) = _; decide), if_pos (by rfl)]
        show bnd (exV G 5 0 d .nil 0 (tk [40] :: (te l ++ (tk [41] :: rest)))) _ = _
        rw [held_x (IB _ l h2) G rest (by omega), bnd_eq, er_nd, er_nil, er_ce]
        rfl
    · rw [holds_8 _ _ _ _ _ _ _ (by decide) (by decide)]
      have HL := IH d 8 l (by omega) h2
      have e : te (nd 8 a 0 [] [] l r ce) = hk l 8 ++ (tk [91] :: (te r ++ [tk [93]])) := by
        unfold te hk
        rw [pc_8, tks_app, tks_fx, tks_app, tks_fx, tks_nil]
      refine all_m hpos fun F rest ho hF => ?_
      rw [e] at hF ⊢
      simp only [List.length_cons, List.length_append, List.length_nil] at hF ⊢
      have e2 : (hk l 8 ++ (tk [91] :: (te r ++ [tk [93]]))) ++ rest = hk l 8 ++ (tk [91] :: (te r ++ (tk [93] :: rest))) := by simp
      obtain ⟨F1, a1, a2⟩ := HL.m (Nat.le_refl _) F (tk [91] :: (te r ++ (tk [93] :: rest))) (by show ([91] : By) ≠ [40]; decide) (by omega)
      obtain ⟨G, rfl⟩ : ∃ G, F1 = G + 1 := ⟨F1 - 1, by omega⟩
      refine ⟨G, by omega, ?_⟩
      rw [e2, a2, exV, if_pos (by rfl)]
      show bnd (exV G 6 0 d .nil 0 (te r ++ (tk [93] :: rest))) _ = _
      rw [idx_x (IB _ r h3) G rest (by omega), bnd_eq, er_nd, er_ce]
      rfl
    · rw [holds_8 _ _ _ _ _ _ _ (by decide) (by decide)]
      have e : te (nd 9 a 0 [] [] .nil .nil ce) = [tk [105, 110, 112, 117, 116], tk [40], tk [41]] := by
        unfold te
        rw [pc_9, tks_fx, tks_fx, tks_fx, tks_nil]
      refine all_m hpos (m_leaf h12 hpos (fun r => ?_) fun F rest ho hF => ?_)
      · rw [e]
        exact ⟨by show ([105, 110, 112, 117, 116] : By) ≠ _; decide, by show ([105, 110, 112, 117, 116] : By) ≠ _; decide⟩
      · obtain ⟨G, rfl⟩ : ∃ G, F = G + 1 := ⟨F - 1, by omega⟩
        rw [e]
        have e2 : [tk [105, 110, 112, 117, 116], tk [40], tk [41]] ++ rest = tk [105, 110, 112, 117, 116] :: tk [40] :: tk [41] :: rest := by simp
        rw [e2, exV, if_neg (by show ¬ (1 : Nat) = 2; decide), if_neg (by show ¬ (1 : Nat) = 0; decide), if_neg (by show ¬ ([105, 110, 112, 117, 116] : By) = _; decide), if_neg (by show ¬ ([105, 110, 112, 117, 116] : By) = _; decide), if_pos (by rfl)]
        show bnd (needV [40] (tk [40] :: tk [41] :: rest)) _ = _
        rw [need_hd, bnd_eq, need_hd, bnd_eq, er_nd, er_nil, er_ce]
        rfl
end Go.Proofs.YtpakgaegckkmnaaGreatDoor

namespace Go.Proofs.YtpakgaegckkmnaaGreatDoor
set_option linter.unusedVariables false
set_option linter.unusedSimpArgs false
open Go

/-- Tokens as a text has them. -/
def TkOk (l : List Tok) : Prop := ∀ x ∈ l, (x.k = 0 → x.t.length ≤ 12 → Nam x.t) ∧ (x.k = 2 → Dig x.t) ∧ (x.k = 3 → x.t = [])
theorem TkOk.tail {l : List Tok} (h : TkOk l) : TkOk l.tail := fun x hx => h x (List.mem_of_mem_tail hx)
theorem TkOk.hd {l : List Tok} (h : TkOk l) : ((hd l).k = 0 → (hd l).t.length ≤ 12 → Nam (hd l).t) ∧ ((hd l).k = 2 → Dig (hd l).t) ∧ ((hd l).k = 3 → (hd l).t = []) := by
  cases l with
  | nil => exact ⟨fun e => (by cases e), fun e => (by cases e), fun _ => rfl⟩
  | cons x l => exact h x (by simp)
theorem tl_len {l : List Tok} (h : (hd l).t ≠ []) : l.tail.length + 1 = l.length := by
  cases l with
  | nil => exact absurd rfl h
  | cons x l => simp
theorem tl_kind {l : List Tok} (h : TkOk l) (hk : (hd l).k = 0 ∨ (hd l).k = 2) : l.tail.length + 1 = l.length := by
  cases l with
  | nil => rcases hk with e | e <;> cases e
  | cons x l => simp
theorem up_mono {t : Tr} {k k' : Nat} (h : k ≤ k') : up t k ≤ up t k' := by
  unfold up
  split <;> split <;> omega
theorem up_one (t : Tr) (k : Nat) : up t k ≤ 1 := by
  unfold up
  split <;> omega
theorem hk_len (t : Tr) (k : Nat) : (hk t k).length = (te t).length + 2 * up t k := by
  rw [hk_eq]
  unfold up
  split
  · omega
  · simp only [List.length_cons, List.length_append, List.length_nil]
def RL (lv d : Nat) (t : Tr) (n m : Nat) : Prop := (∃ e, RE e (d + up t lv) t) ∧ (hk t lv).length + n ≤ m
theorem RL.low {lv lv' d n m : Nat} {t : Tr} (h : RL lv' d t n m) (hl : lv ≤ lv') : RL lv d t n m := by
  obtain ⟨⟨e, h1⟩, h2⟩ := h
  have := up_mono (t := t) hl
  rw [hk_len] at h2
  exact ⟨⟨e, re_mono _ _ _ _ _ (Nat.le_refl _) (by omega) h1⟩, by rw [hk_len]; omega⟩
def ExR (g lv d : Nat) (x : Tr) (l : List Tok) (t : Tr) (l' : List Tok) : Prop := TkOk l' ∧
  (if g = 0 then RL lv d t l'.length l.length
   else if g = 1 then RL lv d t l'.length (l.length + (hk x lv).length)
   else if g = 2 then RL 7 d t l'.length l.length
   else if g = 3 then RL 8 d t l'.length (l.length + (hk x 8).length)
   else if g = 4 then RL 8 d t l'.length l.length
   else if g = 5 then (∃ e, RE e (d + 1) t) ∧ (te t).length + 2 + l'.length ≤ l.length
   else if g = 6 then (∃ e, RE e (d + 1) t) ∧ (te t).length + 1 + l'.length ≤ l.length
   else ∃ xs, xs ≠ [] ∧ t = chain xs ∧ (∃ e, ∀ x ∈ xs, RE e (d + 1) x) ∧ (te t).length + 1 + l'.length ≤ l.length)
def lev (g lv : Nat) : Nat := if g = 1 then lv else 8
theorem te_3 (a : Int) (op : By) (l r : Tr) : (te (nd 3 a 0 [] op l r ce)).length = (hk l (nearV op)).length + 1 + (hk r (nearV op + 1)).length := by
  unfold te hk
  rw [pc_3, tks_app, tks_app, tks_bl, tks_fx, tks_bl, tks_nil]
  simp
  omega
theorem te_8 (a : Int) (l r : Tr) : (te (nd 8 a 0 [] [] l r ce)).length = (hk l 8).length + 2 + (te r).length := by
  unfold te hk
  rw [pc_8, tks_app, tks_fx, tks_app, tks_fx, tks_nil]
  simp
  omega
theorem up_0 {t : Tr} {k : Nat} (h : k ≤ holdsV t) : up t k = 0 := if_pos h

set_option maxHeartbeats 1000000 in
theorem ex_re : ∀ (f g lv d : Nat) (x : Tr) (p : Nat) (l : List Tok) (t : Tr) (l' : List Tok), (g ≤ 1 → 1 ≤ lv ∧ lv ≤ 7) → (g = 1 ∨ g = 3 → ∃ e, RE e (d + up x (lev g lv)) x) → (g = 4 → 12 < d → (hd l).k = 3) → TkOk l → exV f g lv d x p l = .ok (t, l') → ExR g lv d x l t l'
  | 0, _, _, _, _, _, _, _, _, _, _, _, _, h => by simp [exV] at h
  | f + 1, 0, lv, d, x, p, l, t, l', hv, hx, hb, hT, h => by
    show TkOk l' ∧ RL lv d t l'.length l.length
    obtain ⟨v1, v7⟩ := hv (by omega)
    rw [exV] at h
    split at h
    · obtain rfl : lv = 7 := by omega
      exact ex_re f 2 0 d .nil 0 l t l' (fun h => by omega) (fun h => by omega) (fun h => by omega) hT h
    · obtain ⟨y, l1, h1, h2⟩ := bnd_ok h
      obtain ⟨T1, r1⟩ : TkOk l1 ∧ RL (lv + 1) d y l1.length l.length := ex_re f 0 (lv + 1) d .nil 0 l y l1 (fun _ => ⟨by omega, by omega⟩) (fun h => by omega) (fun h => by omega) hT h1
      have r1' := r1.low (Nat.le_succ lv)
      obtain ⟨T2, r2, r3⟩ : TkOk l' ∧ RL lv d t l'.length (l1.length + (hk y lv).length) := ex_re f 1 lv d y _ l1 t l' (fun _ => ⟨v1, v7⟩) (fun _ => r1'.1) (fun h => by omega) T1 h2
      exact ⟨T2, r2, by have := r1'.2; omega⟩
  | f + 1, 1, lv, d, x, p, l, t, l', hv, hx, hb, hT, h => by
    show TkOk l' ∧ RL lv d t l'.length (l.length + (hk x lv).length)
    obtain ⟨v1, v7⟩ := hv (by omega)
    obtain ⟨e, hre⟩ := hx (.inl rfl)
    rw [show lev 1 lv = lv from rfl] at hre
    rw [exV] at h
    split at h
    · rename_i hn
      have hm := near_mark (m := (hd l).t) (by omega)
      have hne : (hd l).t ≠ [] := fun e => by rw [e] at hn; rw [← hn] at v1; revert v1; decide
      have htl := tl_len hne
      obtain ⟨y, l1, h1, h2⟩ := bnd_ok h
      obtain ⟨T1, ⟨e1, r1⟩, r1'⟩ : TkOk l1 ∧ RL (lv + 1) d y l1.length l.tail.length := ex_re f 0 (lv + 1) d .nil 0 l.tail y l1 (fun _ => ⟨by omega, by omega⟩) (fun h => by omega) (fun h => by omega) hT.tail h1
      have hh : holdsV (nd 3 p 0 [] (hd l).t x y ce) = lv := by rw [holds_3, hn]
      have hnode : RE (max e e1 + 1) (d + up (nd 3 p 0 [] (hd l).t x y ce) lv) (nd 3 p 0 [] (hd l).t x y ce) := by
        rw [up_0 (by omega), RE]
        refine ⟨by have := re_le hre; omega, .inr (.inr (.inl ⟨_, _, _, _, by omega, ?_, ?_, rfl⟩))⟩
        · rw [hn]
          exact re_mono _ _ _ _ _ (Nat.le_max_left _ _) (by omega) hre
        · rw [hn]
          exact re_mono _ _ _ _ _ (Nat.le_max_right _ _) (by omega) r1
      obtain ⟨T2, r2, r3⟩ : TkOk l' ∧ RL lv d t l'.length (l1.length + (hk (nd 3 p 0 [] (hd l).t x y ce) lv).length) := ex_re f 1 lv d _ p l1 t l' (fun _ => ⟨v1, v7⟩) (fun _ => ⟨_, hnode⟩) (fun h => by omega) T1 h2
      refine ⟨T2, r2, ?_⟩
      have e3 := te_3 p (hd l).t x y
      rw [hn] at e3
      have e4 := hk_len (nd 3 p 0 [] (hd l).t x y ce) lv
      rw [up_0 (by omega), e3] at e4
      omega
    · obtain ⟨rfl, rfl⟩ := ok_eq h
      exact ⟨hT, ⟨e, hre⟩, by omega⟩
  | f + 1, 2, lv, d, x, p, l, t, l', hv, hx, hb, hT, h => by
    show TkOk l' ∧ RL 7 d t l'.length l.length
    rw [exV] at h
    obtain ⟨_, _, hbo, h⟩ := bnd_ok h
    split at h
    · rename_i hn
      obtain ⟨y, l1, h1, h2⟩ := bnd_ok h
      have htl := tl_len (l := l) (by rcases hn with e | e <;> rw [e] <;> simp)
      obtain ⟨T1, ⟨e1, r1⟩, r1'⟩ : TkOk l1 ∧ RL 7 (d + 1) y l1.length l.tail.length := ex_re f 2 0 (d + 1) .nil 0 l.tail y l1 (fun h => by omega) (fun h => by omega) (fun h => by omega) hT.tail h1
      obtain ⟨rfl, rfl⟩ := ok_eq h2
      refine ⟨T1, ⟨e1 + 1, ?_⟩, ?_⟩
      · rw [up_0 (by rw [holds_4]; omega), RE]
        exact ⟨by have := re_le r1; omega, .inr (.inr (.inr (.inl ⟨_, _, _, hn, r1, rfl⟩)))⟩
      · rw [hk_len, up_0 (by rw [holds_4]; omega)]
        have : (te (nd 4 (hd l).p 0 [] (hd l).t y .nil ce)).length = (hk y 7).length + 1 := by
          unfold te hk
          rw [pc_4, tks_fx]
          simp
        omega
    · obtain ⟨y, l1, h1, h2⟩ := bnd_ok h
      obtain ⟨T1, r1⟩ : TkOk l1 ∧ RL 8 d y l1.length l.length := ex_re f 4 0 d .nil 0 l y l1 (fun h => by omega) (fun h => by omega) (fun _ h12 => by
        unfold boundV at hbo
        split at hbo
        · cases hbo
        · rename_i hno
          rcases Nat.decEq (hd l).k 3 with hk | hk
          · exact absurd ⟨h12, hk⟩ hno
          · exact hk) hT h1
      obtain ⟨T2, r2, r3⟩ : TkOk l' ∧ RL 8 d t l'.length (l1.length + (hk y 8).length) := ex_re f 3 0 d y _ l1 t l' (fun h => by omega) (fun _ => r1.1) (fun h => by omega) T1 h2
      exact ⟨T2, RL.low ⟨r2, by have := r1.2; omega⟩ (by omega)⟩
  | f + 1, 3, lv, d, x, p, l, t, l', hv, hx, hb, hT, h => by
    show TkOk l' ∧ RL 8 d t l'.length (l.length + (hk x 8).length)
    obtain ⟨e, hre⟩ := hx (.inr rfl)
    rw [show lev 3 lv = 8 from rfl] at hre
    rw [exV] at h
    split at h
    · rename_i hn
      have htl := tl_len (l := l) (by rw [hn]; simp)
      obtain ⟨y, l1, h1, h2⟩ := bnd_ok h
      obtain ⟨T1, ⟨e1, r1⟩, r1'⟩ : TkOk l1 ∧ (∃ e, RE e (d + 1) y) ∧ (te y).length + 1 + l1.length ≤ l.tail.length := ex_re f 6 0 d .nil 0 l.tail y l1 (fun h => by omega) (fun h => by omega) (fun h => by omega) hT.tail h1
      have hh : holdsV (nd 8 p 0 [] [] x y ce) = 8 := holds_8 _ _ _ _ _ _ _ (by decide) (by decide)
      have hnode : RE (max e e1 + 1) (d + up (nd 8 p 0 [] [] x y ce) 8) (nd 8 p 0 [] [] x y ce) := by
        rw [up_0 (by omega), RE]
        exact ⟨by have := re_le hre; omega, .inr (.inr (.inr (.inr (.inr (.inr (.inr (.inl ⟨_, _, _, re_mono _ _ _ _ _ (Nat.le_max_left _ _) (by omega) hre, re_mono _ _ _ _ _ (Nat.le_max_right _ _) (by omega) r1, rfl⟩)))))))⟩
      obtain ⟨T2, r2, r3⟩ : TkOk l' ∧ RL 8 d t l'.length (l1.length + (hk (nd 8 p 0 [] [] x y ce) 8).length) := ex_re f 3 0 d _ p l1 t l' (fun h => by omega) (fun _ => ⟨_, hnode⟩) (fun h => by omega) T1 h2
      refine ⟨T2, r2, ?_⟩
      have e3 := te_8 p x y
      have e4 := hk_len (nd 8 p 0 [] [] x y ce) 8
      rw [up_0 (by omega), e3] at e4
      omega
    · obtain ⟨rfl, rfl⟩ := ok_eq h
      exact ⟨hT, ⟨e, hre⟩, by omega⟩
  | f + 1, 4, lv, d, x, p, l, t, l', hv, hx, hb, hT, h => by
    show TkOk l' ∧ RL 8 d t l'.length l.length
    have leafRL : ∀ (t : Tr) (n m : Nat), holdsV t = 8 → (∃ e, RE e d t) → (te t).length + n ≤ m → RL 8 d t n m := fun t n m h8 ⟨e, hr⟩ hl => ⟨⟨e, by rw [up_0 (by omega)]; exact hr⟩, by rw [hk_len, up_0 (by omega)]; omega⟩
    have hd12 : (hd l).k ≠ 3 → d ≤ 12 := fun hk => by
      rcases Nat.lt_or_ge 12 d with h12 | h12
      · exact absurd (hb rfl h12) hk
      · exact h12
    have hd12' : (hd l).t ≠ [] → d ≤ 12 := fun hn => hd12 fun e => hn (hT.hd.2.2 e)
    rw [exV] at h
    split at h
    · rename_i hk
      obtain ⟨v, l1, h1, h2⟩ := bnd_ok h
      obtain ⟨hp, rfl⟩ := num_ok h1
      have htl := tl_kind hT (.inr hk)
      have hdg := hT.hd.2.1 hk
      have hbd := Lib.parseIntB_bounds hp
      have e63 : ((2 ^ (64 - 1) : Nat) : Int) = 9223372036854775808 := by decide
      rw [e63] at hbd
      have hpos : 0 ≤ v := by
        cases hw : (hd l).t with
        | nil => exact absurd hw hdg.1
        | cons c r =>
          have hc : digs.contains c = true := hdg.2 c (by rw [hw]; simp)
          have hc45 : c.toNat ≠ 45 := fun e => by
            have : c = 45 := UInt8.toNat_inj.1 e
            rw [this] at hc
            revert hc
            decide
          rw [hw] at hp
          simp only [Lib.parseIntB] at hp
          split at hp
          · cases hp
          · cases hp
          · rename_i u hu
            rw [if_neg (show ¬ c.toNat = 45 from hc45)] at hp
            split at hp
            · cases hp
            · split at hp
              · cases hp
              · injection hp with hp
                omega
      obtain ⟨rfl, rfl⟩ := ok_eq h2
      refine ⟨hT.tail, leafRL _ _ _ (holds_8 _ _ _ _ _ _ _ (by decide) (by decide)) ⟨1, ?_⟩ ?_⟩
      · rw [RE]
        exact ⟨hd12 (by omega), .inl ⟨_, _, hpos, by omega, rfl⟩⟩
      · unfold te
        rw [pc_1, tks_nu, tks_nil]
        simp
        omega
    split at h
    · rename_i hk2 hk
      obtain ⟨nm, l1, h1, h2⟩ := bnd_ok h
      obtain ⟨_, rfl, hn12, rfl⟩ := name_ok h1
      have htl := tl_kind hT (.inl hk)
      have hnam := hT.hd.1 hk hn12
      split at h2
      · rename_i h40
        have htl2 := tl_len (l := l.tail) (by rw [h40]; simp)
        split at h2
        · rename_i h41
          have htl3 := tl_len (l := l.tail.tail) (by rw [h41]; simp)
          obtain ⟨rfl, rfl⟩ := ok_eq h2
          refine ⟨hT.tail.tail.tail, leafRL _ _ _ (holds_8 _ _ _ _ _ _ _ (by decide) (by decide)) ⟨1, ?_⟩ ?_⟩
          · rw [RE]
            exact ⟨hd12 (by omega), .inr (.inr (.inr (.inr (.inl ⟨_, _, [], hnam, fun x hx => by simp at hx, rfl⟩))))⟩
          · unfold te
            rw [pc_5, tks_nm, tks_fx, pc_ce, List.nil_append, tks_fx, tks_nil]
            simp
            omega
        · obtain ⟨gg, l2, h3, h4⟩ := bnd_ok h2
          obtain ⟨T1, xs, hxs, rfl, ⟨e1, r1⟩, r2⟩ : TkOk l2 ∧ ∃ xs, xs ≠ [] ∧ gg = chain xs ∧ (∃ e, ∀ x ∈ xs, RE e (d + 1) x) ∧ (te gg).length + 1 + l2.length ≤ l.tail.tail.length := ex_re f 7 0 d ce 0 l.tail.tail gg l2 (fun h => by omega) (fun h => by omega) (fun h => by omega) hT.tail.tail h3
          obtain ⟨rfl, rfl⟩ := ok_eq h4
          refine ⟨T1, leafRL _ _ _ (holds_8 _ _ _ _ _ _ _ (by decide) (by decide)) ⟨e1 + 1, ?_⟩ ?_⟩
          · rw [RE]
            exact ⟨hd12 (by omega), .inr (.inr (.inr (.inr (.inl ⟨_, _, xs, hnam, r1, rfl⟩))))⟩
          · have : (te (nd 5 (hd l).p 0 (hd l).t [] .nil .nil (chain xs))).length = (te (chain xs)).length + 3 := by
              unfold te
              rw [pc_5, tks_nm, tks_fx, tks_app, tks_fx, tks_nil]
              simp
            omega
      · obtain ⟨rfl, rfl⟩ := ok_eq h2
        refine ⟨hT.tail, leafRL _ _ _ (holds_8 _ _ _ _ _ _ _ (by decide) (by decide)) ⟨1, ?_⟩ ?_⟩
        · rw [RE]
          exact ⟨hd12 (by omega), .inr (.inl ⟨_, _, hnam, rfl⟩)⟩
        · unfold te
          rw [pc_2, tks_nm, tks_nil]
          simp
          omega
    split at h
    · rename_i hn
      have htl := tl_len (l := l) (by rw [hn]; simp)
      obtain ⟨y, l1, h1, h2⟩ := bnd_ok h
      obtain ⟨T1, ⟨e1, r1⟩, r1'⟩ : TkOk l1 ∧ (∃ e, RE e (d + 1) y) ∧ (te y).length + 2 + l1.length ≤ l.tail.length := ex_re f 5 0 d .nil 0 l.tail y l1 (fun h => by omega) (fun h => by omega) (fun h => by omega) hT.tail h1
      obtain ⟨rfl, rfl⟩ := ok_eq h2
      refine ⟨T1, leafRL _ _ _ (holds_8 _ _ _ _ _ _ _ (by decide) (by decide)) ⟨e1 + 1, ?_⟩ ?_⟩
      · rw [RE]
        exact ⟨hd12' (by rw [hn]; simp), .inr (.inr (.inr (.inr (.inr (.inl ⟨_, _, r1, rfl⟩)))))⟩
      · have : (te (nd 6 (hd l).p 0 [] [] y .nil ce)).length = (te y).length + 3 := by
          unfold te
          rw [pc_6, tks_fx, tks_fx, tks_app, tks_fx, tks_nil]
          simp
        omega
    split at h
    · rename_i hn
      have htl := tl_len (l := l) (by rw [hn]; simp)
      obtain ⟨y, l1, h1, h2⟩ := bnd_ok h
      obtain ⟨T1, ⟨e1, r1⟩, r1'⟩ : TkOk l1 ∧ (∃ e, RE e (d + 1) y) ∧ (te y).length + 2 + l1.length ≤ l.tail.length := ex_re f 5 0 d .nil 0 l.tail y l1 (fun h => by omega) (fun h => by omega) (fun h => by omega) hT.tail h1
      obtain ⟨rfl, rfl⟩ := ok_eq h2
      refine ⟨T1, leafRL _ _ _ (holds_8 _ _ _ _ _ _ _ (by decide) (by decide)) ⟨e1 + 1, ?_⟩ ?_⟩
      · rw [RE]
        exact ⟨hd12' (by rw [hn]; simp), .inr (.inr (.inr (.inr (.inr (.inr (.inl ⟨_, _, r1, rfl⟩))))))⟩
      · have : (te (nd 7 (hd l).p 0 [] [] y .nil ce)).length = (te y).length + 3 := by
          unfold te
          rw [pc_7, tks_fx, tks_fx, tks_app, tks_fx, tks_nil]
          simp
        omega
    split at h
    · rename_i hn
      have htl := tl_len (l := l) (by rw [hn]; simp)
      obtain ⟨_, l1, h1, h⟩ := bnd_ok h
      obtain ⟨n1, rfl⟩ := need_ok h1
      have htl1 := tl_len (l := l.tail) (by rw [n1]; simp)
      obtain ⟨_, l2, h2, h⟩ := bnd_ok h
      obtain ⟨n2, rfl⟩ := need_ok h2
      have htl2 := tl_len (l := l.tail.tail) (by rw [n2]; simp)
      obtain ⟨rfl, rfl⟩ := ok_eq h
      refine ⟨hT.tail.tail.tail, leafRL _ _ _ (holds_8 _ _ _ _ _ _ _ (by decide) (by decide)) ⟨1, ?_⟩ ?_⟩
      · rw [RE]
        exact ⟨hd12' (by rw [hn]; simp), .inr (.inr (.inr (.inr (.inr (.inr (.inr (.inr ⟨_, rfl⟩)))))))⟩
      · unfold te
        rw [pc_9, tks_fx, tks_fx, tks_fx, tks_nil]
        simp
        omega
    · obtain ⟨T1, ⟨e1, r1⟩, r1'⟩ : TkOk l' ∧ (∃ e, RE e (d + 1) t) ∧ (te t).length + 2 + l'.length ≤ l.length := ex_re f 5 0 d .nil 0 l t l' (fun h => by omega) (fun h => by omega) (fun h => by omega) hT h
      have hu := up_one t 8
      exact ⟨T1, ⟨e1, re_mono _ _ _ _ _ (Nat.le_refl _) (by omega) r1⟩, by rw [hk_len]; omega⟩
  | f + 1, 5, lv, d, x, p, l, t, l', hv, hx, hb, hT, h => by
    show TkOk l' ∧ (∃ e, RE e (d + 1) t) ∧ (te t).length + 2 + l'.length ≤ l.length
    rw [exV] at h
    obtain ⟨_, l1, h1, h⟩ := bnd_ok h
    obtain ⟨n1, rfl⟩ := need_ok h1
    have htl := tl_len (l := l) (by rw [n1]; simp)
    obtain ⟨y, l2, h2, h⟩ := bnd_ok h
    obtain ⟨T1, ⟨e1, r1⟩, r1'⟩ : TkOk l2 ∧ RL 1 (d + 1) y l2.length l.tail.length := ex_re f 0 1 (d + 1) .nil 0 l.tail y l2 (fun _ => ⟨by omega, by omega⟩) (fun h => by omega) (fun h => by omega) hT.tail h2
    obtain ⟨_, l3, h3, h⟩ := bnd_ok h
    obtain ⟨n2, rfl⟩ := need_ok h3
    have htl2 := tl_len (l := l2) (by rw [n2]; simp)
    obtain ⟨rfl, rfl⟩ := ok_eq h
    rw [hk_len] at r1'
    exact ⟨T1.tail, ⟨e1, re_mono _ _ _ _ _ (Nat.le_refl _) (by omega) r1⟩, by omega⟩
  | f + 1, 6, lv, d, x, p, l, t, l', hv, hx, hb, hT, h => by
    show TkOk l' ∧ (∃ e, RE e (d + 1) t) ∧ (te t).length + 1 + l'.length ≤ l.length
    rw [exV] at h
    obtain ⟨y, l2, h2, h⟩ := bnd_ok h
    obtain ⟨T1, ⟨e1, r1⟩, r1'⟩ : TkOk l2 ∧ RL 1 (d + 1) y l2.length l.length := ex_re f 0 1 (d + 1) .nil 0 l y l2 (fun _ => ⟨by omega, by omega⟩) (fun h => by omega) (fun h => by omega) hT h2
    obtain ⟨_, l3, h3, h⟩ := bnd_ok h
    obtain ⟨n2, rfl⟩ := need_ok h3
    have htl2 := tl_len (l := l2) (by rw [n2]; simp)
    obtain ⟨rfl, rfl⟩ := ok_eq h
    rw [hk_len] at r1'
    exact ⟨T1.tail, ⟨e1, re_mono _ _ _ _ _ (Nat.le_refl _) (by omega) r1⟩, by omega⟩
  | f + 1, 7, lv, d, x, p, l, t, l', hv, hx, hb, hT, h => by
    show TkOk l' ∧ ∃ xs, xs ≠ [] ∧ t = chain xs ∧ (∃ e, ∀ x ∈ xs, RE e (d + 1) x) ∧ (te t).length + 1 + l'.length ≤ l.length
    rw [exV] at h
    obtain ⟨y, l2, h2, h⟩ := bnd_ok h
    obtain ⟨T1, ⟨e1, r1⟩, r1'⟩ : TkOk l2 ∧ RL 1 (d + 1) y l2.length l.length := ex_re f 0 1 (d + 1) .nil 0 l y l2 (fun _ => ⟨by omega, by omega⟩) (fun h => by omega) (fun h => by omega) hT h2
    rw [hk_len] at r1'
    split at h
    · rename_i hn
      have htl := tl_len (l := l2) (by rw [hn]; simp)
      obtain ⟨gg, l4, h5, h⟩ := bnd_ok h
      obtain ⟨T2, xs, hxs, rfl, ⟨e2, r2⟩, r2'⟩ : TkOk l4 ∧ ∃ xs, xs ≠ [] ∧ gg = chain xs ∧ (∃ e, ∀ x ∈ xs, RE e (d + 1) x) ∧ (te gg).length + 1 + l4.length ≤ l2.tail.length := ex_re f 7 0 d ce 0 l2.tail gg l4 (fun h => by omega) (fun h => by omega) (fun h => by omega) T1.tail h5
      obtain ⟨rfl, rfl⟩ := ok_eq h
      refine ⟨T2, y :: xs, by simp, rfl, ⟨max e1 e2, fun z hz => ?_⟩, ?_⟩
      · rcases List.mem_cons.1 hz with rfl | hz
        · exact re_mono _ _ _ _ _ (Nat.le_max_left _ _) (by omega) r1
        · exact re_mono _ _ _ _ _ (Nat.le_max_right _ _) (by omega) (r2 z hz)
      · cases xs with
        | nil => exact absurd rfl hxs
        | cons z xs =>
          have := te_chain2 y z xs
          have e9 : (te (cc y (chain (z :: xs)))).length = (te y).length + 1 + (te (chain (z :: xs))).length := by
            rw [show cc y (chain (z :: xs)) = chain (y :: z :: xs) from rfl, this]
            simp
            omega
          omega
    · obtain ⟨_, l3, h3, h⟩ := bnd_ok h
      obtain ⟨n2, rfl⟩ := need_ok h3
      have htl2 := tl_len (l := l2) (by rw [n2]; simp)
      obtain ⟨rfl, rfl⟩ := ok_eq h
      refine ⟨T1.tail, [y], by simp, rfl, ⟨e1, fun z hz => ?_⟩, ?_⟩
      · rw [List.mem_singleton] at hz
        subst hz
        exact re_mono _ _ _ _ _ (Nat.le_refl _) (by omega) r1
      · rw [show cc y ce = chain [y] from rfl, te_chain1]
        omega
  | f + 1, g + 8, lv, d, x, p, l, t, l', hv, hx, hb, hT, h => by simp [exV] at h
end Go.Proofs.YtpakgaegckkmnaaGreatDoor

namespace Go.Proofs.YtpakgaegckkmnaaGreatDoor
set_option linter.unusedVariables false
set_option linter.unusedSimpArgs false
open Go

def sp (n : Nat) : List Pc := List.replicate n (bl 32)
theorem tks_sp : ∀ (n : Nat) (q : List Pc), tks (sp n ++ q) = tks q
  | 0, q => rfl
  | n + 1, q => by
    show tks (bl 32 :: (sp n ++ q)) = _
    rw [tks_bl, tks_sp n q]
def blanks (n : Nat) : By := List.replicate n 32
theorem blanks_two (n : Nat) : blanks n ++ [32, 32] = blanks (n + 2) := by
  unfold blanks
  rw [show ([32, 32] : By) = List.replicate 2 32 from rfl, List.replicate_append_replicate]
def condP (v : Tr) : List Pc := fx [40] :: (pcE v ++ [fx [41]])
def headP (c : Int) (nm : By) (ix : Tr) : List Pc :=
  if c = 1 then [fx [118, 97, 114], bl 32, ⟨0, nm⟩, bl 32, fx [61], bl 32] else if c = 2 then [⟨0, nm⟩, bl 32, fx [61], bl 32] else if c = 3 then ⟨0, nm⟩ :: ((fx [91] :: (pcE ix ++ [fx [93]])) ++ [bl 32, fx [61], bl 32]) else if c = 6 then [fx [114, 101, 116, 117, 114, 110], bl 32] else if c = 7 then [fx [112, 114, 105, 110, 116], bl 32] else []
/-- Statements in pieces, so far from the left. -/
def pcS (n : Nat) : Tr → List Pc
  | .slice [.agg [.lit (.int _ c), .lit (.int _ _), .lit (.string nm), ix, v, th, el]] [g] =>
    sp (n + 2) ++ ((if c = 4 then [fx [105, 102], bl 32] ++ (condP v ++ (([bl 32, fx [123], bl 10] ++ (pcS (n + 2) th ++ (sp (n + 2) ++ [fx [125]]))) ++ (if isCe el then [] else [bl 32, fx [101, 108, 115, 101]] ++ ([bl 32, fx [123], bl 10] ++ (pcS (n + 2) el ++ (sp (n + 2) ++ [fx [125]]))))))
     else if c = 5 then [fx [119, 104, 105, 108, 101], bl 32] ++ (condP v ++ ([bl 32, fx [123], bl 10] ++ (pcS (n + 2) th ++ (sp (n + 2) ++ [fx [125]]))))
     else headP c nm ix ++ (pcE v ++ [fx [59]])) ++ ([bl 10] ++ pcS n g))
  | _ => []
/-- A block, and a statement. -/
def pcB (n : Nat) (g : Tr) : List Pc := [bl 32, fx [123], bl 10] ++ (pcS n g ++ (sp n ++ [fx [125]]))
def pcM (n : Nat) : Tr → List Pc
  | .agg [.lit (.int _ c), .lit (.int _ _), .lit (.string nm), ix, v, th, el] =>
    if c = 4 then [fx [105, 102], bl 32] ++ (condP v ++ (pcB n th ++ (if isCe el then [] else [bl 32, fx [101, 108, 115, 101]] ++ pcB n el)))
    else if c = 5 then [fx [119, 104, 105, 108, 101], bl 32] ++ (condP v ++ pcB n th)
    else headP c nm ix ++ (pcE v ++ [fx [59]])
  | _ => []
theorem pcS_cons (n : Nat) (c a : Int) (nm : By) (ix v th el g : Tr) : pcS n (cc (st c a nm ix v th el) g) = sp (n + 2) ++ (pcM (n + 2) (st c a nm ix v th el) ++ ([bl 10] ++ pcS n g)) := by
  rw [pcS]
  rfl
theorem pcS_ce (n : Nat) : pcS n ce = [] := by simp [pcS]
theorem pcM_4 (n : Nat) (a : Int) (nm : By) (ix v th el : Tr) : pcM n (st 4 a nm ix v th el) = [fx [105, 102], bl 32] ++ (condP v ++ (pcB n th ++ (if isCe el then [] else [bl 32, fx [101, 108, 115, 101]] ++ pcB n el))) := by rw [pcM]; simp
theorem pcM_5 (n : Nat) (a : Int) (nm : By) (ix v th el : Tr) : pcM n (st 5 a nm ix v th el) = [fx [119, 104, 105, 108, 101], bl 32] ++ (condP v ++ pcB n th) := by rw [pcM]; simp
theorem pcM_o (n : Nat) (c a : Int) (nm : By) (ix v th el : Tr) (h4 : c ≠ 4) (h5 : c ≠ 5) : pcM n (st c a nm ix v th el) = headP c nm ix ++ (pcE v ++ [fx [59]]) := by rw [pcM]; simp [h4, h5]

def REx (d : Nat) (t : Tr) : Prop := ∃ e, RE e d t
/-- A statement as it is read: fuel, how deep it stands. -/
def RS : Nat → Nat → Tr → Prop
  | 0, _, _ => False
  | f + 1, d, t =>
    (∃ (a : Int) (nm : By) (v : Tr), Nam nm ∧ REx 0 v ∧ t = st 1 a nm .nil v ce ce) ∨
    (∃ (a : Int) (nm : By) (v : Tr), Nam nm ∧ REx 0 v ∧ t = st 2 a nm .nil v ce ce) ∨
    (∃ (a : Int) (nm : By) (i v : Tr), Nam nm ∧ REx 1 i ∧ REx 0 v ∧ t = st 3 a nm i v ce ce) ∨
    (∃ (a : Int) (v : Tr) (xs ys : List Tr), d ≤ 12 ∧ REx 1 v ∧ (∀ x ∈ xs, RS f (d + 1) x) ∧ (∀ y ∈ ys, RS f (d + 1) y) ∧ t = st 4 a [] .nil v (chain xs) (chain ys)) ∨
    (∃ (a : Int) (v : Tr) (xs : List Tr), d ≤ 12 ∧ REx 1 v ∧ (∀ x ∈ xs, RS f (d + 1) x) ∧ t = st 5 a [] .nil v (chain xs) ce) ∨
    (∃ (a : Int) (v : Tr), REx 0 v ∧ t = st 6 a [] .nil v ce ce) ∨
    (∃ (a : Int) (v : Tr), REx 0 v ∧ t = st 7 a [] .nil v ce ce) ∨
    (∃ (a b : Int) (nm : By) (xs : List Tr), Nam nm ∧ (∃ e, ∀ x ∈ xs, RE e 1 x) ∧ t = st 8 a [] .nil (nd 5 b 0 nm [] .nil .nil (chain xs)) ce ce)
theorem rs_mono : ∀ (f f' d : Nat) (t : Tr), f ≤ f' → RS f d t → RS f' d t
  | 0, _, _, _, _, h => h.elim
  | f + 1, 0, _, _, hf, _ => by omega
  | f + 1, f' + 1, d, t, hf, h => by
    have ih : ∀ (d : Nat) (t : Tr), RS f d t → RS f' d t := fun d t h => rs_mono f f' d t (by omega) h
    rw [RS] at h ⊢
    rcases h with h | h | h | ⟨a, v, xs, ys, h1, h2, h3, h4, e⟩ | ⟨a, v, xs, h1, h2, h3, e⟩ | h | h | h
    · exact .inl h
    · exact .inr (.inl h)
    · exact .inr (.inr (.inl h))
    · exact .inr (.inr (.inr (.inl ⟨a, v, xs, ys, h1, h2, fun x hx => ih _ x (h3 x hx), fun x hx => ih _ x (h4 x hx), e⟩)))
    · exact .inr (.inr (.inr (.inr (.inl ⟨a, v, xs, h1, h2, fun x hx => ih _ x (h3 x hx), e⟩))))
    · exact .inr (.inr (.inr (.inr (.inr (.inl h)))))
    · exact .inr (.inr (.inr (.inr (.inr (.inr (.inl h))))))
    · exact .inr (.inr (.inr (.inr (.inr (.inr (.inr h))))))

/-- Pieces behind which anything may stand. -/
structure Fc (q : List Pc) (s : By) : Prop where
  ok : ∀ x ∈ q, PcOk x
  sep : ∀ c, Sep c q = true
  tx : txt q = s
theorem fc_nil : Fc [] [] := ⟨fun x hx => by simp at hx, fun c => rfl, rfl⟩
theorem fc_cons {p : Pc} {q : List Pc} {s : By} (hp : PcOk p) (h1 : ∀ c, ok1 p (fb c q) = true) (h : Fc q s) : Fc (p :: q) (p.w ++ s) := by
  refine ⟨fun x hx => ?_, fun c => sep_cons _ _ _ (h1 c) (h.sep c), by rw [txt_cons, h.tx]⟩
  rcases List.mem_cons.1 hx with rfl | hx
  · exact hp
  · exact h.ok x hx
theorem fc_app {a b : List Pc} {s t : By} (ha : Fc a s) (hb : Fc b t) : Fc (a ++ b) (s ++ t) := by
  refine ⟨fun x hx => ?_, fun c => sep_two _ _ _ (ha.sep _) (hb.sep c), by rw [txt_app, ha.tx, hb.tx]⟩
  rcases List.mem_append.1 hx with hx | hx
  · exact ha.ok x hx
  · exact hb.ok x hx
theorem fc_exp {a b : List Pc} {s t : By} (ha : Fb a s) (hb : Fc b t) (h : ∀ c, alnum.contains (fb c b) = false) : Fc (a ++ b) (s ++ t) := by
  refine ⟨fun x hx => ?_, fun c => sep_two _ _ _ (ha.sep _ (h c)) (hb.sep c), by rw [txt_app, ha.tx, hb.tx]⟩
  rcases List.mem_append.1 hx with hx | hx
  · exact ha.ok x hx
  · exact hb.ok x hx
theorem ok1_blank (c x : UInt8) : ok1 (bl c) x = true := by unfold ok1; rfl
theorem fc_32 {q : List Pc} {s : By} (h : Fc q s) : Fc (bl 32 :: q) (32 :: s) := fc_cons ok32 (fun c => ok1_blank _ _) h
theorem fc_10 {q : List Pc} {s : By} (h : Fc q s) : Fc (bl 10 :: q) (10 :: s) := fc_cons ok10 (fun c => ok1_blank _ _) h
theorem fc_mark (x : By) (hx : x ∈ marksL) (h2 : alnum.contains (x.headD 0) = false ∧ [[60], [62], [61], [33]].contains x = false) {q : List Pc} {s : By} (h : Fc q s) : Fc (fx x :: q) (x ++ s) := fc_cons (okm x hx) (fun c => ok1_any x _ h2) h
theorem fc_wb (x : By) (hx : x ∈ wordsL) {q : List Pc} {s : By} (h : Fc q s) : Fc (fx x :: bl 32 :: q) (x ++ (32 :: s)) := fc_cons (okw x hx) (fun c => ok1_bl _ _ (.inl rfl)) (fc_32 h)
theorem fc_eq {q : List Pc} {s : By} (h : Fc q s) : Fc (bl 32 :: fx [61] :: bl 32 :: q) (32 :: 61 :: 32 :: s) := fc_32 (fc_cons (p := fx [61]) (okm _ (by decide)) (fun c => ok1_bl _ _ (.inl rfl)) (fc_32 h))
theorem fc_nb {nm : By} (hn : Nam nm) {q : List Pc} {s : By} (h : Fc q s) (hq : ∀ c, alnum.contains (fb c q) = false) : Fc (⟨0, nm⟩ :: q) (nm ++ s) := fc_cons (p := ⟨0, nm⟩) (.inr (.inl ⟨rfl, hn⟩)) (fun c => ok1_al _ _ (nam_al hn) (hq c)) h
theorem fc_sp : ∀ (n : Nat) {q : List Pc} {s : By}, Fc q s → Fc (sp n ++ q) (blanks n ++ s)
  | 0, q, s, h => h
  | n + 1, q, s, h => fc_32 (fc_sp n h)
theorem fc_semi {v : Tr} {d : Nat} (h : REx d v) : Fc (pcE v ++ [fx [59]]) (wrT v ++ [59]) := by
  obtain ⟨e, h⟩ := h
  exact fc_exp (re_fa _ _ _ h).b (fc_mark [59] (by decide) (by decide) fc_nil) (fun c => by show alnum.contains 59 = false; decide)
theorem fc_in {q r : List Pc} {s t : By} (h : Fb q s) (x y : By) (hx : x ∈ marksL) (hx2 : alnum.contains (x.headD 0) = false ∧ [[60], [62], [61], [33]].contains x = false) (hy : y ∈ marksL) (hy2 : alnum.contains (y.headD 0) = false ∧ [[60], [62], [61], [33]].contains y = false) (hy3 : alnum.contains (y.headD 32) = false) (hr : Fc r t) : Fc ((fx x :: (q ++ [fx y])) ++ r) (x ++ s ++ y ++ t) := by
  have h1 : Fc (q ++ (fx y :: r)) (s ++ (y ++ t)) := fc_exp h (fc_mark y hy hy2 hr) (fun c => hy3)
  have h2 := fc_mark x hx hx2 h1
  simp only [List.cons_append, List.append_assoc, List.nil_append] at h2 ⊢
  exact h2
theorem fc_cond {v : Tr} {d : Nat} (h : REx d v) {r : List Pc} {t : By} (hr : Fc r t) : Fc (condP v ++ r) ([40] ++ wrT v ++ [41] ++ t) := by
  obtain ⟨e, h⟩ := h
  exact fc_in (re_fa _ _ _ h).b [40] [41] (by decide) (by decide) (by decide) (by decide) (by decide) hr
theorem fc_idx {v : Tr} {d : Nat} (h : REx d v) {r : List Pc} {t : By} (hr : Fc r t) : Fc ((fx [91] :: (pcE v ++ [fx [93]])) ++ r) ([91] ++ wrT v ++ [93] ++ t) := by
  obtain ⟨e, h⟩ := h
  exact fc_in (re_fa _ _ _ h).b [91] [93] (by decide) (by decide) (by decide) (by decide) (by decide) hr
theorem fc_block {n : Nat} {g : Tr} (h : Fc (pcS n g) (stT (blanks n) g)) : Fc (pcB n g) (blT (blanks n) g) := by
  have h1 : Fc (sp n ++ [fx [125]]) (blanks n ++ [125]) := fc_sp n (fc_mark [125] (by decide) (by decide) fc_nil)
  have h2 := fc_32 (fc_mark [123] (by decide) (by decide) (fc_10 (fc_app h h1)))
  unfold pcB blT
  simpa using h2
theorem fc_sts {f d : Nat} (n : Nat) (ih : ∀ t, RS f d t → ∀ n, Fc (pcM n t) (smT (blanks n) t)) : ∀ xs : List Tr, (∀ x ∈ xs, RS f d x) → Fc (pcS n (chain xs)) (stT (blanks n) (chain xs))
  | [], _ => by
    rw [show chain [] = ce from rfl, pcS_ce, show stT (blanks n) ce = [] by simp [stT]]
    exact fc_nil
  | x :: xs, h => by
    have hx := h x (by simp)
    have hst : ∃ c a nm ix v th el, x = st c a nm ix v th el := by
      cases f with
      | zero => exact hx.elim
      | succ f =>
        rw [RS] at hx
        rcases hx with ⟨a, nm, v, _, _, e⟩ | ⟨a, nm, v, _, _, e⟩ | ⟨a, nm, i, v, _, _, _, e⟩ | ⟨a, v, xs, ys, h1, h2, h3, h4, e⟩ | ⟨a, v, xs, h1, h2, h3, e⟩ | ⟨a, v, _, e⟩ | ⟨a, v, _, e⟩ | ⟨a, b, nm, xs, _, _, e⟩ <;> exact ⟨_, _, _, _, _, _, _, e⟩
    obtain ⟨c, a, nm, ix, v, th, el, e⟩ := hst
    have h1 := ih x hx (n + 2)
    have h2 := fc_sts n ih xs (fun y hy => h y (by simp [hy]))
    rw [show chain (x :: xs) = cc x (chain xs) from rfl]
    subst e
    rw [pcS_cons]
    have e2 := stT_cons (blanks n) c a nm ix v th el (chain xs)
    rw [show stT (blanks n) (cc (st c a nm ix v th el) (chain xs)) = stT (blanks n) (.slice [st c a nm ix v th el] [chain xs]) from rfl, e2, blanks_two]
    have h3 := fc_sp (n + 2) (fc_app h1 (fc_10 h2))
    simpa using h3
theorem rs_fc : ∀ (f d : Nat) (t : Tr), RS f d t → ∀ n, Fc (pcM n t) (smT (blanks n) t)
  | 0, _, _, h, _ => h.elim
  | f + 1, d, t, h, n => by
    have ih : ∀ (d : Nat) (xs : List Tr), (∀ x ∈ xs, RS f d x) → Fc (pcB n (chain xs)) (blT (blanks n) (chain xs)) := fun d xs h => fc_block (fc_sts n (fun t ht m => rs_fc f d t ht m) xs h)
    rw [RS] at h
    rcases h with ⟨a, nm, v, hn, hv, rfl⟩ | ⟨a, nm, v, hn, hv, rfl⟩ | ⟨a, nm, i, v, hn, hi, hv, rfl⟩ | ⟨a, v, xs, ys, h1, hv, h3, h4, rfl⟩ | ⟨a, v, xs, h1, hv, h3, rfl⟩ | ⟨a, v, hv, rfl⟩ | ⟨a, v, hv, rfl⟩ | ⟨a, b, nm, xs, hn, ⟨e, hx⟩, rfl⟩
    · rw [pcM_o _ _ _ _ _ _ _ _ (by decide) (by decide)]
      have := fc_wb [118, 97, 114] (by decide) (fc_nb hn (fc_eq (fc_semi hv)) (fun c => by show alnum.contains 32 = false; decide))
      simpa [headP, smT] using this
    · rw [pcM_o _ _ _ _ _ _ _ _ (by decide) (by decide)]
      have := fc_nb hn (fc_eq (fc_semi hv)) (fun c => by show alnum.contains 32 = false; decide)
      simpa [headP, smT] using this
    · rw [pcM_o _ _ _ _ _ _ _ _ (by decide) (by decide)]
      have := fc_nb hn (fc_idx hi (fc_eq (fc_semi hv))) (fun c => by show alnum.contains 91 = false; decide)
      simpa [headP, smT] using this
    · rw [pcM_4]
      have ht := ih (d + 1) xs h3
      have he := ih (d + 1) ys h4
      cases hce : isCe (chain ys) with
      | true =>
        have := fc_wb [105, 102] (by decide) (fc_cond hv ht)
        simpa [smT, hce] using this
      | false =>
        have h5 : Fc ([bl 32, fx [101, 108, 115, 101]] ++ pcB n (chain ys)) (([32, 101, 108, 115, 101] : By) ++ blT (blanks n) (chain ys)) := by
          have := fc_32 (fc_cons (p := fx [101, 108, 115, 101]) (okw _ (by decide)) (fun c => ok1_bl _ _ (.inl rfl)) he)
          simpa using this
        have := fc_wb [105, 102] (by decide) (fc_cond hv (fc_app ht h5))
        simpa [smT, hce] using this
    · rw [pcM_5]
      have := fc_wb [119, 104, 105, 108, 101] (by decide) (fc_cond hv (ih (d + 1) xs h3))
      simpa [smT] using this
    · rw [pcM_o _ _ _ _ _ _ _ _ (by decide) (by decide)]
      have := fc_wb [114, 101, 116, 117, 114, 110] (by decide) (fc_semi hv)
      simpa [headP, smT] using this
    · rw [pcM_o _ _ _ _ _ _ _ _ (by decide) (by decide)]
      have := fc_wb [112, 114, 105, 110, 116] (by decide) (fc_semi hv)
      simpa [headP, smT] using this
    · rw [pcM_o _ _ _ _ _ _ _ _ (by decide) (by decide)]
      have hv : REx 0 (nd 5 b 0 nm [] .nil .nil (chain xs)) := ⟨e + 1, by
        rw [RE]
        exact ⟨by omega, .inr (.inr (.inr (.inr (.inl ⟨_, _, _, hn, hx, rfl⟩))))⟩⟩
      have := fc_semi hv
      simpa [headP, smT] using this
end Go.Proofs.YtpakgaegckkmnaaGreatDoor

namespace Go.Proofs.YtpakgaegckkmnaaGreatDoor
set_option linter.unusedVariables false
set_option linter.unusedSimpArgs false
open Go

abbrev tm (n : Nat) (t : Tr) : List Tok := tks (pcM n t)
abbrev ts (n : Nat) (t : Tr) : List Tok := tks (pcS n t)
theorem ts_ce (n : Nat) : ts n ce = [] := by unfold ts; rw [pcS_ce]; rfl
theorem ts_cons (n : Nat) (c a : Int) (nm : By) (ix v th el g : Tr) : ts n (cc (st c a nm ix v th el) g) = tm (n + 2) (st c a nm ix v th el) ++ ts n g := by
  unfold ts tm
  rw [pcS_cons, tks_sp, tks_app]
  show _ ++ tks (bl 10 :: pcS n g) = _
  rw [tks_bl]
theorem tb_eq (n : Nat) (g : Tr) : tks (pcB n g) = tk [123] :: (ts n g ++ [tk [125]]) := by
  unfold pcB
  show tks (bl 32 :: fx [123] :: bl 10 :: (pcS n g ++ (sp n ++ [fx [125]]))) = _
  rw [tks_bl, tks_fx, tks_bl, tks_app, tks_sp, tks_fx, tks_nil]
theorem tc_eq (v : Tr) : tks (condP v) = tk [40] :: (te v ++ [tk [41]]) := by
  unfold condP
  rw [tks_fx, tks_app, tks_fx, tks_nil]
abbrev nt (x : By) : Tok := ⟨0, x, 0⟩
theorem tm_1 (n : Nat) (a : Int) (nm : By) (v : Tr) : tm n (st 1 a nm .nil v ce ce) = tk [118, 97, 114] :: nt nm :: tk [61] :: (te v ++ [tk [59]]) := by
  unfold tm
  rw [pcM_o _ _ _ _ _ _ _ _ (by decide) (by decide), show headP 1 nm .nil = [fx [118, 97, 114], bl 32, ⟨0, nm⟩, bl 32, fx [61], bl 32] by simp [headP]]
  show tks (fx _ :: bl 32 :: ⟨0, nm⟩ :: bl 32 :: fx [61] :: bl 32 :: (pcE v ++ [fx [59]])) = _
  rw [tks_fx, tks_bl, tks_nm, tks_bl, tks_fx, tks_bl, tks_app, tks_fx, tks_nil]
theorem tm_2 (n : Nat) (a : Int) (nm : By) (v : Tr) : tm n (st 2 a nm .nil v ce ce) = nt nm :: tk [61] :: (te v ++ [tk [59]]) := by
  unfold tm
  rw [pcM_o _ _ _ _ _ _ _ _ (by decide) (by decide), show headP 2 nm .nil = [⟨0, nm⟩, bl 32, fx [61], bl 32] by simp [headP]]
  show tks (⟨0, nm⟩ :: bl 32 :: fx [61] :: bl 32 :: (pcE v ++ [fx [59]])) = _
  rw [tks_nm, tks_bl, tks_fx, tks_bl, tks_app, tks_fx, tks_nil]
theorem tm_3 (n : Nat) (a : Int) (nm : By) (i v : Tr) : tm n (st 3 a nm i v ce ce) = nt nm :: tk [91] :: (te i ++ (tk [93] :: tk [61] :: (te v ++ [tk [59]]))) := by
  unfold tm
  rw [pcM_o _ _ _ _ _ _ _ _ (by decide) (by decide), show headP 3 nm i = ⟨0, nm⟩ :: ((fx [91] :: (pcE i ++ [fx [93]])) ++ [bl 32, fx [61], bl 32]) by simp [headP]]
  have : (⟨0, nm⟩ :: ((fx [91] :: (pcE i ++ [fx [93]])) ++ [bl 32, fx [61], bl 32])) ++ (pcE v ++ [fx [59]]) = ⟨0, nm⟩ :: fx [91] :: (pcE i ++ (fx [93] :: bl 32 :: fx [61] :: bl 32 :: (pcE v ++ [fx [59]]))) := by simp
  rw [this, tks_nm, tks_fx, tks_app, tks_fx, tks_bl, tks_fx, tks_bl, tks_app, tks_fx, tks_nil]
theorem tm_4 (n : Nat) (a : Int) (v th el : Tr) : tm n (st 4 a [] .nil v th el) = tk [105, 102] :: (tk [40] :: (te v ++ (tk [41] :: tk [123] :: (ts n th ++ (tk [125] :: (if isCe el then [] else tk [101, 108, 115, 101] :: tk [123] :: (ts n el ++ [tk [125]]))))))) := by
  unfold tm
  rw [pcM_4]
  show tks (fx [105, 102] :: bl 32 :: (condP v ++ (pcB n th ++ _))) = _
  rw [tks_fx, tks_bl, tks_app, tks_app, tc_eq, tb_eq]
  split
  · simp [tks_nil]
  · have e : tks ([bl 32, fx [101, 108, 115, 101]] ++ pcB n el) = tk [101, 108, 115, 101] :: tk [123] :: (ts n el ++ [tk [125]]) := by
      show tks (bl 32 :: fx [101, 108, 115, 101] :: pcB n el) = _
      rw [tks_bl, tks_fx, tb_eq]
    rw [e]
    simp
theorem tm_5 (n : Nat) (a : Int) (v th : Tr) : tm n (st 5 a [] .nil v th ce) = tk [119, 104, 105, 108, 101] :: (tk [40] :: (te v ++ (tk [41] :: tk [123] :: (ts n th ++ [tk [125]])))) := by
  unfold tm
  rw [pcM_5]
  show tks (fx _ :: bl 32 :: (condP v ++ pcB n th)) = _
  rw [tks_fx, tks_bl, tks_app, tc_eq, tb_eq]
  simp
theorem tm_6 (n : Nat) (a : Int) (v : Tr) : tm n (st 6 a [] .nil v ce ce) = tk [114, 101, 116, 117, 114, 110] :: (te v ++ [tk [59]]) := by
  unfold tm
  rw [pcM_o _ _ _ _ _ _ _ _ (by decide) (by decide), show headP 6 [] .nil = [fx [114, 101, 116, 117, 114, 110], bl 32] by simp [headP]]
  show tks (fx _ :: bl 32 :: (pcE v ++ [fx [59]])) = _
  rw [tks_fx, tks_bl, tks_app, tks_fx, tks_nil]
theorem tm_7 (n : Nat) (a : Int) (v : Tr) : tm n (st 7 a [] .nil v ce ce) = tk [112, 114, 105, 110, 116] :: (te v ++ [tk [59]]) := by
  unfold tm
  rw [pcM_o _ _ _ _ _ _ _ _ (by decide) (by decide), show headP 7 [] .nil = [fx [112, 114, 105, 110, 116], bl 32] by simp [headP]]
  show tks (fx _ :: bl 32 :: (pcE v ++ [fx [59]])) = _
  rw [tks_fx, tks_bl, tks_app, tks_fx, tks_nil]
theorem tm_8 (n : Nat) (a b : Int) (nm : By) (xs : List Tr) : tm n (st 8 a [] .nil (nd 5 b 0 nm [] .nil .nil (chain xs)) ce ce) = nt nm :: tk [40] :: (te (chain xs) ++ (tk [41] :: [tk [59]])) := by
  unfold tm
  rw [pcM_o _ _ _ _ _ _ _ _ (by decide) (by decide), show headP 8 [] .nil = [] by simp [headP], pc_5]
  simp only [List.nil_append, List.cons_append]
  rw [tks_nm, tks_fx, tks_app, tks_app, tks_fx, tks_fx, tks_nil]
  simp
theorem read_b {d : Nat} {v : Tr} (h : REx d v) : BX 1 (te v) (er v) d := by
  obtain ⟨e, h⟩ := h
  exact (read_x e d v h).b 1 (by omega) (holds_pos h)
theorem off_t {x : By} (l : List Tok) (h1 : x ≠ [91]) (h2 : x ≠ [40]) : Off (tk x :: l) := ⟨h1, h2⟩
theorem expr_r {v : Tr} (h : REx 0 v) (rest : List Tok) : exprV (te v ++ (tk [59] :: rest)) = .ok (er v, tk [59] :: rest) :=
  read_b h _ _ (by show nearV [59] < 1; decide) (off_t _ (by decide) (by decide)) (by unfold ef; simp; omega)
theorem held_r {v : Tr} (h : REx 1 v) (rest : List Tok) : heldV (tk [40] :: (te v ++ (tk [41] :: rest))) = .ok (er v, rest) :=
  held_x (d := 0) (read_b h) _ _ (by unfold ef; simp; omega)
theorem idx_r {v : Tr} (h : REx 1 v) (rest : List Tok) : idxV (te v ++ (tk [93] :: rest)) = .ok (er v, rest) :=
  idx_x (d := 0) (read_b h) _ _ (by unfold ef; simp; omega)
theorem args_r {xs : List Tr} {e : Nat} (h : ∀ x ∈ xs, RE e 1 x) (rest : List Tok) : argsV (te (chain xs) ++ (tk [41] :: rest)) = .ok (er (chain xs), rest) := by
  unfold argsV argV
  cases xs with
  | nil =>
    have e3 : te (chain []) = [] := by show tks (pcE ce) = []; rw [pc_ce]; rfl
    rw [e3, List.nil_append, if_pos (by rfl), show chain [] = ce from rfl, er_ce]
    rfl
  | cons x xs =>
    rw [if_neg (chain_te (h x (by simp)) _)]
    exact args_x (d := 0) (x :: xs) (by simp) (fun z hz => read_b ⟨e, h z hz⟩) _ _ (by unfold ef; simp; omega)
theorem name_r {nm : By} (h : Nam nm) (rest : List Tok) : nameVv (nt nm :: rest) = .ok (nm, rest) := by
  unfold nameVv
  rw [if_neg (by show ¬ (0 : Nat) ≠ 0; decide), if_neg (by show ¬ 12 < nm.length; have := h.2.2.2.2; omega)]
  rfl
/-- With what a statement begins. -/
theorem tm_first : ∀ (f d n : Nat) (t : Tr), RS f d t → ∃ x q, tm n t = x :: q ∧ x.t ≠ [125] ∧ x.t ≠ [101, 108, 115, 101] ∧ x.t ≠ [] ∧ x.p = 0
  | 0, _, _, _, h => h.elim
  | f + 1, d, n, t, h => by
    have hnam : ∀ nm, Nam nm → nm ≠ [125] ∧ nm ≠ [101, 108, 115, 101] ∧ nm ≠ [] := fun nm hn => by
      refine ⟨al_not 125 hn.2.1 rfl (by decide), fun e => ?_, hn.1⟩
      have := hn.2.2.2.1
      rw [e] at this
      revert this
      decide
    rw [RS] at h
    rcases h with ⟨a, nm, v, hn, hv, rfl⟩ | ⟨a, nm, v, hn, hv, rfl⟩ | ⟨a, nm, i, v, hn, hi, hv, rfl⟩ | ⟨a, v, xs, ys, h1, hv, h3, h4, rfl⟩ | ⟨a, v, xs, h1, hv, h3, rfl⟩ | ⟨a, v, hv, rfl⟩ | ⟨a, v, hv, rfl⟩ | ⟨a, b, nm, xs, hn, hx, rfl⟩
    · exact ⟨_, _, tm_1 n a nm v, by decide, by decide, by decide, rfl⟩
    · exact ⟨_, _, tm_2 n a nm v, (hnam nm hn).1, (hnam nm hn).2.1, (hnam nm hn).2.2, rfl⟩
    · exact ⟨_, _, tm_3 n a nm i v, (hnam nm hn).1, (hnam nm hn).2.1, (hnam nm hn).2.2, rfl⟩
    · exact ⟨_, _, tm_4 n a v _ _, by decide, by decide, by decide, rfl⟩
    · exact ⟨_, _, tm_5 n a v _, by decide, by decide, by decide, rfl⟩
    · exact ⟨_, _, tm_6 n a v, by decide, by decide, by decide, rfl⟩
    · exact ⟨_, _, tm_7 n a v, by decide, by decide, by decide, rfl⟩
    · exact ⟨_, _, tm_8 n a b nm xs, (hnam nm hn).1, (hnam nm hn).2.1, (hnam nm hn).2.2, rfl⟩
theorem rs_st {f d : Nat} {x : Tr} (hx : RS f d x) : ∃ c a nm ix v th el, x = st c a nm ix v th el := by
  cases f with
  | zero => exact hx.elim
  | succ f =>
    rw [RS] at hx
    rcases hx with ⟨a, nm, v, _, _, e⟩ | ⟨a, nm, v, _, _, e⟩ | ⟨a, nm, i, v, _, _, _, e⟩ | ⟨a, v, xs, ys, h1, h2, h3, h4, e⟩ | ⟨a, v, xs, h1, h2, h3, e⟩ | ⟨a, v, _, e⟩ | ⟨a, v, _, e⟩ | ⟨a, b, nm, xs, _, _, e⟩ <;> exact ⟨_, _, _, _, _, _, _, e⟩
theorem ts_cc {f d : Nat} {x : Tr} (hx : RS f d x) (n : Nat) (g : Tr) : ts n (cc x g) = tm (n + 2) x ++ ts n g := by
  obtain ⟨c, a, nm, ix, v, th, el, rfl⟩ := rs_st hx
  exact ts_cons n c a nm ix v th el g
/-- What is read of a statement. -/
def StX (f d : Nat) (t : Tr) : Prop := ∀ n F rest, (hd rest).t ≠ [101, 108, 115, 101] → 3 * (tm n t).length + 1 ≤ F → stV F 2 d (tm n t ++ rest) = .ok (er t, rest)
theorem loop_x {f d : Nat} (n : Nat) (ih : ∀ t, RS f (d + 1) t → StX f (d + 1) t) : ∀ (xs : List Tr), (∀ x ∈ xs, RS f (d + 1) x) → ∀ F rest, 3 * (ts n (chain xs)).length + 2 ≤ F → stV F 1 d (ts n (chain xs) ++ (tk [125] :: rest)) = .ok (er (chain xs), rest)
  | [], _, F, rest, hF => by
    obtain ⟨G, rfl⟩ : ∃ G, F = G + 1 := ⟨F - 1, by omega⟩
    rw [show chain [] = ce from rfl, ts_ce, List.nil_append, stV, if_pos (by rfl), er_ce]
    rfl
  | x :: xs, h, F, rest, hF => by
    have hx := h x (by simp)
    rw [show chain (x :: xs) = cc x (chain xs) from rfl, ts_cc hx] at hF ⊢
    obtain ⟨y, q, e1, e2, e3, e4, e5⟩ := tm_first f _ (n + 2) x hx
    have hlen : 1 ≤ (tm (n + 2) x).length := by rw [e1]; simp
    simp only [List.length_append] at hF
    obtain ⟨G, rfl⟩ : ∃ G, F = G + 1 := ⟨F - 1, by omega⟩
    have hh : (hd (tm (n + 2) x ++ (ts n (chain xs) ++ (tk [125] :: rest)))).t ≠ [125] := by rw [e1]; exact e2
    have hnx : (hd (ts n (chain xs) ++ (tk [125] :: rest))).t ≠ [101, 108, 115, 101] := by
      cases xs with
      | nil =>
        rw [show chain [] = ce from rfl, ts_ce]
        show ([125] : By) ≠ _
        decide
      | cons z xs =>
        obtain ⟨y2, q2, f1, f2, f3, _⟩ := tm_first f _ (n + 2) z (h z (by simp))
        rw [show chain (z :: xs) = cc z (chain xs) from rfl, ts_cc (h z (by simp)), f1]
        exact f3
    rw [List.append_assoc, stV, if_neg hh, ih x hx (n + 2) G _ hnx (by omega), bnd_eq, loop_x n ih xs (fun z hz => h z (by simp [hz])) G rest (by omega), bnd_eq, er_cc]
theorem block_x {f d : Nat} (n : Nat) (ih : ∀ t, RS f (d + 1) t → StX f (d + 1) t) (hd' : d ≤ 12) (xs : List Tr) (h : ∀ x ∈ xs, RS f (d + 1) x) (F : Nat) (rest : List Tok) (hF : 3 * (ts n (chain xs)).length + 3 ≤ F) : stV F 0 d (tk [123] :: (ts n (chain xs) ++ (tk [125] :: rest))) = .ok (er (chain xs), rest) := by
  obtain ⟨G, rfl⟩ : ∃ G, F = G + 1 := ⟨F - 1, by omega⟩
  rw [stV, bound_le hd', bnd_eq, need_hd, bnd_eq]
  exact loop_x n ih xs h G rest (by omega)
theorem ap3 (X Y : List Tok) (a b : Tok) (rest : List Tok) : (X ++ (a :: b :: Y)) ++ rest = X ++ (a :: b :: (Y ++ rest)) := by simp

set_option maxHeartbeats 1000000 in
theorem st_x : ∀ (f d : Nat) (t : Tr), RS f d t → StX f d t
  | 0, _, _, h => h.elim
  | f + 1, d, t, h => by
    have IB : ∀ (n d : Nat) (xs : List Tr), d ≤ 12 → (∀ x ∈ xs, RS f (d + 1) x) → ∀ F rest, 3 * (ts n (chain xs)).length + 3 ≤ F → stV F 0 d (tk [123] :: (ts n (chain xs) ++ (tk [125] :: rest))) = .ok (er (chain xs), rest) := fun n d xs hd' h F rest hF => block_x n (fun t ht => st_x f _ t ht) hd' xs h F rest hF
    intro n F rest hr hF
    obtain ⟨G, rfl⟩ : ∃ G, F = G + 1 := ⟨F - 1, by omega⟩
    rw [RS] at h
    rcases h with ⟨a, nm, v, hn, hv, rfl⟩ | ⟨a, nm, v, hn, hv, rfl⟩ | ⟨a, nm, i, v, hn, hi, hv, rfl⟩ | ⟨a, v, xs, ys, h1, hv, h3, h4, rfl⟩ | ⟨a, v, xs, h1, hv, h3, rfl⟩ | ⟨a, v, hv, rfl⟩ | ⟨a, v, hv, rfl⟩ | ⟨a, b, nm, xs, hn, ⟨e, hx⟩, rfl⟩
    · have e1 : tm n (st 1 a nm .nil v ce ce) ++ rest = tk [118, 97, 114] :: nt nm :: tk [61] :: (te v ++ (tk [59] :: rest)) := by rw [tm_1]; simp
      rw [e1, stV, if_neg (by show ¬ (1 : Nat) = 0; decide), if_pos (by rfl)]
      show bnd (nameVv (nt nm :: tk [61] :: (te v ++ (tk [59] :: rest)))) _ = _
      rw [name_r hn, bnd_eq, need_hd, bnd_eq, expr_r hv, bnd_eq, need_hd, bnd_eq, er_st, er_nil, er_ce]
      rfl
    · have e1 : tm n (st 2 a nm .nil v ce ce) ++ rest = nt nm :: tk [61] :: (te v ++ (tk [59] :: rest)) := by rw [tm_2]; simp
      rw [e1, stV, if_pos (by rfl)]
      unfold namedV
      rw [name_r hn, bnd_eq, if_neg (by show ¬ ([61] : By) = [40]; decide), if_neg (by show ¬ ([61] : By) = [91]; decide), need_hd, bnd_eq, expr_r hv, bnd_eq, bnd_eq, need_hd, bnd_eq, er_st, er_nil, er_ce]
      rfl
    · have e1 : tm n (st 3 a nm i v ce ce) ++ rest = nt nm :: tk [91] :: (te i ++ (tk [93] :: tk [61] :: (te v ++ (tk [59] :: rest)))) := by rw [tm_3]; simp
      rw [e1, stV, if_pos (by rfl)]
      unfold namedV
      rw [name_r hn, bnd_eq, if_neg (by show ¬ ([91] : By) = [40]; decide), if_pos (by rfl)]
      show bnd (bnd (idxV (te i ++ (tk [93] :: tk [61] :: (te v ++ (tk [59] :: rest))))) _) _ = _
      rw [idx_r hi, bnd_eq, need_hd, bnd_eq, expr_r hv, bnd_eq, bnd_eq, need_hd, bnd_eq, er_st, er_ce]
      rfl
    · cases hce : isCe (chain ys) with
      | true =>
        have e1 : tm n (st 4 a [] .nil v (chain xs) (chain ys)) ++ rest = tk [105, 102] :: (tk [40] :: (te v ++ (tk [41] :: tk [123] :: (ts n (chain xs) ++ (tk [125] :: rest))))) := by rw [tm_4, hce]; simp
        have hl : (tm n (st 4 a [] .nil v (chain xs) (chain ys))).length = (te v).length + (ts n (chain xs)).length + 5 := by rw [tm_4, hce]; simp; omega
        have hys : ys = [] := by
          cases ys with
          | nil => rfl
          | cons y ys => simp [isCe, chain] at hce
        rw [e1, stV, if_neg (by show ¬ (1 : Nat) = 0; decide), if_neg (by show ¬ ([105, 102] : By) = _; decide), if_neg (by show ¬ ([105, 102] : By) = _; decide), if_neg (by show ¬ ([105, 102] : By) = _; decide), if_pos (by rfl)]
        show bnd (heldV (tk [40] :: (te v ++ (tk [41] :: tk [123] :: (ts n (chain xs) ++ (tk [125] :: rest)))))) _ = _
        rw [held_r hv, bnd_eq, IB n d xs h1 h3 G rest (by omega), bnd_eq, if_neg hr, er_st, er_nil, hys, show chain [] = ce from rfl, er_ce]
        rfl
      | false =>
        have e1 : tm n (st 4 a [] .nil v (chain xs) (chain ys)) ++ rest = tk [105, 102] :: (tk [40] :: (te v ++ (tk [41] :: tk [123] :: (ts n (chain xs) ++ (tk [125] :: tk [101, 108, 115, 101] :: tk [123] :: (ts n (chain ys) ++ (tk [125] :: rest))))))) := by rw [tm_4, hce]; simp
        have hl : (tm n (st 4 a [] .nil v (chain xs) (chain ys))).length = (te v).length + (ts n (chain xs)).length + (ts n (chain ys)).length + 8 := by rw [tm_4, hce]; simp; omega
        rw [e1, stV, if_neg (by show ¬ (1 : Nat) = 0; decide), if_neg (by show ¬ ([105, 102] : By) = _; decide), if_neg (by show ¬ ([105, 102] : By) = _; decide), if_neg (by show ¬ ([105, 102] : By) = _; decide), if_pos (by rfl)]
        show bnd (heldV (tk [40] :: (te v ++ (tk [41] :: tk [123] :: (ts n (chain xs) ++ (tk [125] :: tk [101, 108, 115, 101] :: tk [123] :: (ts n (chain ys) ++ (tk [125] :: rest)))))))) _ = _
        rw [held_r hv, bnd_eq, IB n d xs h1 h3 G _ (by omega), bnd_eq, if_pos (by rfl)]
        show bnd (stV G 0 d (tk [123] :: (ts n (chain ys) ++ (tk [125] :: rest)))) _ = _
        rw [IB n d ys h1 h4 G rest (by omega), bnd_eq, er_st, er_nil]
        rfl
    · have e1 : tm n (st 5 a [] .nil v (chain xs) ce) ++ rest = tk [119, 104, 105, 108, 101] :: (tk [40] :: (te v ++ (tk [41] :: tk [123] :: (ts n (chain xs) ++ (tk [125] :: rest))))) := by rw [tm_5]; simp
      have hl : (tm n (st 5 a [] .nil v (chain xs) ce)).length = (te v).length + (ts n (chain xs)).length + 5 := by rw [tm_5]; simp; omega
      rw [e1, stV, if_neg (by show ¬ (1 : Nat) = 0; decide), if_neg (by show ¬ ([119, 104, 105, 108, 101] : By) = _; decide), if_neg (by show ¬ ([119, 104, 105, 108, 101] : By) = _; decide), if_neg (by show ¬ ([119, 104, 105, 108, 101] : By) = _; decide), if_neg (by show ¬ ([119, 104, 105, 108, 101] : By) = _; decide), if_pos (by rfl)]
      show bnd (heldV (tk [40] :: (te v ++ (tk [41] :: tk [123] :: (ts n (chain xs) ++ (tk [125] :: rest)))))) _ = _
      rw [held_r hv, bnd_eq, IB n d xs h1 h3 G rest (by omega), bnd_eq, er_st, er_nil, er_ce]
      rfl
    · have e1 : tm n (st 6 a [] .nil v ce ce) ++ rest = tk [114, 101, 116, 117, 114, 110] :: (te v ++ (tk [59] :: rest)) := by rw [tm_6]; simp
      rw [e1, stV, if_neg (by show ¬ (1 : Nat) = 0; decide), if_neg (by show ¬ ([114, 101, 116, 117, 114, 110] : By) = _; decide), if_pos (by rfl)]
      show bnd (exprV (te v ++ (tk [59] :: rest))) _ = _
      rw [expr_r hv, bnd_eq, need_hd, bnd_eq, er_st, er_nil, er_ce]
      rfl
    · have e1 : tm n (st 7 a [] .nil v ce ce) ++ rest = tk [112, 114, 105, 110, 116] :: (te v ++ (tk [59] :: rest)) := by rw [tm_7]; simp
      rw [e1, stV, if_neg (by show ¬ (1 : Nat) = 0; decide), if_neg (by show ¬ ([112, 114, 105, 110, 116] : By) = _; decide), if_neg (by show ¬ ([112, 114, 105, 110, 116] : By) = _; decide), if_pos (by rfl)]
      show bnd (exprV (te v ++ (tk [59] :: rest))) _ = _
      rw [expr_r hv, bnd_eq, need_hd, bnd_eq, er_st, er_nil, er_ce]
      rfl
    · have e1 : tm n (st 8 a [] .nil (nd 5 b 0 nm [] .nil .nil (chain xs)) ce ce) ++ rest = nt nm :: tk [40] :: (te (chain xs) ++ (tk [41] :: tk [59] :: rest)) := by rw [tm_8]; simp
      rw [e1, stV, if_pos (by rfl)]
      unfold namedV
      rw [name_r hn, bnd_eq, if_pos (by rfl)]
      show bnd (bnd (argsV (te (chain xs) ++ (tk [41] :: tk [59] :: rest))) _) _ = _
      rw [args_r hx, bnd_eq, bnd_eq, need_hd, bnd_eq, er_st, er_nil, er_ce, er_nd, er_nil]
      rfl
end Go.Proofs.YtpakgaegckkmnaaGreatDoor

namespace Go.Proofs.YtpakgaegckkmnaaGreatDoor
set_option linter.unusedVariables false
set_option linter.unusedSimpArgs false
open Go

theorem need_re {x : By} {l l' : List Tok} {u : Unit} (hT : TkOk l) (hx : x ≠ []) (h : needV x l = .ok (u, l')) : TkOk l' ∧ l'.length + 1 = l.length := by
  obtain ⟨e, rfl⟩ := need_ok h
  exact ⟨hT.tail, tl_len (by rw [e]; exact hx)⟩
theorem name_re {l l' : List Tok} {nm : By} (hT : TkOk l) (h : nameVv l = .ok (nm, l')) : Nam nm ∧ TkOk l' ∧ l'.length + 1 = l.length := by
  obtain ⟨hk, rfl, h12, rfl⟩ := name_ok h
  exact ⟨hT.hd.1 hk h12, hT.tail, tl_kind hT (.inl hk)⟩
theorem tok_re {x : By} {l : List Tok} (hT : TkOk l) (h : (hd l).t = x) (hx : x ≠ []) : TkOk l.tail ∧ l.tail.length + 1 = l.length := ⟨hT.tail, tl_len (by rw [h]; exact hx)⟩
theorem expr_re {l l' : List Tok} {v : Tr} (hT : TkOk l) (h : exprV l = .ok (v, l')) : TkOk l' ∧ REx 0 v ∧ (te v).length + l'.length ≤ l.length := by
  obtain ⟨T1, ⟨e, r⟩, r'⟩ : TkOk l' ∧ RL 1 0 v l'.length l.length := ex_re _ 0 1 0 .nil 0 l v l' (fun _ => ⟨by omega, by omega⟩) (fun h => by omega) (fun h => by omega) hT h
  rw [hk_len] at r'
  exact ⟨T1, ⟨e, re_mono _ _ _ _ _ (Nat.le_refl _) (by omega) r⟩, by omega⟩
theorem held_re {l l' : List Tok} {v : Tr} (hT : TkOk l) (h : heldV l = .ok (v, l')) : TkOk l' ∧ REx 1 v ∧ (te v).length + 2 + l'.length ≤ l.length :=
  ex_re _ 5 0 0 .nil 0 l v l' (fun h => by omega) (fun h => by omega) (fun h => by omega) hT h
theorem idx_re {l l' : List Tok} {v : Tr} (hT : TkOk l) (h : idxV l = .ok (v, l')) : TkOk l' ∧ REx 1 v ∧ (te v).length + 1 + l'.length ≤ l.length :=
  ex_re _ 6 0 0 .nil 0 l v l' (fun h => by omega) (fun h => by omega) (fun h => by omega) hT h
theorem args_re {l l' : List Tok} {g : Tr} (hT : TkOk l) (h : argsV l = .ok (g, l')) : TkOk l' ∧ ∃ xs, g = chain xs ∧ (∃ e, ∀ x ∈ xs, RE e 1 x) ∧ (te g).length + 1 + l'.length ≤ l.length := by
  unfold argsV argV at h
  split at h
  · rename_i h41
    have htl := tl_len (l := l) (by rw [h41]; simp)
    obtain ⟨rfl, rfl⟩ := ok_eq h
    have e3 : te ce = [] := by unfold te; rw [pc_ce]; rfl
    exact ⟨hT.tail, [], rfl, ⟨0, fun x hx => by simp at hx⟩, by rw [e3]; simp; omega⟩
  · obtain ⟨T1, xs, _, a, b, c⟩ : TkOk l' ∧ ∃ xs, xs ≠ [] ∧ g = chain xs ∧ (∃ e, ∀ x ∈ xs, RE e (0 + 1) x) ∧ (te g).length + 1 + l'.length ≤ l.length := ex_re _ 7 0 0 ce 0 l g l' (fun h => by omega) (fun h => by omega) (fun h => by omega) hT h
    exact ⟨T1, xs, a, b, c⟩
theorem named_re {a : Nat} {l l' : List Tok} {t : Tr} (d : Nat) (hT : TkOk l) (h : namedV a l = .ok (t, l')) : TkOk l' ∧ RS 1 d t ∧ ∀ n, (tm n t).length + l'.length ≤ l.length + 1 := by
  unfold namedV at h
  obtain ⟨nm, l1, h1, h⟩ := bnd_ok h
  obtain ⟨hn, T1, s1⟩ := name_re hT h1
  split at h
  · rename_i h40
    obtain ⟨T2, s2⟩ := tok_re T1 h40 (by decide)
    obtain ⟨g, l2, h2, h⟩ := bnd_ok h
    obtain ⟨T3, xs, rfl, hx, s3⟩ := args_re T2 h2
    obtain ⟨rfl, rfl⟩ := ok_eq h
    refine ⟨T3, ?_, fun n => ?_⟩
    · rw [RS]
      exact .inr (.inr (.inr (.inr (.inr (.inr (.inr ⟨_, _, nm, xs, hn, hx, rfl⟩))))))
    · rw [tm_8]
      simp
      omega
  split at h
  · rename_i h91
    obtain ⟨T2, s2⟩ := tok_re T1 h91 (by decide)
    obtain ⟨g, l2, h2, h⟩ := bnd_ok h
    obtain ⟨T3, hi, s3⟩ := idx_re T2 h2
    obtain ⟨_, l3, h3, h⟩ := bnd_ok h
    obtain ⟨T4, s4⟩ := need_re T3 (by decide) h3
    obtain ⟨v, l4, h4, h⟩ := bnd_ok h
    obtain ⟨T5, hv, s5⟩ := expr_re T4 h4
    obtain ⟨rfl, rfl⟩ := ok_eq h
    refine ⟨T5, ?_, fun n => ?_⟩
    · rw [RS]
      exact .inr (.inr (.inl ⟨_, nm, _, _, hn, hi, hv, rfl⟩))
    · rw [tm_3]
      simp
      omega
  · obtain ⟨_, l3, h3, h⟩ := bnd_ok h
    obtain ⟨T4, s4⟩ := need_re T1 (by decide) h3
    obtain ⟨v, l4, h4, h⟩ := bnd_ok h
    obtain ⟨T5, hv, s5⟩ := expr_re T4 h4
    obtain ⟨rfl, rfl⟩ := ok_eq h
    refine ⟨T5, ?_, fun n => ?_⟩
    · rw [RS]
      exact .inr (.inl ⟨_, nm, _, hn, hv, rfl⟩)
    · rw [tm_2]
      simp
      omega
def StR (g d : Nat) (l : List Tok) (t : Tr) (l' : List Tok) : Prop := TkOk l' ∧
  (if g = 2 then (∃ e, RS e d t) ∧ ∀ n, (tm n t).length + l'.length ≤ l.length
   else ∃ ys, t = chain ys ∧ (∃ e, ∀ y ∈ ys, RS e (d + 1) y) ∧ (g = 0 → d ≤ 12) ∧ ∀ n, (ts n t).length + (if g = 0 then 2 else 1) + l'.length ≤ l.length)
theorem rs_max {e1 e2 d d' : Nat} {xs ys : List Tr} (h1 : ∀ x ∈ xs, RS e1 d x) (h2 : ∀ y ∈ ys, RS e2 d' y) : (∀ x ∈ xs, RS (max e1 e2) d x) ∧ (∀ y ∈ ys, RS (max e1 e2) d' y) := ⟨fun x hx => rs_mono _ _ _ _ (Nat.le_max_left _ _) (h1 x hx), fun x hx => rs_mono _ _ _ _ (Nat.le_max_right _ _) (h2 x hx)⟩

set_option maxHeartbeats 1000000 in
theorem st_re : ∀ (f g d : Nat) (l : List Tok) (t : Tr) (l' : List Tok), TkOk l → stV f g d l = .ok (t, l') → StR g d l t l'
  | 0, _, _, _, _, _, _, h => by simp [stV] at h
  | f + 1, 0, d, l, t, l', hT, h => by
    rw [stV] at h
    obtain ⟨_, _, hb, h⟩ := bnd_ok h
    obtain ⟨_, l1, h1, h⟩ := bnd_ok h
    obtain ⟨T1, s1⟩ := need_re hT (by decide) h1
    have h12 : d ≤ 12 := by
      have hk : (hd l).k ≠ 3 := fun e => by
        have := hT.hd.2.2 e
        rw [(need_ok h1).1] at this
        cases this
      unfold boundV at hb
      split at hb
      · cases hb
      · rename_i hno
        rcases Nat.lt_or_ge 12 d with hd | hd
        · exact absurd ⟨hd, hk⟩ hno
        · exact hd
    obtain ⟨T2, ys, e1, e2, _, e3⟩ : TkOk l' ∧ ∃ ys, t = chain ys ∧ (∃ e, ∀ y ∈ ys, RS e (d + 1) y) ∧ (1 = 0 → d ≤ 12) ∧ ∀ n, (ts n t).length + 1 + l'.length ≤ l1.length := st_re f 1 d l1 t l' T1 h
    exact ⟨T2, ys, e1, e2, fun _ => h12, fun n => by have := e3 n; show (ts n t).length + 2 + l'.length ≤ _; omega⟩
  | f + 1, 1, d, l, t, l', hT, h => by
    rw [stV] at h
    split at h
    · rename_i h1
      obtain ⟨T1, s1⟩ := tok_re hT h1 (by decide)
      obtain ⟨rfl, rfl⟩ := ok_eq h
      exact ⟨T1, [], rfl, ⟨0, fun x hx => by simp at hx⟩, fun e => (by cases e), fun n => by rw [ts_ce]; show 0 + 1 + _ ≤ _; omega⟩
    · obtain ⟨t1, l1, h1, h⟩ := bnd_ok h
      obtain ⟨T1, ⟨e1, r1⟩, r2⟩ : TkOk l1 ∧ (∃ e, RS e (d + 1) t1) ∧ ∀ n, (tm n t1).length + l1.length ≤ l.length := st_re f 2 (d + 1) l t1 l1 hT h1
      obtain ⟨g, l2, h2, h⟩ := bnd_ok h
      obtain ⟨T2, ys, rfl, ⟨e2, r3⟩, _, r4⟩ : TkOk l2 ∧ ∃ ys, g = chain ys ∧ (∃ e, ∀ y ∈ ys, RS e (d + 1) y) ∧ (1 = 0 → d ≤ 12) ∧ ∀ n, (ts n g).length + 1 + l2.length ≤ l1.length := st_re f 1 d l1 g l2 T1 h2
      obtain ⟨rfl, rfl⟩ := ok_eq h
      refine ⟨T2, t1 :: ys, rfl, ⟨max e1 e2, fun y hy => ?_⟩, fun e => (by cases e), fun n => ?_⟩
      · rcases List.mem_cons.1 hy with rfl | hy
        · exact rs_mono _ _ _ _ (Nat.le_max_left _ _) r1
        · exact rs_mono _ _ _ _ (Nat.le_max_right _ _) (r3 y hy)
      · rw [ts_cc r1]
        have a1 := r2 (n + 2)
        have a2 := r4 n
        show (tm (n + 2) t1 ++ ts n (chain ys)).length + 1 + l2.length ≤ l.length
        rw [List.length_append]
        omega
  | f + 1, 2, d, l, t, l', hT, h => by
    show TkOk l' ∧ (∃ e, RS e d t) ∧ ∀ n, (tm n t).length + l'.length ≤ l.length
    rw [stV] at h
    split at h
    · obtain ⟨t1, l1, h1, h⟩ := bnd_ok h
      obtain ⟨T1, r1, r2⟩ := named_re d hT h1
      obtain ⟨_, l2, h2, h⟩ := bnd_ok h
      obtain ⟨T2, s2⟩ := need_re T1 (by decide) h2
      obtain ⟨rfl, rfl⟩ := ok_eq h
      exact ⟨T2, ⟨1, r1⟩, fun n => by have := r2 n; omega⟩
    split at h
    · rename_i h0
      obtain ⟨T0, s0⟩ := tok_re hT h0 (by decide)
      obtain ⟨nm, l1, h1, h⟩ := bnd_ok h
      obtain ⟨hn, T1, s1⟩ := name_re T0 h1
      obtain ⟨_, l2, h2, h⟩ := bnd_ok h
      obtain ⟨T2, s2⟩ := need_re T1 (by decide) h2
      obtain ⟨v, l3, h3, h⟩ := bnd_ok h
      obtain ⟨T3, hv, s3⟩ := expr_re T2 h3
      obtain ⟨_, l4, h4, h⟩ := bnd_ok h
      obtain ⟨T4, s4⟩ := need_re T3 (by decide) h4
      obtain ⟨rfl, rfl⟩ := ok_eq h
      refine ⟨T4, ⟨1, ?_⟩, fun n => ?_⟩
      · rw [RS]
        exact .inl ⟨_, nm, _, hn, hv, rfl⟩
      · rw [tm_1]
        simp
        omega
    split at h
    · rename_i h0
      obtain ⟨T0, s0⟩ := tok_re hT h0 (by decide)
      obtain ⟨v, l3, h3, h⟩ := bnd_ok h
      obtain ⟨T3, hv, s3⟩ := expr_re T0 h3
      obtain ⟨_, l4, h4, h⟩ := bnd_ok h
      obtain ⟨T4, s4⟩ := need_re T3 (by decide) h4
      obtain ⟨rfl, rfl⟩ := ok_eq h
      refine ⟨T4, ⟨1, ?_⟩, fun n => ?_⟩
      · rw [RS]
        exact .inr (.inr (.inr (.inr (.inr (.inl ⟨_, _, hv, rfl⟩)))))
      · rw [tm_6]
        simp
        omega
    split at h
    · rename_i h0
      obtain ⟨T0, s0⟩ := tok_re hT h0 (by decide)
      obtain ⟨v, l3, h3, h⟩ := bnd_ok h
      obtain ⟨T3, hv, s3⟩ := expr_re T0 h3
      obtain ⟨_, l4, h4, h⟩ := bnd_ok h
      obtain ⟨T4, s4⟩ := need_re T3 (by decide) h4
      obtain ⟨rfl, rfl⟩ := ok_eq h
      refine ⟨T4, ⟨1, ?_⟩, fun n => ?_⟩
      · rw [RS]
        exact .inr (.inr (.inr (.inr (.inr (.inr (.inl ⟨_, _, hv, rfl⟩))))))
      · rw [tm_7]
        simp
        omega
    split at h
    · rename_i h0
      obtain ⟨T0, s0⟩ := tok_re hT h0 (by decide)
      obtain ⟨v, l3, h3, h⟩ := bnd_ok h
      obtain ⟨T3, hv, s3⟩ := held_re T0 h3
      obtain ⟨th, l4, h4, h⟩ := bnd_ok h
      obtain ⟨T4, xs, rfl, ⟨e1, r1⟩, h12, r2⟩ : TkOk l4 ∧ ∃ ys, th = chain ys ∧ (∃ e, ∀ y ∈ ys, RS e (d + 1) y) ∧ (0 = 0 → d ≤ 12) ∧ ∀ n, (ts n th).length + 2 + l4.length ≤ l3.length := st_re f 0 d l3 th l4 T3 h4
      split at h
      · rename_i h5
        obtain ⟨T5, s5⟩ := tok_re T4 h5 (by decide)
        obtain ⟨el, l6, h6, h⟩ := bnd_ok h
        obtain ⟨T6, ys, rfl, ⟨e2, r3⟩, _, r4⟩ : TkOk l6 ∧ ∃ ys, el = chain ys ∧ (∃ e, ∀ y ∈ ys, RS e (d + 1) y) ∧ (0 = 0 → d ≤ 12) ∧ ∀ n, (ts n el).length + 2 + l6.length ≤ l4.tail.length := st_re f 0 d l4.tail el l6 T5 h6
        obtain ⟨rfl, rfl⟩ := ok_eq h
        obtain ⟨m1, m2⟩ := rs_max r1 r3
        refine ⟨T6, ⟨max e1 e2 + 1, ?_⟩, fun n => ?_⟩
        · rw [RS]
          exact .inr (.inr (.inr (.inl ⟨_, _, xs, ys, h12 rfl, hv, m1, m2, rfl⟩)))
        · rw [tm_4]
          have a1 := r2 n
          have a2 := r4 n
          split
          · simp only [List.length_cons, List.length_append, List.length_nil]
            omega
          · simp only [List.length_cons, List.length_append, List.length_nil]
            omega
      · obtain ⟨rfl, rfl⟩ := ok_eq h
        refine ⟨T4, ⟨e1 + 1, ?_⟩, fun n => ?_⟩
        · rw [RS]
          exact .inr (.inr (.inr (.inl ⟨_, _, xs, [], h12 rfl, hv, r1, fun y hy => by simp at hy, rfl⟩)))
        · rw [tm_4]
          have a1 := r2 n
          rw [if_pos (show isCe ce = true from rfl)]
          simp only [List.length_cons, List.length_append, List.length_nil]
          omega
    split at h
    · rename_i h0
      obtain ⟨T0, s0⟩ := tok_re hT h0 (by decide)
      obtain ⟨v, l3, h3, h⟩ := bnd_ok h
      obtain ⟨T3, hv, s3⟩ := held_re T0 h3
      obtain ⟨th, l4, h4, h⟩ := bnd_ok h
      obtain ⟨T4, xs, rfl, ⟨e1, r1⟩, h12, r2⟩ : TkOk l4 ∧ ∃ ys, th = chain ys ∧ (∃ e, ∀ y ∈ ys, RS e (d + 1) y) ∧ (0 = 0 → d ≤ 12) ∧ ∀ n, (ts n th).length + 2 + l4.length ≤ l3.length := st_re f 0 d l3 th l4 T3 h4
      obtain ⟨rfl, rfl⟩ := ok_eq h
      refine ⟨T4, ⟨e1 + 1, ?_⟩, fun n => ?_⟩
      · rw [RS]
        exact .inr (.inr (.inr (.inr (.inl ⟨_, _, xs, h12 rfl, hv, r1, rfl⟩))))
      · rw [tm_5]
        have a1 := r2 n
        simp only [List.length_cons, List.length_append, List.length_nil]
        omega
    · cases h
  | f + 1, g + 3, d, l, t, l', hT, h => by simp [stV] at h
end Go.Proofs.YtpakgaegckkmnaaGreatDoor

namespace Go.Proofs.YtpakgaegckkmnaaGreatDoor
set_option linter.unusedVariables false
set_option linter.unusedSimpArgs false
open Go Go.RowKit

/-- Parameters, a function, functions, in pieces. -/
def tyW (n : Int) : By := if n = 2 then [97, 114, 114] else [105, 110, 116]
def pcA (x : By × Int) : List Pc := [⟨0, x.1⟩, fx [58], bl 32, fx (tyW x.2)]
def pcP : List (By × Int) → List Pc
  | [] => []
  | [x] => pcA x
  | x :: y :: xs => pcA x ++ (fx [44] :: bl 32 :: pcP (y :: xs))
def pcF (F : Fun) : List Pc := fx [102, 110] :: bl 32 :: ⟨0, F.nm⟩ :: ((fx [40] :: (pcP F.ps ++ [fx [41]])) ++ (pcB 0 F.body ++ [bl 10]))
def pcL (L : List Fun) : List Pc := L.flatMap pcF
/-- A function as it is read. -/
def PaOk (x : By × Int) : Prop := Nam x.1 ∧ (x.2 = 1 ∨ x.2 = 2)
def RF (F : Fun) : Prop := F.kd = .i64 ∧ Nam F.nm ∧ (∀ x ∈ F.ps, PaOk x) ∧ ∃ xs e, F.body = chain xs ∧ ∀ x ∈ xs, RS e 1 x

theorem ty_word {n : Int} : tyW n ∈ wordsL := by
  unfold tyW
  split <;> decide
theorem fb_pars : ∀ xs : List (By × Int), (∀ x ∈ xs, PaOk x) → Fb (pcP xs) (paT xs)
  | [], _ => ⟨fun x hx => by simp [pcP] at hx, fun c _ => rfl, rfl⟩
  | [x], h => by
    obtain ⟨hn, _⟩ := h x (by simp)
    refine ⟨fun z hz => ?_, fun c hc => ?_, ?_⟩
    · simp only [pcP, pcA, List.mem_cons, List.not_mem_nil, or_false] at hz
      rcases hz with rfl | rfl | rfl | rfl
      · exact .inr (.inl ⟨rfl, hn⟩)
      · exact okm _ (by decide)
      · exact ok32
      · exact okw _ ty_word
    · refine sep_cons _ _ _ (ok1_al _ _ (nam_al hn) (by show alnum.contains 58 = false; decide)) (sep_cons _ _ _ (ok1_any _ _ (by decide)) (sep_cons _ _ _ (ok1_blank _ _) (sep_one _ _ (ok1_al _ _ ?_ hc))))
      show alnum.contains ((tyW x.2).headD 0) = true
      unfold tyW
      split <;> decide
    · simp [pcP, pcA, paT, paO, txt, tyW]
  | x :: y :: xs, h => by
    obtain ⟨hn, _⟩ := h x (by simp)
    have ih := fb_pars (y :: xs) (fun z hz => h z (by simp [hz]))
    refine ⟨fun z hz => ?_, fun c hc => ?_, ?_⟩
    · simp only [pcP, pcA, List.mem_append, List.mem_cons, List.not_mem_nil, or_false] at hz
      rcases hz with (rfl | rfl | rfl | rfl) | rfl | rfl | hz
      · exact .inr (.inl ⟨rfl, hn⟩)
      · exact okm _ (by decide)
      · exact ok32
      · exact okw _ ty_word
      · exact okm _ (by decide)
      · exact ok32
      · exact ih.ok z hz
    · rw [pcP]
      refine sep_two _ _ _ ?_ (sep_cons _ _ _ (ok1_any _ _ (by decide)) (sep_cons _ _ _ (ok1_blank _ _) (ih.sep c hc)))
      refine sep_cons _ _ _ (ok1_al _ _ (nam_al hn) (by show alnum.contains 58 = false; decide)) (sep_cons _ _ _ (ok1_any _ _ (by decide)) (sep_cons _ _ _ (ok1_blank _ _) (sep_one _ _ (ok1_al _ _ ?_ (by show alnum.contains 44 = false; decide)))))
      show alnum.contains ((tyW x.2).headD 0) = true
      unfold tyW
      split <;> decide
    · have := ih.tx
      rw [pcP, paT, txt_app, txt_cons, txt_cons, this]
      simp [pcA, paO, txt, tyW]
theorem rf_fc {F : Fun} (h : RF F) : Fc (pcF F) (fuT F) := by
  obtain ⟨_, hn, hp, xs, e, hb, hx⟩ := h
  have h1 : Fc (pcB 0 F.body) (blT (blanks 0) F.body) := by
    rw [hb]
    exact fc_block (fc_sts 0 (fun t ht m => rs_fc _ _ t ht m) xs hx)
  have h2 : Fc (pcB 0 F.body ++ [bl 10]) (blT [] F.body ++ [10]) := fc_app h1 (fc_10 fc_nil)
  have h3 := fc_in (fb_pars F.ps hp) [40] [41] (by decide) (by decide) (by decide) (by decide) (by decide) h2
  have h4 := fc_wb [102, 110] (by decide) (fc_nb hn h3 (fun c => by show alnum.contains 40 = false; decide))
  unfold pcF fuT
  simpa using h4
theorem rl_fc : ∀ L : List Fun, (∀ F ∈ L, RF F) → Fc (pcL L) (prT L)
  | [], _ => fc_nil
  | F :: L, h => by
    have := fc_app (rf_fc (h F (by simp))) (rl_fc L (fun G hG => h G (by simp [hG])))
    simpa [pcL, prT] using this

/-- Reading them. -/
theorem ta_eq (x : By × Int) (q : List Pc) : tks (pcA x ++ q) = nt x.1 :: tk [58] :: tk (tyW x.2) :: tks q := by
  show tks (⟨0, x.1⟩ :: fx [58] :: bl 32 :: fx (tyW x.2) :: q) = _
  rw [tks_nm, tks_fx, tks_bl, tks_fx]
theorem par_x {x : By × Int} (h : PaOk x) (rest : List Tok) : parV (nt x.1 :: tk [58] :: tk (tyW x.2) :: rest) = .ok (pr x.1 x.2, rest) := by
  unfold parV
  rw [name_r h.1, bnd_eq, need_hd, bnd_eq]
  rcases h.2 with e | e
  · have : tyW x.2 = [105, 110, 116] := by rw [e]; rfl
    rw [this, if_neg (by show ¬ ([105, 110, 116] : By) = _; decide), need_hd, bnd_eq, e]
  · have : tyW x.2 = [97, 114, 114] := by rw [e]; rfl
    rw [this, if_pos (by rfl), e]
    rfl
theorem parl_x : ∀ (xs : List (By × Int)), xs ≠ [] → (∀ x ∈ xs, PaOk x) → ∀ F rest, xs.length ≤ F → parlV F (tks (pcP xs) ++ (tk [41] :: rest)) = .ok (psT xs, rest)
  | [], h, _, _, _, _ => absurd rfl h
  | [x], _, h, F, rest, hF => by
    obtain ⟨G, rfl⟩ : ∃ G, F = G + 1 := ⟨F - 1, by simp at hF; omega⟩
    have e : tks (pcP [x]) = nt x.1 :: tk [58] :: tk (tyW x.2) :: [] := by
      have := ta_eq x []
      rw [List.append_nil] at this
      exact this
    rw [e]
    show parlV (G + 1) (nt x.1 :: tk [58] :: tk (tyW x.2) :: (tk [41] :: rest)) = _
    rw [parlV, par_x (h x (by simp)), bnd_eq, if_neg (by show ¬ ([41] : By) = [44]; decide), need_hd, bnd_eq]
    rfl
  | x :: y :: xs, _, h, F, rest, hF => by
    obtain ⟨G, rfl⟩ : ∃ G, F = G + 1 := ⟨F - 1, by simp at hF; omega⟩
    have ih := parl_x (y :: xs) (by simp) (fun z hz => h z (by simp [hz])) G rest (by simp at hF ⊢; omega)
    rw [pcP, ta_eq, tks_fx, tks_bl]
    show parlV (G + 1) (nt x.1 :: tk [58] :: tk (tyW x.2) :: (tk [44] :: (tks (pcP (y :: xs)) ++ (tk [41] :: rest)))) = _
    rw [parlV, par_x (h x (by simp)), bnd_eq, if_pos (by rfl)]
    show bnd (parlV G (tks (pcP (y :: xs)) ++ (tk [41] :: rest))) _ = _
    rw [ih, bnd_eq]
    rfl
theorem pcP_len : ∀ xs : List (By × Int), xs.length ≤ (tks (pcP xs)).length
  | [] => by simp
  | [x] => by
    have := ta_eq x []
    rw [List.append_nil] at this
    rw [pcP, this]
    simp
  | x :: y :: xs => by
    have ih := pcP_len (y :: xs)
    rw [pcP, ta_eq, tks_fx, tks_bl]
    simp at ih ⊢
    omega
theorem pars_x (xs : List (By × Int)) (h : ∀ x ∈ xs, PaOk x) (rest : List Tok) : parsV (tks (pcP xs) ++ (tk [41] :: rest)) = .ok (psT xs, rest) := by
  unfold parsV
  cases xs with
  | nil =>
    rw [pcP, tks_nil, List.nil_append, if_pos (by rfl)]
    rfl
  | cons x xs =>
    have hne : (hd (tks (pcP (x :: xs)) ++ (tk [41] :: rest))).t ≠ [41] := by
      have : ∃ q, tks (pcP (x :: xs)) = nt x.1 :: q := by
        cases xs with
        | nil => exact ⟨_, by have := ta_eq x []; rw [List.append_nil] at this; exact this⟩
        | cons y xs => exact ⟨_, by rw [pcP, ta_eq]⟩
      obtain ⟨q, e⟩ := this
      rw [e]
      exact al_not 41 (h x (by simp)).1.2.1 rfl (by decide)
    rw [if_neg hne]
    refine parl_x (x :: xs) (by simp) h _ rest ?_
    have := pcP_len (x :: xs)
    simp at this ⊢
    omega
theorem tf_eq (F : Fun) : tks (pcF F) = tk [102, 110] :: nt F.nm :: tk [40] :: (tks (pcP F.ps) ++ (tk [41] :: tk [123] :: (ts 0 F.body ++ [tk [125]]))) := by
  unfold pcF
  rw [tks_fx, tks_bl, tks_nm, tks_app, tks_fx, tks_app, tks_app, tb_eq, tks_fx, tks_nil, tks_bl, tks_nil]
  simp
theorem fn_x {F : Fun} (h : RF F) (rest : List Tok) : fnV (tks (pcF F) ++ rest) = .ok ((erF F).tr, rest) := by
  obtain ⟨hk, hn, hp, xs, e, hb, hx⟩ := h
  have e1 : tks (pcF F) ++ rest = tk [102, 110] :: nt F.nm :: tk [40] :: (tks (pcP F.ps) ++ (tk [41] :: tk [123] :: (ts 0 F.body ++ (tk [125] :: rest)))) := by rw [tf_eq]; simp
  rw [e1]
  unfold fnV
  rw [need_hd, bnd_eq, name_r hn, bnd_eq, need_hd, bnd_eq, pars_x F.ps hp, bnd_eq]
  unfold blockV
  rw [hb, block_x 0 (fun t ht => st_x e _ t ht) (by omega) xs hx _ rest (by simp; omega), bnd_eq]
  unfold erF Fun.tr
  rw [hk, hb]
  rfl
theorem prog_x : ∀ (L : List Fun), (∀ F ∈ L, RF F) → ∀ G k, L.length + 1 ≤ G → k + L.length ≤ 12 → progV G k (tks (pcL L) ++ [nu0]) = .ok (chain ((L.map erF).map Fun.tr), [nu0])
  | [], _, G, k, hG, hk => by
    obtain ⟨G, rfl⟩ : ∃ G', G = G' + 1 := ⟨G - 1, by omega⟩
    show progV (G + 1) k [nu0] = _
    rw [progV, if_pos (by rfl)]
    rfl
  | F :: L, h, G, k, hG, hk => by
    obtain ⟨G, rfl⟩ : ∃ G', G = G' + 1 := ⟨G - 1, by omega⟩
    simp only [List.length_cons] at hG hk
    have e1 : tks (pcL (F :: L)) ++ [nu0] = tks (pcF F) ++ (tks (pcL L) ++ [nu0]) := by
      show tks (pcF F ++ pcL L) ++ [nu0] = _
      rw [tks_app, List.append_assoc]
    have hh : (hd (tks (pcF F) ++ (tks (pcL L) ++ [nu0]))).k = 1 := by rw [tf_eq]; rfl
    rw [e1, progV, if_neg (by rw [hh]; decide), if_neg (by omega), fn_x (h F (by simp)), bnd_eq, prog_x L (fun z hz => h z (by simp [hz])) G (k + 1) (by omega) (by omega), bnd_eq]
    rfl

/-- What is read are such functions. -/
theorem par_re {l l' : List Tok} {t : Tr} (hT : TkOk l) (h : parV l = .ok (t, l')) : TkOk l' ∧ ∃ x : By × Int, t = pr x.1 x.2 ∧ PaOk x ∧ 3 + l'.length = l.length := by
  unfold parV at h
  obtain ⟨nm, l1, h1, h⟩ := bnd_ok h
  obtain ⟨hn, T1, s1⟩ := name_re hT h1
  obtain ⟨_, l2, h2, h⟩ := bnd_ok h
  obtain ⟨T2, s2⟩ := need_re T1 (by decide) h2
  split at h
  · rename_i h3
    obtain ⟨T3, s3⟩ := tok_re T2 h3 (by decide)
    obtain ⟨rfl, rfl⟩ := ok_eq h
    exact ⟨T3, (nm, 2), rfl, ⟨hn, .inr rfl⟩, by omega⟩
  · obtain ⟨_, l3, h3, h⟩ := bnd_ok h
    obtain ⟨T3, s3⟩ := need_re T2 (by decide) h3
    obtain ⟨rfl, rfl⟩ := ok_eq h
    exact ⟨T3, (nm, 1), rfl, ⟨hn, .inl rfl⟩, by omega⟩
theorem parl_re : ∀ (f : Nat) {l l' : List Tok} {t : Tr}, TkOk l → parlV f l = .ok (t, l') → TkOk l' ∧ ∃ xs : List (By × Int), xs ≠ [] ∧ t = psT xs ∧ (∀ x ∈ xs, PaOk x) ∧ (tks (pcP xs)).length + 1 + l'.length ≤ l.length
  | 0, l, l', t, hT, h => by simp [parlV] at h
  | f + 1, l, l', t, hT, h => by
    rw [parlV] at h
    obtain ⟨x, l1, h1, h⟩ := bnd_ok h
    obtain ⟨T1, p, rfl, q1, s1⟩ := par_re hT h1
    split at h
    · rename_i h2
      obtain ⟨T2, s2⟩ := tok_re T1 h2 (by decide)
      obtain ⟨g, l3, h3, h⟩ := bnd_ok h
      obtain ⟨T3, xs, hne, rfl, q2, q3⟩ := parl_re f T2 h3
      obtain ⟨rfl, rfl⟩ := ok_eq h
      refine ⟨T3, p :: xs, by simp, rfl, fun z hz => ?_, ?_⟩
      · rcases List.mem_cons.1 hz with rfl | hz
        · exact q1
        · exact q2 z hz
      · cases xs with
        | nil => exact absurd rfl hne
        | cons y xs =>
          rw [pcP, ta_eq, tks_fx, tks_bl]
          simp only [List.length_cons]
          omega
    · obtain ⟨_, l3, h3, h⟩ := bnd_ok h
      obtain ⟨T3, s3⟩ := need_re T1 (by decide) h3
      obtain ⟨rfl, rfl⟩ := ok_eq h
      refine ⟨T3, [p], by simp, rfl, fun z hz => by rw [List.mem_singleton] at hz; rw [hz]; exact q1, ?_⟩
      have := ta_eq p []
      rw [List.append_nil] at this
      rw [pcP, this]
      simp only [List.length_cons, List.length_nil, tks_nil]
      omega
theorem pars_re {l l' : List Tok} {t : Tr} (hT : TkOk l) (h : parsV l = .ok (t, l')) : TkOk l' ∧ ∃ xs : List (By × Int), t = psT xs ∧ (∀ x ∈ xs, PaOk x) ∧ (tks (pcP xs)).length + 1 + l'.length ≤ l.length := by
  unfold parsV at h
  split at h
  · rename_i h2
    obtain ⟨T2, s2⟩ := tok_re hT h2 (by decide)
    obtain ⟨rfl, rfl⟩ := ok_eq h
    exact ⟨T2, [], rfl, fun x hx => by simp at hx, by rw [pcP, tks_nil]; simp; omega⟩
  · obtain ⟨T, xs, _, a, b, c⟩ := parl_re _ hT h
    exact ⟨T, xs, a, b, c⟩
theorem fn_re {l l' : List Tok} {t : Tr} (hT : TkOk l) (h : fnV l = .ok (t, l')) : TkOk l' ∧ ∃ F : Fun, t = F.tr ∧ RF F ∧ (tks (pcF F)).length + l'.length ≤ l.length := by
  unfold fnV at h
  obtain ⟨_, l1, h1, h⟩ := bnd_ok h
  obtain ⟨T1, s1⟩ := need_re hT (by decide) h1
  obtain ⟨nm, l2, h2, h⟩ := bnd_ok h
  obtain ⟨hn, T2, s2⟩ := name_re T1 h2
  obtain ⟨_, l3, h3, h⟩ := bnd_ok h
  obtain ⟨T3, s3⟩ := need_re T2 (by decide) h3
  obtain ⟨ps, l4, h4, h⟩ := bnd_ok h
  obtain ⟨T4, xs, rfl, hp, s4⟩ := pars_re T3 h4
  obtain ⟨b, l5, h5, h⟩ := bnd_ok h
  obtain ⟨T5, ys, rfl, ⟨e, hy⟩, _, s5⟩ : TkOk l5 ∧ ∃ ys, b = chain ys ∧ (∃ e, ∀ y ∈ ys, RS e (0 + 1) y) ∧ (0 = 0 → 0 ≤ 12) ∧ ∀ n, (ts n b).length + 2 + l5.length ≤ l4.length := st_re _ 0 0 l4 b l5 T4 h5
  obtain ⟨rfl, rfl⟩ := ok_eq h
  refine ⟨T5, ⟨nm, .i64, (hd l).p, xs, chain ys⟩, rfl, ⟨rfl, hn, hp, ys, e, rfl, hy⟩, ?_⟩
  rw [tf_eq]
  have := s5 0
  simp only [List.length_cons, List.length_append, List.length_nil]
  omega
theorem prog_re : ∀ (f n : Nat) {l l' : List Tok} {t : Tr}, TkOk l → Ends l → progV f n l = .ok (t, l') → ∃ L : List Fun, t = chain (L.map Fun.tr) ∧ (∀ F ∈ L, RF F) ∧ (tks (pcL L)).length + 1 ≤ l.length
  | 0, n, l, l', t, hT, he, h => by simp [progV] at h
  | f + 1, n, l, l', t, hT, he, h => by
    rw [progV] at h
    split at h
    · obtain ⟨rfl, rfl⟩ := ok_eq h
      exact ⟨[], rfl, fun F hF => by simp at hF, by have := he.pos; simpa [pcL, tks] using this⟩
    split at h
    · cases h
    · obtain ⟨x, l1, h1, h⟩ := bnd_ok h
      obtain ⟨e1, _⟩ := fn_tail h1 he
      obtain ⟨T1, F, rfl, gF, q1⟩ := fn_re hT h1
      obtain ⟨g, l2, h2, h⟩ := bnd_ok h
      obtain ⟨L, rfl, gL, q2⟩ := prog_re f (n + 1) T1 e1 h2
      obtain ⟨rfl, rfl⟩ := ok_eq h
      refine ⟨F :: L, rfl, fun G hG => ?_, ?_⟩
      · rcases List.mem_cons.1 hG with rfl | hG
        · exact gF
        · exact gL G hG
      · show (tks (pcF F ++ pcL L)).length + 1 ≤ _
        rw [tks_app, List.length_append]
        omega
/-- A text's tokens are such tokens. -/
theorem one_tk {rest : By} {k : Nat} {t : By} (h : oneTok rest = some (k, t)) : (k = 0 → t.length ≤ 12 → Nam t) ∧ (k = 2 → Dig t) := by
  have tw : ∀ (set s : By), ∀ c ∈ runV s set, set.contains c = true := fun set s c hc => by
    unfold runV at hc
    have := List.all_takeWhile (p := fun x => set.contains x) (l := s)
    exact List.all_eq_true.1 this c hc
  unfold oneTok at h
  split at h
  · rename_i hd'
    injection h with h
    injection h with h1 h2
    subst h1
    subst h2
    exact ⟨fun e => by omega, fun _ => ⟨hd', tw digs rest⟩⟩
  · rename_i hd'
    split at h
    · rename_i ha
      injection h with h
      injection h with h1 h2
      subst h1
      subst h2
      refine ⟨fun e h12 => ⟨ha, tw alnum rest, ?_, ?_, h12⟩, fun e => ?_⟩
      · cases rest with
        | nil => exact absurd rfl ha
        | cons c r =>
          have hc : digs.contains c = false := by
            cases hcc : digs.contains c with
            | false => rfl
            | true =>
              refine absurd ?_ hd'
              unfold runV
              rw [List.takeWhile_cons, hcc, if_pos rfl]
              simp
          have hal : (runV (c :: r) (lets ++ digs)).headD 0 = c := by
            unfold runV at ha ⊢
            rw [List.takeWhile_cons] at ha ⊢
            split
            · rfl
            · rename_i hf
              rw [if_neg hf] at ha
              exact absurd rfl ha
          rw [hal]
          exact hc
      · cases hw : wordsL.contains (runV rest (lets ++ digs)) with
        | false => rfl
        | true => rw [if_pos hw] at e; cases e
      · split at e <;> cases e
    · obtain ⟨m, hm, he⟩ := Option.map_eq_some_iff.1 h
      injection he with h1 h2
      exact ⟨fun e => by omega, fun e => by omega⟩
theorem cut_tk (n : Nat) : ∀ (f : Nat) (rest : By) (l r : List Tok), TkOk l → cutV n f rest l = .ok r → TkOk r
  | 0, rest, l, r, hT, h => by
    rw [cutV] at h
    injection h with h
    subst h
    exact hT
  | f + 1, rest, l, r, hT, h => by
    rw [cutV] at h
    split at h
    · injection h with h
      subst h
      intro x hx
      rcases List.mem_append.1 hx with hx | hx
      · exact hT x hx
      · rw [List.mem_singleton] at hx
        subst hx
        exact ⟨fun e => (by cases e), fun e => (by cases e), fun _ => rfl⟩
    · split at h
      · cases h
      · rename_i k t ho
        split at h
        · cases h
        · refine cut_tk n f _ _ r (fun x hx => ?_) h
          rcases List.mem_append.1 hx with hx | hx
          · exact hT x hx
          · rw [List.mem_singleton] at hx
            subst hx
            have := one_tk ho
            have hk := one_kind ho
            exact ⟨this.1, this.2, fun e => by have e' : k = 3 := e; omega⟩
theorem tok_tk {s : By} {r : List Tok} (h : tokV s = .ok r) : TkOk r := cut_tk _ _ _ [] r (fun x hx => by simp at hx) h
theorem pcL_len : ∀ L : List Fun, L.length ≤ (tks (pcL L)).length
  | [] => by simp
  | F :: L => by
    have ih := pcL_len L
    show _ ≤ (tks (pcF F ++ pcL L)).length
    rw [tks_app, List.length_append, tf_eq]
    simp only [List.length_cons]
    omega
/-- What is written, with whatever blanks, is read as it was. -/
theorem back_plain {s : By} (hs : s.length ≤ 1000000) {L : List Fun} (h : parseV s = .ok (chain (L.map Fun.tr))) {fl : Nat → UInt8 → By} (hf : FlOk fl) (hz : (txtF fl 0 (pcL L)).length ≤ 1000000) :
    ∃ L' : List Fun, parseV (txtF fl 0 (pcL L)) = .ok (chain (L'.map Fun.tr)) ∧ (∀ F ∈ L', GoodF F) ∧ prT L' = prT L ∧ L'.length = L.length := by
  obtain ⟨l, c, t1, p1⟩ := parse_parts h
  obtain ⟨e1, e2⟩ := tok_ends t1 hs
  obtain ⟨L0, q0, gL, q1⟩ := prog_re _ 0 (tok_tk t1) e1 p1
  have := trs_inj q0
  subst this
  obtain ⟨L1, z1, z2, z3, z4⟩ := parse_good hs h
  have := trs_inj z1
  subst this
  have fc := rl_fc L gL
  obtain ⟨r, r1, r2⟩ := tok_pcs hf (pcL L) fc.ok (fc.sep 32) (by omega)
  have hx := prog_x L gL (r.length + 1) 0 (by
    have : r.length = (tks (pcL L)).length + 1 := by
      have := congrArg List.length r2
      simpa using this
    have hle := pcL_len L
    omega) (by omega)
  have hpl : pl r = tks (pcL L) ++ [nu0] := r2
  have hnat : eR er (progV (r.length + 1) 0 r) = .ok (chain ((L.map erF).map Fun.tr), [nu0]) := by rw [← e_prog, hpl, hx]
  obtain ⟨t', c', h3, h4⟩ : ∃ t' c', progV (r.length + 1) 0 r = .ok (t', c') ∧ er t' = chain ((L.map erF).map Fun.tr) := by
    cases hp : progV (r.length + 1) 0 r with
    | error x =>
      rw [hp] at hnat
      cases x
      cases hnat
    | ok x =>
      rw [hp] at hnat
      obtain ⟨t', c'⟩ := x
      injection hnat with hnat
      injection hnat with hnat _
      exact ⟨t', c', rfl, hnat⟩
  have hp : parseV (txtF fl 0 (pcL L)) = .ok t' := by
    unfold parseV
    rw [r1]
    show (match progV (r.length + 1) 0 r with | .error e => _ | .ok (t, _) => _) = _
    rw [h3]
  obtain ⟨L', y1, y2, y3, y4⟩ := parse_good hz hp
  subst y1
  rw [er_trs] at h4
  have h5 := trs_inj h4
  refine ⟨L', hp, y2, ?_, ?_⟩
  · rw [← er_prT L' y2, h5, er_prT _ z2]
  · have := congrArg List.length h5
    simpa using this
end Go.Proofs.YtpakgaegckkmnaaGreatDoor

namespace Go.Proofs.YtpakgaegckkmnaaGreatDoor
set_option linter.unusedVariables false
set_option linter.unusedSimpArgs false
open Go Go.RowKit

theorem read_fc {s : By} (hs : s.length ≤ 1000000) {L : List Fun} (h : parseV s = .ok (chain (L.map Fun.tr))) : Fc (pcL L) (prT L) := by
  obtain ⟨l, c, t1, p1⟩ := parse_parts h
  obtain ⟨e1, e2⟩ := tok_ends t1 hs
  obtain ⟨L0, q0, gL, q1⟩ := prog_re _ 0 (tok_tk t1) e1 p1
  have := trs_inj q0
  subst this
  exact rl_fc L gL
theorem back_own {s : By} (hs : s.length ≤ 1000000) {L : List Fun} (h : parseV s = .ok (chain (L.map Fun.tr))) :
    ∃ L' : List Fun, parseV (prT L) = .ok (chain (L'.map Fun.tr)) ∧ (∀ F ∈ L', GoodF F) ∧ prT L' = prT L ∧ L'.length = L.length := by
  have fc := read_fc hs h
  obtain ⟨L1, z1, z2, z3, z4⟩ := parse_good hs h
  have := trs_inj z1
  subst this
  have e : txtF ownFl 0 (pcL L) = prT L := by rw [own_txt _ _ fc.ok, fc.tx]
  have := back_plain hs h own_ok (by rw [e]; omega)
  rw [e] at this
  exact this

set_option maxRecDepth 100000 in
set_option maxHeartbeats 4000000 in
theorem back_any (w : World) (he : EnvW 11 w) (s : ByteArray) :
    Calls Tryz.prog 3 #[.string s] w fun e w' => e = .returned (.bool true) ∧ Below w.heap.size w w' := by
  by_cases h1 : 1500 < s.size
  · have h1' : (1500 : Int) < s.size := by omega
    go_enter Tryz.func3, Tryz.ntmps3
    go_wp2
    go_ret
    exact ⟨rfl, Below.refl _ _⟩
  have h1' : ¬ (1500 : Int) < s.size := by omega
  have HD : Hid (Calls Tryz.prog 7 #[] w fun e w' => e = .returned (.bool true) ∧ Below w.heap.size w w') := parsed_any w he
  have HE : Hid (∀ w', Below w.heap.size w w' → EnvW 11 w') := fun w' hb => he.below hb
  have HZ : Hid (s.size ≤ 1000000 ∧ s.data.toList.length ≤ 1000000) := ⟨by omega, by rw [j_len]; omega⟩
  cases hs : parseV s.data.toList with
  | error x =>
    obtain ⟨k, p⟩ := x
    have HP1 : Hid (∀ w1, Below w.heap.size w w1 → Calls Tryz.prog 8 #[.string s] w1 fun e w' => ∃ a, e = .returned (.tuple #[.slice none 0 0, .iface 43 (.pointer (some ⟨a, 0, none⟩))]) ∧ w'.heap[a]? = some (.cells #[.int .i64 k, .int .i64 (p : Int)] 78) ∧ Below w1.heap.size w1 w') := fun w1 hb => parse_none (he.below hb).env HZ.out.1 hs
    clear he hs
    go_enter Tryz.func3, Tryz.ntmps3
    go_wp2_with (first | (go_at_call 7; refine HD.out.mono ?_; rintro e w1 ⟨rfl, hb⟩; have HB : Hid (Below w.heap.size w w1) := hb; clear hb) | (go_at_call 8; fail))
    refine (HP1.out _ HB.out).mono ?_
    rintro e w2 ⟨a, rfl, _, hb⟩
    have HB2 : Hid (Below w.heap.size w w2) := HB.out.trans (hb.mono HB.out.size)
    clear hb
    go_wp2
    go_ret
    exact ⟨rfl, HB2.out⟩
  | ok ta =>
    obtain ⟨La, rfl, ga, la, na⟩ := parse_good (by rw [j_len]; omega) hs
    obtain ⟨Lb, hp, gb, epr, elen⟩ := back_own HZ.out.2 hs
    have HP1 : Hid (∀ w1, Below w.heap.size w w1 → Calls Tryz.prog 8 #[.string s] w1 fun e w' => ∃ q c, e = .returned (.tuple #[.slice q La.length c, .nilIface]) ∧ Got w' (.slice q La.length c) La ∧ Below w1.heap.size w1 w') := fun w1 hb => parse_got (he.below hb).env HZ.out.1 hs
    have HQa : Hid (∀ w1 v, Below w.heap.size w w1 → Got w1 v La → Calls Tryz.prog 9 #[v] w1 fun e w' => e = .returned (.string ⟨(prT La).toArray⟩) ∧ Below w1.heap.size w1 w') := fun w1 v hb hg => print_got (he.below hb) hg ga la na
    obtain ⟨XA, hXA⟩ : ∃ X : ByteArray, X = ⟨(prT La).toArray⟩ := ⟨_, rfl⟩
    have HXl : XA.data.toList = prT La := by rw [hXA]
    have zA : XA.size ≤ 150100 := by rw [hXA, ← j_len]; exact la
    have HP2 : Hid (∀ w1, Below w.heap.size w w1 → Calls Tryz.prog 8 #[.string XA] w1 fun e w' => ∃ q c, e = .returned (.tuple #[.slice q Lb.length c, .nilIface]) ∧ Got w' (.slice q Lb.length c) Lb ∧ Below w1.heap.size w1 w') := fun w1 hb => parse_got (he.below hb).env (by omega) (by rw [HXl]; exact hp)
    have HQb : Hid (∀ w1 v, Below w.heap.size w w1 → Got w1 v Lb → Calls Tryz.prog 9 #[v] w1 fun e w' => e = .returned (.string XA) ∧ Below w1.heap.size w1 w') := fun w1 v hb hg => by
      have := print_got (he.below hb) hg gb (by rw [epr]; exact la) (by omega)
      rw [epr, ← hXA] at this
      exact this
    rw [← hXA] at HQa
    rw [elen] at HP2
    obtain ⟨A, hA⟩ : ∃ A, A = La.length := ⟨_, rfl⟩
    rw [← hA] at HP1 HP2
    clear he hs ga la na gb epr elen hp hXA HXl hA
    go_enter Tryz.func3, Tryz.ntmps3
    go_wp2_with (first | (go_at_call 7; refine HD.out.mono ?_; rintro e w1 ⟨rfl, hb⟩; have HB : Hid (Below w.heap.size w w1) := hb; clear hb) | (go_at_call 8; fail))
    refine (HP1.out _ HB.out).mono ?_
    rintro e w2 ⟨q, c1, rfl, hg, hb⟩
    have HB2 : Hid (Below w.heap.size w w2) := HB.out.trans (hb.mono HB.out.size)
    have HGa : Hid (Got w2 (.slice q A c1) La) := hg
    clear hb hg
    go_wp2_with (go_at_call 9; fail)
    refine (HQa.out _ _ HB2.out HGa.out).mono ?_
    rintro e w3 ⟨rfl, hb⟩
    have HB3 : Hid (Below w.heap.size w w3) := HB2.out.trans (hb.mono HB2.out.size)
    clear hb
    go_wp2_with (go_at_call 8; fail)
    refine (HP2.out _ HB3.out).mono ?_
    rintro e w4 ⟨q4, c4, rfl, hg, hb⟩
    have HB4 : Hid (Below w.heap.size w w4) := HB3.out.trans (hb.mono HB3.out.size)
    have HGb : Hid (Got w4 (.slice q4 A c4) Lb) := hg
    clear hb hg
    go_wp2_with (go_at_call 9; fail)
    refine (HQb.out _ _ HB4.out HGb.out).mono ?_
    rintro e w5 ⟨rfl, hb⟩
    have HB5 : Hid (Below w.heap.size w w5) := HB4.out.trans (hb.mono HB4.out.size)
    clear hb
    go_wp2
    go_ret
    exact ⟨rfl, HB5.out⟩
end Go.Proofs.YtpakgaegckkmnaaGreatDoor

namespace Go.Proofs.YtpakgaegckkmnaaGreatDoor
set_option linter.unusedVariables false
set_option linter.unusedSimpArgs false
open Go Go.RowKit

/-- A text with other blanks in their places, byte by byte; how many blanks. -/
def outB (fl : Nat → UInt8 → By) : Nat → By → By
  | _, [] => []
  | n, c :: s => if c = 32 ∨ c = 10 then fl n c ++ outB fl (n + 1) s else c :: outB fl n s
def nb : By → Nat
  | [] => 0
  | c :: s => if c = 32 ∨ c = 10 then nb s + 1 else nb s
theorem outB_app (fl : Nat → UInt8 → By) : ∀ (a b : By) (n : Nat), outB fl n (a ++ b) = outB fl n a ++ outB fl (n + nb a) b
  | [], b, n => rfl
  | c :: a, b, n => by
    rw [List.cons_append, outB, outB, nb]
    split
    · rw [outB_app fl a b, List.append_assoc, show n + 1 + nb a = n + (nb a + 1) by omega]
    · rw [outB_app fl a b]
      rfl
theorem nb_app : ∀ a b : By, nb (a ++ b) = nb a + nb b
  | [], b => by simp [nb]
  | c :: a, b => by
    rw [List.cons_append, nb, nb, nb_app a b]
    split <;> omega
theorem outB_none (fl : Nat → UInt8 → By) : ∀ (w : By) (n : Nat), (∀ c ∈ w, ¬ (c = 32 ∨ c = 10)) → outB fl n w = w ∧ nb w = 0
  | [], n, _ => ⟨rfl, rfl⟩
  | c :: w, n, h => by
    obtain ⟨a, b⟩ := outB_none fl w n (fun x hx => h x (by simp [hx]))
    rw [outB, nb, if_neg (h c (by simp)), if_neg (h c (by simp)), a, b]
    exact ⟨rfl, rfl⟩
theorem al_nb : ∀ c : UInt8, alnum.contains c = true → ¬ (c = 32 ∨ c = 10) := fun c h e => (al_skip c h).1 (by rcases e with e | e <;> simp [e])
theorem pc_nb {p : Pc} (h : PcOk p) (h9 : p.k ≠ 9) : ∀ c ∈ p.w, ¬ (c = 32 ∨ c = 10) := by
  rcases h with ⟨h1, _⟩ | ⟨h1, h2⟩ | ⟨h1, h2⟩ | ⟨h1, h2⟩ | ⟨h1, h2⟩
  · exact absurd h1 h9
  · exact fun c hc => al_nb c (h2.2.1 c hc)
  · exact fun c hc => al_nb c (dig_alnum h2 c hc)
  · exact fun c hc => al_nb c ((words_al _ h2).2.1 c hc)
  · have : ∀ w ∈ marksL, ∀ c ∈ w, ¬ (c = 32 ∨ c = 10) := by decide
    exact this _ h2
theorem out_pcs (fl : Nat → UInt8 → By) : ∀ (q : List Pc) (n : Nat), (∀ x ∈ q, PcOk x) → txtF fl n q = outB fl n (txt q)
  | [], n, _ => rfl
  | p :: q, n, h => by
    have hp := h p (by simp)
    have ih := fun m => out_pcs fl q m (fun x hx => h x (by simp [hx]))
    rw [txtF, txt_cons]
    split
    · rename_i h9
      rcases hp with ⟨_, e | e⟩ | ⟨h1, _⟩ | ⟨h1, _⟩ | ⟨h1, _⟩ | ⟨h1, _⟩
      · rw [e, ih]
        show fl n 32 ++ _ = outB fl n (32 :: txt q)
        rw [outB, if_pos (.inl rfl)]
      · rw [e, ih]
        show fl n 10 ++ _ = outB fl n (10 :: txt q)
        rw [outB, if_pos (.inr rfl)]
      all_goals omega
    · rename_i h9
      obtain ⟨a, b⟩ := outB_none fl p.w n (pc_nb hp h9)
      rw [outB_app, a, b, ih]
      rfl
/-- How much of a text pieces may be. -/
def wt : List Pc → Nat
  | [] => 0
  | p :: q => (if p.k = 9 then 15 else p.w.length) + wt q
theorem wt_app : ∀ a b : List Pc, wt (a ++ b) = wt a + wt b
  | [], b => by simp [wt]
  | p :: a, b => by rw [List.cons_append, wt, wt, wt_app a b]; omega
theorem wt_len {fl : Nat → UInt8 → By} (hl : ∀ n c, (fl n c).length ≤ 15) : ∀ (q : List Pc) (n : Nat), (txtF fl n q).length ≤ wt q
  | [], n => Nat.le_refl _
  | p :: q, n => by
    have ih := fun m => wt_len hl q m
    rw [txtF, wt]
    split
    · have := hl n (p.w.headD 32)
      have := ih (n + 1)
      rw [List.length_append]
      omega
    · have := ih n
      rw [List.length_append]
      omega
theorem wt_fx (x : By) (q : List Pc) : wt (fx x :: q) = x.length + wt q := by rw [wt, if_neg (by show ¬ (1 : Nat) = 9; decide)]
theorem wt_bl (c : UInt8) (q : List Pc) : wt (bl c :: q) = 15 + wt q := by rw [wt, if_pos rfl]
theorem wt_nm (x : By) (q : List Pc) : wt (⟨0, x⟩ :: q) = x.length + wt q := by rw [wt, if_neg (by show ¬ (0 : Nat) = 9; decide)]
theorem wt_nu (x : By) (q : List Pc) : wt (⟨2, x⟩ :: q) = x.length + wt q := by rw [wt, if_neg (by show ¬ (2 : Nat) = 9; decide)]
theorem wt_nil : wt [] = 0 := rfl
theorem wt_sp : ∀ (n : Nat) (q : List Pc), wt (sp n ++ q) = 15 * n + wt q
  | 0, q => by simp [sp]
  | n + 1, q => by
    show wt (bl 32 :: (sp n ++ q)) = _
    rw [wt_bl, wt_sp n q]
    omega
theorem wt_h (t : Tr) (k : Nat) (h : wt (pcE t) ≤ 100 * (te t).length) : wt (hpc t k (pcE t)) ≤ 100 * (hk t k).length := by
  rw [hk_eq]
  unfold hpc
  split
  · exact h
  · rw [wt_fx, wt_app, wt_fx, wt_nil]
    simp only [List.length_cons, List.length_append, List.length_nil]
    omega
theorem wt_args : ∀ xs : List Tr, (∀ x ∈ xs, wt (pcE x) ≤ 100 * (te x).length) → wt (pcE (chain xs)) ≤ 100 * (te (chain xs)).length
  | [], _ => by rw [show chain [] = ce from rfl, pc_ce]; exact Nat.zero_le _
  | [x], h => by
    have e1 : pcE (chain [x]) = pcE x := by rw [show chain [x] = cc x ce from rfl, pc_cc, pc_ce]; simp [sepc]
    unfold te
    rw [e1]
    exact h x (by simp)
  | x :: y :: xs, h => by
    have ih := wt_args (y :: xs) (fun z hz => h z (by simp [hz]))
    have e1 : pcE (chain (x :: y :: xs)) = pcE x ++ (fx [44] :: bl 32 :: pcE (chain (y :: xs))) := by rw [show chain (x :: y :: xs) = cc x (chain (y :: xs)) from rfl, pc_cc]; rfl
    have := h x (by simp)
    rw [te_chain2, e1, wt_app, wt_fx, wt_bl]
    simp only [List.length_cons, List.length_append, List.length_nil]
    omega
theorem near_len {m : By} (h : 1 ≤ nearV m) : m.length ≤ 2 := near_short h
theorem wt_re : ∀ (f d : Nat) (t : Tr), RE f d t → wt (pcE t) ≤ 100 * (te t).length
  | 0, _, _, h => h.elim
  | f + 1, d, t, h => by
    rw [RE] at h
    rcases h.2 with ⟨a, n, h0, h1, rfl⟩ | ⟨a, nm, hn, rfl⟩ | ⟨a, op, l, r, h1, h2, h3, rfl⟩ | ⟨a, op, l, h1, h2, rfl⟩ | ⟨a, nm, xs, h1, h2, rfl⟩ | ⟨a, l, h2, rfl⟩ | ⟨a, l, h2, rfl⟩ | ⟨a, l, r, h2, h3, rfl⟩ | ⟨a, rfl⟩
    · have := Lib.itoa_length_le n (by omega) (by omega)
      unfold te
      rw [pc_1, wt_nu, wt_nil, tks_nu, tks_nil]
      simp only [List.length_cons, List.length_nil]
      omega
    · have := hn.2.2.2.2
      unfold te
      rw [pc_2, wt_nm, wt_nil, tks_nm, tks_nil]
      simp only [List.length_cons, List.length_nil]
      omega
    · have a1 := wt_h l (nearV op) (wt_re f _ l h2)
      have a2 := wt_h r (nearV op + 1) (wt_re f _ r h3)
      have a3 := near_len h1
      rw [te_3, pc_3, wt_app]
      show _ + wt (bl 32 :: fx op :: bl 32 :: hpc r (nearV op + 1) (pcE r)) ≤ _
      rw [wt_bl, wt_fx, wt_bl]
      omega
    · have a1 := wt_h l 7 (wt_re f _ l h2)
      have e : (te (nd 4 a 0 [] op l .nil ce)).length = (hk l 7).length + 1 := by
        unfold te hk
        rw [pc_4, tks_fx]
        simp
      have e2 : op.length = 1 := by rcases h1 with rfl | rfl <;> rfl
      rw [e, pc_4, wt_fx]
      omega
    · have a1 := wt_args xs (fun x hx => wt_re f _ x (h2 x hx))
      have := h1.2.2.2.2
      have e : (te (nd 5 a 0 nm [] .nil .nil (chain xs))).length = (te (chain xs)).length + 3 := by
        unfold te
        rw [pc_5, tks_nm, tks_fx, tks_app, tks_fx, tks_nil]
        simp
      rw [e, pc_5, wt_nm, wt_fx, wt_app, wt_fx, wt_nil]
      simp only [List.length_cons, List.length_nil]
      omega
    · have a1 := wt_re f _ l h2
      have e : (te (nd 6 a 0 [] [] l .nil ce)).length = (te l).length + 3 := by
        unfold te
        rw [pc_6, tks_fx, tks_fx, tks_app, tks_fx, tks_nil]
        simp
      rw [e, pc_6, wt_fx, wt_fx, wt_app, wt_fx, wt_nil]
      simp only [List.length_cons, List.length_nil]
      omega
    · have a1 := wt_re f _ l h2
      have e : (te (nd 7 a 0 [] [] l .nil ce)).length = (te l).length + 3 := by
        unfold te
        rw [pc_7, tks_fx, tks_fx, tks_app, tks_fx, tks_nil]
        simp
      rw [e, pc_7, wt_fx, wt_fx, wt_app, wt_fx, wt_nil]
      simp only [List.length_cons, List.length_nil]
      omega
    · have a1 := wt_h l 8 (wt_re f _ l h2)
      have a2 := wt_re f _ r h3
      rw [te_8, pc_8, wt_app, wt_fx, wt_app, wt_fx, wt_nil]
      simp only [List.length_cons, List.length_nil]
      omega
    · unfold te
      rw [pc_9, tks_fx, tks_fx, tks_fx, tks_nil, wt_fx, wt_fx, wt_fx, wt_nil]
      simp
theorem wt_rex {d : Nat} {t : Tr} (h : REx d t) : wt (pcE t) ≤ 100 * (te t).length := by
  obtain ⟨e, h⟩ := h
  exact wt_re e d t h
theorem wt_block {n : Nat} {g : Tr} (hn : n ≤ 26) (h : wt (pcS n g) ≤ 500 * (ts n g).length) : wt (pcB n g) ≤ 500 * ((ts n g).length + 1) := by
  unfold pcB
  show wt (bl 32 :: fx [123] :: bl 10 :: (pcS n g ++ (sp n ++ [fx [125]]))) ≤ _
  rw [wt_bl, wt_fx, wt_bl, wt_app, wt_sp, wt_fx, wt_nil]
  simp only [List.length_cons, List.length_nil]
  omega
theorem wt_sts {f d : Nat} (n : Nat) (hn : n + 2 ≤ 26) (ih : ∀ t, RS f d t → wt (pcM (n + 2) t) + 435 ≤ 500 * (tm (n + 2) t).length) : ∀ xs : List Tr, (∀ x ∈ xs, RS f d x) → wt (pcS n (chain xs)) ≤ 500 * (ts n (chain xs)).length
  | [], _ => by rw [show chain [] = ce from rfl, pcS_ce]; exact Nat.zero_le _
  | x :: xs, h => by
    have hx := h x (by simp)
    have a1 := ih x hx
    have a2 := wt_sts n hn ih xs (fun z hz => h z (by simp [hz]))
    obtain ⟨c, a, nm, ix, v, th, el, rfl⟩ := rs_st hx
    rw [show chain (st c a nm ix v th el :: xs) = cc (st c a nm ix v th el) (chain xs) from rfl, ts_cons, pcS_cons, wt_sp, wt_app]
    show _ + (_ + wt (bl 10 :: pcS n (chain xs))) ≤ _
    rw [wt_bl, List.length_append]
    omega
theorem wt_cond (v : Tr) (q : List Pc) : wt (condP v ++ q) = wt (pcE v) + 2 + wt q := by
  unfold condP
  rw [wt_app, wt_fx, wt_app, wt_fx, wt_nil]
  simp only [List.length_cons, List.length_nil]
  omega
set_option maxHeartbeats 1000000 in
theorem wt_rs : ∀ (f d : Nat) (t : Tr), RS f d t → d ≤ 13 → wt (pcM (2 * d) t) + 435 ≤ 500 * (tm (2 * d) t).length
  | 0, _, _, h, _ => h.elim
  | f + 1, d, t, h, hd => by
    have ih : d ≤ 12 → ∀ xs : List Tr, (∀ x ∈ xs, RS f (d + 1) x) → wt (pcB (2 * d) (chain xs)) ≤ 500 * ((ts (2 * d) (chain xs)).length + 1) := fun h12 xs hx => wt_block (by omega) (wt_sts (2 * d) (by omega) (fun t ht => by
      have := wt_rs f (d + 1) t ht (by omega)
      rw [show 2 * d + 2 = 2 * (d + 1) by omega]
      exact this) xs hx)
    rw [RS] at h
    rcases h with ⟨a, nm, v, hn, hv, rfl⟩ | ⟨a, nm, v, hn, hv, rfl⟩ | ⟨a, nm, i, v, hn, hi, hv, rfl⟩ | ⟨a, v, xs, ys, h1, hv, h3, h4, rfl⟩ | ⟨a, v, xs, h1, hv, h3, rfl⟩ | ⟨a, v, hv, rfl⟩ | ⟨a, v, hv, rfl⟩ | ⟨a, b, nm, xs, hn, ⟨e, hx⟩, rfl⟩
    · have a1 := wt_rex hv
      have a2 := hn.2.2.2.2
      rw [tm_1, pcM_o _ _ _ _ _ _ _ _ (by decide) (by decide), show headP 1 nm .nil = [fx [118, 97, 114], bl 32, ⟨0, nm⟩, bl 32, fx [61], bl 32] by simp [headP], wt_app, wt_fx, wt_bl, wt_nm, wt_bl, wt_fx, wt_bl, wt_nil, wt_app, wt_fx, wt_nil]
      simp only [List.length_cons, List.length_append, List.length_nil]
      omega
    · have a1 := wt_rex hv
      have a2 := hn.2.2.2.2
      rw [tm_2, pcM_o _ _ _ _ _ _ _ _ (by decide) (by decide), show headP 2 nm .nil = [⟨0, nm⟩, bl 32, fx [61], bl 32] by simp [headP], wt_app, wt_nm, wt_bl, wt_fx, wt_bl, wt_nil, wt_app, wt_fx, wt_nil]
      simp only [List.length_cons, List.length_append, List.length_nil]
      omega
    · have a1 := wt_rex hv
      have a3 := wt_rex hi
      have a2 := hn.2.2.2.2
      rw [tm_3, pcM_o _ _ _ _ _ _ _ _ (by decide) (by decide), show headP 3 nm i = ⟨0, nm⟩ :: ((fx [91] :: (pcE i ++ [fx [93]])) ++ [bl 32, fx [61], bl 32]) by simp [headP], wt_app, wt_nm, wt_app, wt_fx, wt_app, wt_fx, wt_nil, wt_bl, wt_fx, wt_bl, wt_nil, wt_app, wt_fx, wt_nil]
      simp only [List.length_cons, List.length_append, List.length_nil]
      omega
    · have a1 := wt_rex hv
      have a2 := ih h1 xs h3
      have a3 := ih h1 ys h4
      rw [tm_4, pcM_4]
      show wt (fx [105, 102] :: bl 32 :: (condP v ++ (pcB (2 * d) (chain xs) ++ _))) + 435 ≤ _
      rw [wt_fx, wt_bl, wt_cond, wt_app]
      split
      · rw [wt_nil]
        simp only [List.length_cons, List.length_append, List.length_nil]
        omega
      · show 2 + (15 + (_ + 2 + (_ + wt (bl 32 :: fx [101, 108, 115, 101] :: pcB (2 * d) (chain ys))))) + 435 ≤ _
        rw [wt_bl, wt_fx]
        simp only [List.length_cons, List.length_append, List.length_nil]
        omega
    · have a1 := wt_rex hv
      have a2 := ih h1 xs h3
      rw [tm_5, pcM_5]
      show wt (fx [119, 104, 105, 108, 101] :: bl 32 :: (condP v ++ pcB (2 * d) (chain xs))) + 435 ≤ _
      rw [wt_fx, wt_bl, wt_cond]
      simp only [List.length_cons, List.length_append, List.length_nil]
      omega
    · have a1 := wt_rex hv
      rw [tm_6, pcM_o _ _ _ _ _ _ _ _ (by decide) (by decide), show headP 6 [] .nil = [fx [114, 101, 116, 117, 114, 110], bl 32] by simp [headP], wt_app, wt_fx, wt_bl, wt_nil, wt_app, wt_fx, wt_nil]
      simp only [List.length_cons, List.length_append, List.length_nil]
      omega
    · have a1 := wt_rex hv
      rw [tm_7, pcM_o _ _ _ _ _ _ _ _ (by decide) (by decide), show headP 7 [] .nil = [fx [112, 114, 105, 110, 116], bl 32] by simp [headP], wt_app, wt_fx, wt_bl, wt_nil, wt_app, wt_fx, wt_nil]
      simp only [List.length_cons, List.length_append, List.length_nil]
      omega
    · have a1 := wt_args xs (fun x hx' => wt_re e 1 x (hx x hx'))
      have a2 := hn.2.2.2.2
      rw [tm_8, pcM_o _ _ _ _ _ _ _ _ (by decide) (by decide), show headP 8 [] .nil = [] by simp [headP], pc_5, List.nil_append, wt_app, wt_nm, wt_fx, wt_app, wt_fx, wt_nil, wt_fx, wt_nil]
      simp only [List.length_cons, List.length_append, List.length_nil]
      omega
theorem wt_pars : ∀ xs : List (By × Int), (∀ x ∈ xs, PaOk x) → wt (pcP xs) ≤ 100 * (tks (pcP xs)).length
  | [], _ => Nat.zero_le _
  | [x], h => by
    have a := (h x (by simp)).1.2.2.2.2
    have e : tks (pcP [x]) = nt x.1 :: tk [58] :: tk (tyW x.2) :: [] := by
      have := ta_eq x []
      rw [List.append_nil] at this
      exact this
    have e2 : (tyW x.2).length = 3 := by unfold tyW; split <;> rfl
    rw [e]
    show wt (⟨0, x.1⟩ :: fx [58] :: bl 32 :: fx (tyW x.2) :: []) ≤ _
    rw [wt_nm, wt_fx, wt_bl, wt_fx, wt_nil]
    simp only [List.length_cons, List.length_nil]
    omega
  | x :: y :: xs, h => by
    have a := (h x (by simp)).1.2.2.2.2
    have ih := wt_pars (y :: xs) (fun z hz => h z (by simp [hz]))
    have e2 : (tyW x.2).length = 3 := by unfold tyW; split <;> rfl
    rw [pcP, ta_eq, tks_fx, tks_bl]
    show wt (⟨0, x.1⟩ :: fx [58] :: bl 32 :: fx (tyW x.2) :: fx [44] :: bl 32 :: pcP (y :: xs)) ≤ _
    rw [wt_nm, wt_fx, wt_bl, wt_fx, wt_fx, wt_bl]
    simp only [List.length_cons, List.length_nil]
    omega
theorem wt_rf {F : Fun} (h : RF F) : wt (pcF F) ≤ 500 * (tks (pcF F)).length := by
  obtain ⟨_, hn, hp, xs, e, hb, hx⟩ := h
  have a1 := hn.2.2.2.2
  have a2 := wt_pars F.ps hp
  have a3 : wt (pcB 0 (chain xs)) ≤ 500 * ((ts 0 (chain xs)).length + 1) := wt_block (by omega) (wt_sts 0 (by omega) (fun t ht => wt_rs e 1 t ht (by omega)) xs hx)
  rw [tf_eq, hb]
  unfold pcF
  rw [wt_fx, wt_bl, wt_nm, wt_app, wt_fx, wt_app, wt_fx, wt_nil, wt_app, wt_bl, wt_nil, hb]
  simp only [List.length_cons, List.length_append, List.length_nil]
  omega
theorem wt_rl : ∀ L : List Fun, (∀ F ∈ L, RF F) → wt (pcL L) ≤ 500 * (tks (pcL L)).length
  | [], _ => Nat.zero_le _
  | F :: L, h => by
    have a := wt_rf (h F (by simp))
    have ih := wt_rl L (fun G hG => h G (by simp [hG]))
    show wt (pcF F ++ pcL L) ≤ 500 * (tks (pcF F ++ pcL L)).length
    rw [wt_app, tks_app, List.length_append]
    omega
/-- What is written, with other blanks, is read as it was. -/
theorem blanks_plain {s : By} (hs : s.length ≤ 1000000) {L : List Fun} (h : parseV s = .ok (chain (L.map Fun.tr))) {fl : Nat → UInt8 → By} (hf : FlOk fl) (hl : ∀ n c, (fl n c).length ≤ 15) :
    (outB fl 0 (prT L)).length ≤ 1000000 ∧ ∃ L' : List Fun, parseV (outB fl 0 (prT L)) = .ok (chain (L'.map Fun.tr)) ∧ (∀ F ∈ L', GoodF F) ∧ prT L' = prT L ∧ L'.length = L.length := by
  have fc := read_fc hs h
  have e : txtF fl 0 (pcL L) = outB fl 0 (prT L) := by rw [out_pcs fl _ _ fc.ok, fc.tx]
  obtain ⟨l, c, t1, p1⟩ := parse_parts h
  obtain ⟨e1, e2⟩ := tok_ends t1 hs
  obtain ⟨L0, q0, gL, q1⟩ := prog_re _ 0 (tok_tk t1) e1 p1
  have := trs_inj q0
  subst this
  have hw := wt_rl L gL
  have hlen := wt_len hl (pcL L) 0
  have hz : (txtF fl 0 (pcL L)).length ≤ 1000000 := by omega
  have := back_plain hs h hf hz
  rw [e] at this hz
  exact ⟨hz, this⟩
end Go.Proofs.YtpakgaegckkmnaaGreatDoor

namespace Go.Proofs.YtpakgaegckkmnaaGreatDoor
set_option linter.unusedVariables false
set_option linter.unusedSimpArgs false
open Go Go.RowKit

/-- Which of some. -/
def pickV (a n : Int) : Int := a % 18446744073709551616 % n
theorem pick_gen (a n : Int) (w : World) (h0 : 0 < n) (h1 : n ≤ 1000000) :
    Calls Tryz.prog 10 #[.int .i64 a, .int .i64 n] w fun e w' => e = .returned (.int .i64 (pickV a n)) ∧ w' = w := by
  have hu : IntKind.u64.wrap a = a % 18446744073709551616 := IntKind.wrap_u64 a
  have hm0 : 0 ≤ a % 18446744073709551616 % n := Int.emod_nonneg _ (by omega)
  have hm1 : a % 18446744073709551616 % n < n := Int.emod_lt_of_pos _ h0
  have HP : Hid (pickV a n = a % 18446744073709551616 % n) := rfl
  have ha0 : 0 ≤ a % 18446744073709551616 := by omega
  generalize a % 18446744073709551616 = x at *
  go_enter Tryz.func10, Tryz.ntmps10
  go_wp2
  go_ret
  refine ⟨?_, rfl⟩
  rw [HP.out]
  rfl
theorem pick_bound (a n : Int) (h0 : 0 < n) : 0 ≤ pickV a n ∧ pickV a n < n := ⟨Int.emod_nonneg _ (by omega), Int.emod_lt_of_pos _ h0⟩
/-- What stands for a blank. -/
def fills : List By := [[32], [10], [9, 32], [32, 35, 32, 97, 32, 114, 101, 109, 97, 114, 107, 59, 32, 125, 10]]
def fillN (a : Int) : Nat := (pickV a 4).toNat
def flL (l : List Int) (n : Nat) (_ : UInt8) : By := fills.getD (fillN (l.getD (n % l.length) 0)) [32]
theorem fill_cases (k : Nat) : fills.getD k [32] = [32] ∨ fills.getD k [32] = [10] ∨ fills.getD k [32] = [9, 32] ∨ fills.getD k [32] = [32, 35, 32, 97, 32, 114, 101, 109, 97, 114, 107, 59, 32, 125, 10] := by
  match k with
  | 0 => exact .inl rfl
  | 1 => exact .inr (.inl rfl)
  | 2 => exact .inr (.inr (.inl rfl))
  | 3 => exact .inr (.inr (.inr rfl))
  | k + 4 => exact .inl rfl
theorem flL_ok (l : List Int) : FlOk (flL l) := fun n c _ => by
  unfold flL
  rcases fill_cases (fillN (l.getD (n % l.length) 0)) with e | e | e | e <;> rw [e]
  · exact ⟨⟨_, _, rfl, by simp⟩, fun R => by simp [skipS]⟩
  · exact ⟨⟨_, _, rfl, by simp⟩, fun R => by simp [skipS]⟩
  · exact ⟨⟨_, _, rfl, by simp⟩, fun R => by simp [skipS]⟩
  · exact ⟨⟨_, _, rfl, by simp⟩, fun R => by simp [skipS]⟩
theorem flL_len (l : List Int) (n : Nat) (c : UInt8) : (flL l n c).length ≤ 15 := by
  unfold flL
  rcases fill_cases (fillN (l.getD (n % l.length) 0)) with e | e | e | e <;> rw [e] <;> simp
/-- Numbers in a row. -/
def RdI (w : World) (q : Option Addr) (l : List Int) : Prop := l ≠ [] → ∃ g o, q = some ⟨g, o, none⟩ ∧ ∀ j, j < l.length → w.cell? ⟨g, o + j, none⟩ = some (.int .i64 (l.getD j 0))
theorem RdI.below {w w' : World} {q : Option Addr} {l : List Int} (h : RdI w q l) (hb : Below w.heap.size w w') : RdI w' q l := fun hn => by
  obtain ⟨g, o, e, hc⟩ := h hn
  exact ⟨g, o, e, fun j hj => (hb.cell (World.block_lt_of_cell? w _ (hc j hj))).trans (hc j hj)⟩

theorem und31 : Tryz.prog.underlying 31 = some (.array 4 9) := by kernel_rfl
theorem size9 (h : 9 < Tryz.prog.types.size) : (Tryz.prog.types[9]'h).size = 1 := by kernel_rfl
theorem ix0 (wx : World) : (Instr.index 31 (.agg #[.string ⟨#[32]⟩, .string ⟨#[10]⟩, .string ⟨#[9, 32]⟩, .string ⟨#[32, 35, 32, 97, 32, 114, 101, 109, 97, 114, 107, 59, 32, 125, 10]⟩]) (.int .i64 0)).run Tryz.prog wx = .ok (.string ⟨#[32]⟩) wx := by
  simp [Instr.index, run_underlying und31, asIntOf, go_sem, size9]
theorem ix1 (wx : World) : (Instr.index 31 (.agg #[.string ⟨#[32]⟩, .string ⟨#[10]⟩, .string ⟨#[9, 32]⟩, .string ⟨#[32, 35, 32, 97, 32, 114, 101, 109, 97, 114, 107, 59, 32, 125, 10]⟩]) (.int .i64 1)).run Tryz.prog wx = .ok (.string ⟨#[10]⟩) wx := by
  simp [Instr.index, run_underlying und31, asIntOf, go_sem, size9]
theorem ix2 (wx : World) : (Instr.index 31 (.agg #[.string ⟨#[32]⟩, .string ⟨#[10]⟩, .string ⟨#[9, 32]⟩, .string ⟨#[32, 35, 32, 97, 32, 114, 101, 109, 97, 114, 107, 59, 32, 125, 10]⟩]) (.int .i64 2)).run Tryz.prog wx = .ok (.string ⟨#[9, 32]⟩) wx := by
  simp [Instr.index, run_underlying und31, asIntOf, go_sem, size9]
theorem ix3 (wx : World) : (Instr.index 31 (.agg #[.string ⟨#[32]⟩, .string ⟨#[10]⟩, .string ⟨#[9, 32]⟩, .string ⟨#[32, 35, 32, 97, 32, 114, 101, 109, 97, 114, 107, 59, 32, 125, 10]⟩]) (.int .i64 3)).run Tryz.prog wx = .ok (.string ⟨#[32, 35, 32, 97, 32, 114, 101, 109, 97, 114, 107, 59, 32, 125, 10]⟩) wx := by
  simp [Instr.index, run_underlying und31, asIntOf, go_sem, size9]

set_option maxRecDepth 100000 in
set_option maxHeartbeats 4000000 in
theorem blanks_ok (w : World) (he : EnvW 11 w) (s : ByteArray) (q : Option Addr) (c : Nat) (l : List Int) (hl : RdI w q l) (h1 : s.size ≤ 1000) (h2 : l.length ≤ 40) (h0 : 0 < l.length) (La : List Fun) (hs : parseV s.data.toList = .ok (chain (La.map Fun.tr))) :
    Calls Tryz.prog 4 #[.string s, .slice q l.length c] w fun e w' => e = .returned (.bool true) ∧ Below w.heap.size w w' := by
  have h1' : ¬ (1000 : Int) < s.size := by omega
  have h2' : ¬ (40 : Int) < (l.length : Int) := by omega
  have HD : Hid (Calls Tryz.prog 7 #[] w fun e w' => e = .returned (.bool true) ∧ Below w.heap.size w w') := parsed_any w he
  have HE : Hid (∀ w', Below w.heap.size w w' → EnvW 11 w') := fun w' hb => he.below hb
  have HZ : Hid (s.size ≤ 1000000 ∧ s.data.toList.length ≤ 1000000) := ⟨by omega, by rw [j_len]; omega⟩
  obtain ⟨La', e', ga, la, na⟩ := parse_good (by rw [j_len]; omega) hs
  have := trs_inj e'
  subst this
  obtain ⟨hz, Lb, hp, gb, epr, elen⟩ := blanks_plain HZ.out.2 hs (flL_ok l) (flL_len l)
  have HP1 : Hid (∀ w1, Below w.heap.size w w1 → Calls Tryz.prog 8 #[.string s] w1 fun e w' => ∃ q c, e = .returned (.tuple #[.slice q La.length c, .nilIface]) ∧ Got w' (.slice q La.length c) La ∧ Below w1.heap.size w1 w') := fun w1 hb => parse_got (he.below hb).env HZ.out.1 hs
  have HQa : Hid (∀ w1 v, Below w.heap.size w w1 → Got w1 v La → Calls Tryz.prog 9 #[v] w1 fun e w' => e = .returned (.string ⟨(prT La).toArray⟩) ∧ Below w1.heap.size w1 w') := fun w1 v hb hg => print_got (he.below hb) hg ga la na
  obtain ⟨t, ht⟩ : ∃ X : ByteArray, X = ⟨(prT La).toArray⟩ := ⟨_, rfl⟩
  have HXl : Hid (t.data.toList = prT La) := by show _ = _; rw [ht]
  have zA : t.size ≤ 150100 := by rw [ht, ← j_len]; exact la
  have HP2 : Hid (∀ w1 (o : ByteArray), o.data.toList = outB (flL l) 0 t.data.toList → Below w.heap.size w w1 → Calls Tryz.prog 8 #[.string o] w1 fun e w' => ∃ q c, e = .returned (.tuple #[.slice q La.length c, .nilIface]) ∧ Got w' (.slice q La.length c) Lb ∧ Below w1.heap.size w1 w') := fun w1 o ho hb => by
    rw [HXl.out] at ho
    have := parse_got (s := o) (he.below hb).env (by rw [← j_len, ho]; exact hz) (by rw [ho]; exact hp)
    rw [elen] at this
    exact this
  have HQb : Hid (∀ w1 v, Below w.heap.size w w1 → Got w1 v Lb → Calls Tryz.prog 9 #[v] w1 fun e w' => e = .returned (.string t) ∧ Below w1.heap.size w1 w') := fun w1 v hb hg => by
    have := print_got (he.below hb) hg gb (by rw [epr]; exact la) (by omega)
    rw [epr, ← ht] at this
    exact this
  rw [← ht] at HQa
  obtain ⟨A, hA⟩ : ∃ A, A = La.length := ⟨_, rfl⟩
  rw [← hA] at HP1 HP2
  obtain ⟨m, hm⟩ : ∃ m, m = l.length := ⟨_, rfl⟩
  have HM : Hid (m = l.length) := hm
  have hne : l ≠ [] := fun e => by rw [e] at h0; simp at h0
  obtain ⟨g, o, rfl, hc0⟩ := hl hne
  have HC : Hid (∀ w', Below w.heap.size w w' → ∀ j, j < m → w'.cell? ⟨g, o + j, none⟩ = some (.int .i64 (l.getD j 0))) := fun w' hb j hj => by
    have := hc0 j (by omega)
    exact (hb.cell (World.block_lt_of_cell? w _ this)).trans this
  rw [← hm] at h2 h0 h2' ⊢
  have h0' : ¬ (m : Int) = 0 := by omega
  clear he hs ga la na gb epr elen hp ht hA hz e' hm hl hne hc0
  have hx0 := ix0
  have hx1 := ix1
  have hx2 := ix2
  have hx3 := ix3
  go_enter Tryz.func4, Tryz.ntmps4
  go_wp2_with (first | (go_at_call 7; refine HD.out.mono ?_; rintro e w1 ⟨rfl, hb⟩; have HB : Hid (Below w.heap.size w w1) := hb; clear hb) | (go_at_call 8; fail))
  refine (HP1.out _ HB.out).mono ?_
  rintro e w2 ⟨q1, c1, rfl, hg, hb⟩
  have HB2 : Hid (Below w.heap.size w w2) := HB.out.trans (hb.mono HB.out.size)
  have HGa : Hid (Got w2 (.slice q1 A c1) La) := hg
  clear hb hg
  go_wp2_with (go_at_call 9; fail)
  refine (HQa.out _ _ HB2.out HGa.out).mono ?_
  rintro e w3 ⟨rfl, hb⟩
  have HB3 : Hid (Below w.heap.size w w3) := HB2.out.trans (hb.mono HB2.out.size)
  clear hb
  go_wp2_with fail
  go_loopw [8, 9, 10] (fun ov nv iv wr => ∃ (j k : Nat) (O : ByteArray), j ≤ t.size ∧ k ≤ j ∧ iv = .int .i64 j ∧ nv = .int .i64 k ∧ ov = .string O ∧ O.size ≤ 15 * j ∧ Hid (O.data.toList = outB (flL l) 0 (t.data.toList.take j)) ∧ Hid (k = nb (t.data.toList.take j)) ∧ Hid (Below w.heap.size w wr)) (fun _ _ iv _ => t.size - (intOf iv).toNat)
  case atStart => exact ⟨0, 0, ⟨#[]⟩, by omega, by omega, rfl, rfl, rfl, by decide, by show _ = _; rfl, by show _ = _; rfl, HB3⟩
  case round =>
    obtain ⟨j, k, O, hj, hk, rfl, rfl, rfl, hO, HO, HN, HBr⟩ := hrel
    by_cases hlt : j < t.size
    · have htl : t.data.toList.length = t.size := by simp
      have hd : t.data.toList.take (j + 1) = t.data.toList.take j ++ [t[j]] := by
        rw [List.take_add_one, List.getElem?_eq_getElem (by omega)]
        rfl
      have HS : Hid (outB (flL l) 0 (t.data.toList.take (j + 1)) = O.data.toList ++ outB (flL l) k [t[j]] ∧ nb (t.data.toList.take (j + 1)) = k + nb [t[j]]) := by
        rw [hd, outB_app, nb_app, ← HO.out, ← HN.out, Nat.zero_add]
        exact ⟨rfl, rfl⟩
      clear hd htl
      by_cases hb : t[j] = 32 ∨ t[j] = 10
      · have hkm : k % m < m := Nat.mod_lt _ h0
        have hcell := HC.out wr HBr.out (k % m) hkm
        have HF : Hid (outB (flL l) k [t[j]] = fills.getD (fillN (l.getD (k % m) 0)) [32] ∧ nb [t[j]] = 1) := by
          have e1 : flL l k t[j] = fills.getD (fillN (l.getD (k % m) 0)) [32] := by unfold flL; rw [← HM.out]
          rw [outB, if_pos hb, outB, List.append_nil, e1, nb, if_pos hb, nb]
          exact ⟨rfl, rfl⟩
        generalize l.getD (k % m) 0 = a at *
        have hrem : ((k : Int).tmod (m : Int)) = ((k % m : Nat) : Int) := by rw [Int.tmod_eq_emod_of_nonneg (by omega)]; simp
        obtain ⟨r, hr⟩ : ∃ r, r = k % m := ⟨_, rfl⟩
        rw [← hr] at hkm hcell hrem
        clear hr
        have hpb := pick_bound a 4 (by omega)
        have hpc : pickV a 4 = 0 ∨ pickV a 4 = 1 ∨ pickV a 4 = 2 ∨ pickV a 4 = 3 := by omega
        have hp4 := pick_gen a 4 wr (by omega) (by omega)
        unfold fillN at HF
        clear hpb
        rcases hb with hb | hb
        · have e1 : (t[j].toNat : Int) = 32 := by rw [hb]; rfl
          clear hb
          rcases hpc with hp | hp | hp | hp
          all_goals
            rw [hp] at hp4 HF
            have HP4 : Hid (Calls Tryz.prog 10 #[.int .i64 a, .int .i64 4] wr fun e w' => e = .returned (.int .i64 _) ∧ w' = wr) := hp4
            clear hp hp4
            go_wp2_with (go_at_call 10; refine HP4.out.mono ?_; rintro e w9 ⟨rfl, rfl⟩)
            refine ⟨⟨j + 1, k + 1, _, by omega, by omega, by go_num, by go_num, rfl, ?_, ?_, ?_, HBr⟩, by simp [intOf]; omega⟩
            · rw [ByteArray.size_append]
              show _ + _ ≤ _
              first | (show _ + 1 ≤ _; omega) | (show _ + 2 ≤ _; omega) | (show _ + 15 ≤ _; omega)
            · show _ = _
              rw [HS.out.1, HF.out.1]
              simp [fills]
            · show _ = _
              rw [HS.out.2, HF.out.2]
        · have n1 : ((t[j].toNat : Int) == 32) = false := by rw [hb]; rfl
          have e1 : (t[j].toNat : Int) = 10 := by rw [hb]; rfl
          clear hb
          rcases hpc with hp | hp | hp | hp
          all_goals
            rw [hp] at hp4 HF
            have HP4 : Hid (Calls Tryz.prog 10 #[.int .i64 a, .int .i64 4] wr fun e w' => e = .returned (.int .i64 _) ∧ w' = wr) := hp4
            clear hp hp4
            go_wp2_with (go_at_call 10; refine HP4.out.mono ?_; rintro e w9 ⟨rfl, rfl⟩)
            refine ⟨⟨j + 1, k + 1, _, by omega, by omega, by go_num, by go_num, rfl, ?_, ?_, ?_, HBr⟩, by simp [intOf]; omega⟩
            · rw [ByteArray.size_append]
              show _ + _ ≤ _
              first | (show _ + 1 ≤ _; omega) | (show _ + 2 ≤ _; omega) | (show _ + 15 ≤ _; omega)
            · show _ = _
              rw [HS.out.1, HF.out.1]
              simp [fills]
            · show _ = _
              rw [HS.out.2, HF.out.2]
      · have HF : Hid (outB (flL l) k [t[j]] = [t[j]] ∧ nb [t[j]] = 0) := by
          rw [outB, if_neg hb, nb, if_neg hb]
          exact ⟨rfl, rfl⟩
        have hb1 : ¬ t[j] = 32 := fun e => hb (.inl e)
        have hb2 : ¬ t[j] = 10 := fun e => hb (.inr e)
        have n1 : ((t[j].toNat : Int) == 32) = false := by
          have : t[j].toNat ≠ 32 := fun e => hb1 (UInt8.toNat_inj.1 e)
          simp; omega
        have n2 : ((t[j].toNat : Int) == 10) = false := by
          have : t[j].toNat ≠ 10 := fun e => hb2 (UInt8.toNat_inj.1 e)
          simp; omega
        have hex : (t.extract j (j + 1)).data.toList = [t[j]] := by
          have hl1 : t.data.toList.length = t.size := by simp
          have : (t.extract j (j + 1)).data.toList = (t.data.toList.drop j).take 1 := by simp
          rw [this, List.drop_eq_getElem_cons (by omega), List.take_succ_cons, List.take_zero]
          rfl
        have HX : Hid ((t.extract j (j + 1)).data.toList = [t[j]] ∧ (t.extract j (j + 1)).size = 1) := ⟨hex, by rw [← j_len, hex]; rfl⟩
        have hsl : ∀ wx : World, (Instr.slice 9 (.string t) (some (.int .i64 (j : Int))) (some (.int .i64 ((j : Int) + 1))) none).run Tryz.prog wx = .ok (.string (t.extract j (j + 1))) wx := fun wx => by
          have := run_slice_string (P := Tryz.prog) wx 9 t .i64 .i64 (j : Int) ((j : Int) + 1) Tryz.underlying9 (by omega) (by omega) (by omega)
          simpa using this
        clear hb hb1 hb2 hex
        go_wp2
        refine ⟨⟨j + 1, k, _, by omega, by omega, by go_num, rfl, rfl, ?_, ?_, ?_, HBr⟩, by simp [intOf]; omega⟩
        · rw [ByteArray.size_append, HX.out.2]
          omega
        · show _ = _
          rw [HS.out.1, HF.out.1, ← HX.out.1]
          simp
        · show _ = _
          rw [HS.out.2, HF.out.2]
          rfl
    · obtain rfl : j = t.size := by omega
      have HOt : Hid (O.data.toList = outB (flL l) 0 t.data.toList) := by
        have := HO.out
        rw [List.take_of_length_le (by simp)] at this
        exact this
      clear HO HN hlt
      go_wp2_with (go_at_call 8; fail)
      refine (HP2.out wr O HOt.out HBr.out).mono ?_
      rintro e w4 ⟨q4, c4, rfl, hg, hb⟩
      have HB4 : Hid (Below w.heap.size w w4) := HBr.out.trans (hb.mono HBr.out.size)
      have HGb : Hid (Got w4 (.slice q4 A c4) Lb) := hg
      clear hb hg
      go_wp2_with (go_at_call 9; fail)
      refine (HQb.out _ _ HB4.out HGb.out).mono ?_
      rintro e w5 ⟨rfl, hb⟩
      have HB5 : Hid (Below w.heap.size w w5) := HB4.out.trans (hb.mono HB4.out.size)
      clear hb
      go_wp2
      go_ret
      exact ⟨rfl, HB5.out⟩
end Go.Proofs.YtpakgaegckkmnaaGreatDoor
