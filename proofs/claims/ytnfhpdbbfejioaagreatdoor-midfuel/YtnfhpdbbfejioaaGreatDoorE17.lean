/- XH RA GA GC GK CA VO CB CC -/
import Derived.Test.YtnfhpdbbfejioaaGreatDoorE16
import Derived.Deep.RegionHeld3
import Derived.Laws.EntriesVeiled
namespace Go.Proofs.YtnfhpdbbfejioaaGreatDoor
set_option linter.unusedVariables false
set_option linter.unusedSimpArgs false
set_option maxRecDepth 100000
set_option maxHeartbeats 16000000
open Go Go.RowKit
def tyW (n : Int) : By := if n = 2 then [97, 114, 114] else [105, 110, 116]
def pcA (x : By × Int) : List Pc := [⟨0, x.1⟩, fx [58], bl 32, fx (tyW x.2)]
def pcP : List (By × Int) → List Pc
 | [] => []
 | [x] => pcA x
 | x :: y :: xs => pcA x ++ (fx [44] :: bl 32 :: pcP (y :: xs))
def pcF (F : Fun) : List Pc := fx [102, 110] :: bl 32 :: ⟨0, F.nm⟩ :: ((fx [40] :: (pcP F.ps ++ [fx [41]])) ++ (pcB 0 F.body ++ [bl 10]))
def pcL (L : List Fun) : List Pc := L.flatMap pcF
def PaOk (x : By × Int) : Prop := Nam x.1 ∧ (x.2 = 1 ∨ x.2 = 2)
def RF (F : Fun) : Prop := F.kd = .i64 ∧ Nam F.nm ∧ (∀ x ∈ F.ps, PaOk x) ∧ ∃ xs e, F.body = chain xs ∧ ∀ x ∈ xs, RS e 1 x
theorem ta_eq (x : By × Int) (q : List Pc) : tks (pcA x ++ q) = nt x.1 :: tk [58] :: tk (tyW x.2) :: tks q := by
 show tks (⟨0, x.1⟩ :: fx [58] :: bl 32 :: fx (tyW x.2) :: q) = _
 rw [tks_nm, zn, zT, zn]
theorem tf_eq (F : Fun) : tks (pcF F) = tk [102, 110] :: nt F.nm :: tk [40] :: (tks (pcP F.ps) ++ (tk [41] :: tk [123] :: (ts 0 F.body ++ [tk [125]]))) := by
 unfold pcF
 rw [zn, zT, tks_nm, zx, zn, zx, zx, tb_eq, zn, zG, zT, zG]
 simp
theorem par_re {l l' : List Tok} {t : Tr} (hT : TkOk l) (h : parV l = .ok (t, l')) : TkOk l' ∧ ∃ x : By × Int, t = pr x.1 x.2 ∧ PaOk x ∧ 3 + l'.length = l.length := by
 unfold parV at h
 obtain ⟨nm, l1, h1, h⟩ := za h
 obtain ⟨hn, T1, s1⟩ := name_re hT h1
 obtain ⟨_, l2, h2, h⟩ := za h
 obtain ⟨T2, s2⟩ := qL T1 (by decide) h2
 split at h
 ·rename_i h3
  obtain ⟨T3, s3⟩ := tok_re T2 h3 (by decide)
  obtain ⟨rfl, rfl⟩ := zj h
  exact ⟨T3, (nm, 2), rfl, ⟨hn, .inr rfl⟩, by omega⟩
 ·obtain ⟨_, l3, h3, h⟩ := za h
  obtain ⟨T3, s3⟩ := qL T2 (by decide) h3
  obtain ⟨rfl, rfl⟩ := zj h
  exact ⟨T3, (nm, 1), rfl, ⟨hn, .inl rfl⟩, by omega⟩
theorem parl_re : ∀ (f : Nat) {l l' : List Tok} {t : Tr}, TkOk l → qW f l = .ok (t, l') → TkOk l' ∧ ∃ xs : List (By × Int), xs ≠ [] ∧ t = psT xs ∧ (∀ x ∈ xs, PaOk x) ∧ (tks (pcP xs)).length + 1 + l'.length ≤ l.length
 | 0, l, l', t, hT, h => by simp [qW] at h
 | f + 1, l, l', t, hT, h => by
  rw [qW] at h
  obtain ⟨x, l1, h1, h⟩ := za h
  obtain ⟨T1, p, rfl, q1, s1⟩ := par_re hT h1
  split at h
  ·rename_i h2
   obtain ⟨T2, s2⟩ := tok_re T1 h2 (by decide)
   obtain ⟨g, l3, h3, h⟩ := za h
   obtain ⟨T3, xs, hne, rfl, q2, q3⟩ := parl_re f T2 h3
   obtain ⟨rfl, rfl⟩ := zj h
   refine ⟨T3, p :: xs, by simp, rfl, fun z hz => ?_, ?_⟩
   ·rcases List.mem_cons.1 hz with rfl | hz
    ·exact q1
    ·exact q2 z hz
   ·cases xs with
    | nil => exact absurd rfl hne
    | cons y xs =>
     rw [pcP, ta_eq, zn, zT]
     simp only [List.length_cons]
     omega
  ·obtain ⟨_, l3, h3, h⟩ := za h
   obtain ⟨T3, s3⟩ := qL T1 (by decide) h3
   obtain ⟨rfl, rfl⟩ := zj h
   refine ⟨T3, [p], by simp, rfl, fun z hz => by rw [List.mem_singleton] at hz; rw [hz]; exact q1, ?_⟩
   have := ta_eq p []
   rw [List.append_nil] at this
   rw [pcP, this]
   simp only [List.length_cons, List.length_nil, zG]
   omega
theorem pars_re {l l' : List Tok} {t : Tr} (hT : TkOk l) (h : parsV l = .ok (t, l')) : TkOk l' ∧ ∃ xs : List (By × Int), t = psT xs ∧ (∀ x ∈ xs, PaOk x) ∧ (tks (pcP xs)).length + 1 + l'.length ≤ l.length := by
 unfold parsV at h
 split at h
 ·rename_i h2
  obtain ⟨T2, s2⟩ := tok_re hT h2 (by decide)
  obtain ⟨rfl, rfl⟩ := zj h
  exact ⟨T2, [], rfl, fun x hx => by simp at hx, by rw [pcP, zG]; simp; omega⟩
 ·obtain ⟨T, xs, _, a, b, c⟩ := parl_re _ hT h
  exact ⟨T, xs, a, b, c⟩
theorem fn_re {l l' : List Tok} {t : Tr} (hT : TkOk l) (h : fnV l = .ok (t, l')) : TkOk l' ∧ ∃ F : Fun, t = F.tr ∧ RF F ∧ (tks (pcF F)).length + l'.length ≤ l.length := by
 unfold fnV at h
 obtain ⟨_, l1, h1, h⟩ := za h
 obtain ⟨T1, s1⟩ := qL hT (by decide) h1
 obtain ⟨nm, l2, h2, h⟩ := za h
 obtain ⟨hn, T2, s2⟩ := name_re T1 h2
 obtain ⟨_, l3, h3, h⟩ := za h
 obtain ⟨T3, s3⟩ := qL T2 (by decide) h3
 obtain ⟨ps, l4, h4, h⟩ := za h
 obtain ⟨T4, xs, rfl, hp, s4⟩ := pars_re T3 h4
 obtain ⟨b, l5, h5, h⟩ := za h
 obtain ⟨T5, ys, rfl, ⟨e, hy⟩, _, s5⟩ : TkOk l5 ∧ ∃ ys, b = chain ys ∧ (∃ e, ∀ y ∈ ys, RS e (0 + 1) y) ∧ (0 = 0 → 0 ≤ 12) ∧ ∀ n, (ts n b).length + 2 + l5.length ≤ l4.length := st_re _ 0 0 l4 b l5 T4 h5
 obtain ⟨rfl, rfl⟩ := zj h
 refine ⟨T5, ⟨nm, .i64, (hd l).p, xs, chain ys⟩, rfl, ⟨rfl, hn, hp, ys, e, rfl, hy⟩, ?_⟩
 rw [tf_eq]
 have := s5 0
 simp only [List.length_cons, List.length_append, List.length_nil]
 omega
theorem prog_re : ∀ (f n : Nat) {l l' : List Tok} {t : Tr}, TkOk l → Ends l → qE f n l = .ok (t, l') → ∃ L : List Fun, t = chain (L.map Fun.tr) ∧ (∀ F ∈ L, RF F) ∧ (tks (pcL L)).length + 1 ≤ l.length
 | 0, n, l, l', t, hT, he, h => by simp [qE] at h
 | f + 1, n, l, l', t, hT, he, h => by
  rw [qE] at h
  split at h
  ·obtain ⟨rfl, rfl⟩ := zj h
   exact ⟨[], rfl, fun F hF => by simp at hF, by have := he.pos; simpa [pcL, tks] using this⟩
  split at h
  ·cases h
  ·obtain ⟨x, l1, h1, h⟩ := za h
   obtain ⟨e1, _⟩ := fn_tail h1 he
   obtain ⟨T1, F, rfl, gF, q1⟩ := fn_re hT h1
   obtain ⟨g, l2, h2, h⟩ := za h
   obtain ⟨L, rfl, gL, q2⟩ := prog_re f (n + 1) T1 e1 h2
   obtain ⟨rfl, rfl⟩ := zj h
   refine ⟨F :: L, rfl, fun G hG => ?_, ?_⟩
   ·rcases List.mem_cons.1 hG with rfl | hG
    ·exact gF
    ·exact gL G hG
   ·show (tks (pcF F ++ pcL L)).length + 1 ≤ _
    rw [zx, List.length_append]
    omega
theorem one_tk {rest : By} {k : Nat} {t : By} (h : oneTok rest = some (k, t)) : (k = 0 → t.length ≤ 12 → Nam t) ∧ (k = 2 → Dig t) := by
 have tw : ∀ (set s : By), ∀ c ∈ zL s set, set.contains c = true := fun set s c hc => by
  unfold zL at hc
  have := List.all_takeWhile (p := fun x => set.contains x) (l := s)
  exact List.all_eq_true.1 this c hc
 unfold oneTok at h
 split at h
 ·rename_i hd'
  injection h with h
  injection h with h1 h2
  subst h1
  subst h2
  exact ⟨fun e => by omega, fun _ => ⟨hd', tw digs rest⟩⟩
 ·rename_i hd'
  split at h
  ·rename_i ha
   injection h with h
   injection h with h1 h2
   subst h1
   subst h2
   refine ⟨fun e h12 => ⟨ha, tw alnum rest, ?_, ?_, h12⟩, fun e => ?_⟩
   ·cases rest with
    | nil => exact absurd rfl ha
    | cons c r =>
     have hc : digs.contains c = false := by
      cases hcc : digs.contains c with
      | false => rfl
      | true =>
       refine absurd ?_ hd'
       unfold zL
       rw [List.takeWhile_cons, hcc, if_pos rfl]
       simp
     have hal : (zL (c :: r) (lets ++ digs)).headD 0 = c := by
      unfold zL at ha ⊢
      rw [List.takeWhile_cons] at ha ⊢
      split
      ·rfl
      ·rename_i hf
       rw [if_neg hf] at ha
       exact absurd rfl ha
     rw [hal]
     exact hc
   ·cases hw : wordsL.contains (zL rest (lets ++ digs)) with
    | false => rfl
    | true => rw [if_pos hw] at e; cases e
   ·split at e <;> cases e
  ·obtain ⟨m, hm, he⟩ := Option.map_eq_some_iff.1 h
   injection he with h1 h2
   exact ⟨fun e => by omega, fun e => by omega⟩
theorem cut_tk (n : Nat) : ∀ (f : Nat) (rest : By) (l r : List Tok), TkOk l → cutV n f rest l = .ok r → TkOk r
 | 0, rest, l, r, hT, h => by
  rw [cutV] at h
  injection h with h
  subst h
  exact hT
 | f + 1, rest, l, r, hT, h => by
  rw [cutV] at h
  split at h
  ·injection h with h
   subst h
   intro x hx
   rcases List.mem_append.1 hx with hx | hx
   ·exact hT x hx
   ·rw [List.mem_singleton] at hx
    subst hx
    exact ⟨fun e => (by cases e), fun e => (by cases e), fun _ => rfl⟩
  ·split at h
   ·cases h
   ·rename_i k t ho
    split at h
    ·cases h
    ·refine cut_tk n f _ _ r (fun x hx => ?_) h
     rcases List.mem_append.1 hx with hx | hx
     ·exact hT x hx
     ·rw [List.mem_singleton] at hx
      subst hx
      have := one_tk ho
      have hk := one_kind ho
      exact ⟨this.1, this.2, fun e => by have e' : k = 3 := e; omega⟩
theorem tok_tk {s : By} {r : List Tok} (h : tokV s = .ok r) : TkOk r := cut_tk _ _ _ [] r (fun x hx => by simp at hx) h
structure Sg where
 fuel : Nat
 inp : List Int
 out : List Int
 hp : List (List Int)
abbrev Vl := Int × Option Nat
abbrev Own := List (By × Vl)
abbrev Go1 (α : Type) := Sg → Except (Int × List Int) (α × Sg)
def gp {α : Type} (a : α) : Go1 α := fun s => .ok (a, s)
def gt {α : Type} (w : Int) : Go1 α := fun s => .error (w, s.out)
def own1 (o : Own) (nm : By) : Vl := (o.lookup nm).getD (0, none)
abbrev ptr (b : Nat) : Value := .pointer (some ⟨b, 0, none⟩)
def NodeC (w : World) (bx : Nat) (c a n : Int) (nm op : By) : Prop := ∃ (b : Nat) (vl vr vg : Value), w.heap[bx]? = some (.cells #[ptr b] 145) ∧ w.heap[b]? = some (.cells #[.int .i64 c, .int .i64 a, .int .i64 n, str nm, str op, vl, vr, vg] 252)
def ClE (w : World) (P : Nat) : Tr → Value → Prop
 | .agg [.lit (.int _ c), .lit (.int _ a), .lit (.int _ n), .lit (.string nm), .lit (.string op), l, r, xs], v =>
  (c = 1 ∧ ∃ bx, v = .func (.func 200) #[] #[ptr bx] ∧ NodeC w bx c a n nm op) ∨
  (c = 2 ∧ ∃ bx, v = .func (.func 189) #[] #[ptr bx] ∧ NodeC w bx c a n nm op) ∨
  (c = 3 ∧ ∃ bx bl br vl vr, v = (if op = [38, 38] then .func (.func 222) #[] #[ptr bl, ptr br] else if op = [124, 124] then .func (.func 224) #[] #[ptr bl, ptr br] else .func (.func 225) #[] #[ptr bl, ptr bx, ptr br]) ∧ NodeC w bx c a n nm op ∧ w.heap[bl]? = some (.cells #[vl] 245) ∧ w.heap[br]? = some (.cells #[vr] 245) ∧ ClE w P l vl ∧ ClE w P r vr) ∨
  (c = 4 ∧ ∃ bl vl, v = (if op = [45] then .func (.func 227) #[] #[ptr bl] else .func (.func 228) #[] #[ptr bl]) ∧ w.heap[bl]? = some (.cells #[vl] 245) ∧ ClE w P l vl) ∨
  (c = 5 ∧ ∃ (bp bx ba g : Nat) (ys : List Value), v = .func (.func 229) #[] #[ptr bp, ptr bx, ptr ba] ∧ w.heap[bp]? = some (.cells #[ptr P] 57) ∧ NodeC w bx c a n nm op ∧ w.heap[ba]? = some (.cells #[.slice (some ⟨g, 0, none⟩) ys.length ys.length] 297) ∧ w.heap[g]? = some (.cells ys.toArray 245) ∧ ClE w P xs (.tuple ys.toArray)) ∨
  (c = 6 ∧ ∃ bl vl, v = .func (.func 193) #[] #[ptr bl] ∧ w.heap[bl]? = some (.cells #[vl] 245) ∧ ClE w P l vl) ∨
  (c = 7 ∧ ∃ bl vl, v = .func (.func 195) #[] #[ptr bl] ∧ w.heap[bl]? = some (.cells #[vl] 245) ∧ ClE w P l vl) ∨
  (c = 8 ∧ ∃ bl br vl vr, v = .func (.func 197) #[] #[ptr bl, ptr br] ∧ w.heap[bl]? = some (.cells #[vl] 245) ∧ w.heap[br]? = some (.cells #[vr] 245) ∧ ClE w P l vl ∧ ClE w P r vr) ∨
  (c = 9 ∧ ∃ bp, v = .func (.func 198) #[] #[ptr bp] ∧ w.heap[bp]? = some (.cells #[ptr P] 57))
 | .slice [x] [g], v => ∃ (y : Value) (ys : List Value), v = .tuple (y :: ys).toArray ∧ ClE w P x y ∧ ClE w P g (.tuple ys.toArray)
 | .slice [] [], v => v = .tuple #[]
 | _, _ => False
abbrev R0 : Obj := .cells #[.int .i64 0, .slice none 0 0] 248
abbrev X (α : Type) := Except (Int × Int) α
abbrev Nm := List (By × Int)
def bx {α β : Type} (x : X α) (f : α → X β) : X β :=
 match x with
 | .error e => .error e
 | .ok a => f a
theorem bx_ok {α β : Type} {x : X α} {f : α → X β} {r : β} (h : bx x f = .ok r) : ∃ a, x = .ok a ∧ f a = .ok r := by
 unfold bx at h
 split at h
 ·cases h
 ·exact ⟨_, rfl, h⟩
def placeE : Tr → Int
 | .agg [_, .lit (.int _ a), _, _, _, _, _, _] => a
 | _ => 0
def fndN (ns : Nm) (nm : By) : Option Int := (ns.find? (fun x => x.1 == nm)).map (·.2)
def isT (t k a : Int) : X Unit := if t = k then .ok () else .error (1, a)
def ck (lk : By → Option Nm) (ns : Nm) : Tr → Nm → X Int
 | .agg [.lit (.int _ c), .lit (.int _ a), .lit (.int _ _), .lit (.string nm), .lit (.string _), l, r, g], _ =>
  if c = 2 then (match fndN ns nm with | some k => .ok k | none => .error (7, a))
  else if c = 3 then bx (ck lk ns l []) fun t => bx (isT t 1 (placeE l)) fun _ => bx (ck lk ns r []) fun u => bx (isT u 1 (placeE r)) fun _ => .ok 1
  else if c = 4 then bx (ck lk ns l []) fun t => bx (isT t 1 (placeE l)) fun _ => .ok 1
  else if c = 5 then (match lk nm with | none => .error (7, a) | some ps => if chl g ≠ ps.length then .error (2, a) else bx (ck lk ns g ps) fun _ => .ok 1)
  else if c = 6 then bx (ck lk ns l []) fun t => bx (isT t 1 (placeE l)) fun _ => .ok 2
  else if c = 7 then bx (ck lk ns l []) fun t => bx (isT t 2 (placeE l)) fun _ => .ok 1
  else if c = 8 then bx (ck lk ns l []) fun t => bx (isT t 2 (placeE l)) fun _ => bx (ck lk ns r []) fun u => bx (isT u 1 (placeE r)) fun _ => .ok 1
  else .ok 1
 | .slice [x] [g], p :: ps => bx (ck lk ns x []) fun t => bx (isT t p.2 (placeE x)) fun _ => ck lk ns g ps
 | _, _ => .ok 0
def mu (lk : By → Option Nm) (ns : Nm) (x : Tr) (k : Int) : X Unit := bx (ck lk ns x []) fun t => isT t k (placeE x)
def addV (s : Nm × Nat) (v : By × Int) (a : Int) : X (Nm × Nat) := if (fndN s.1 v.1).isSome then .error (9, a) else if s.2 = 12 then .error (12, a) else .ok (s.1 ++ [v], s.2 + 1)
def cks (lk : By → Option Nm) : Tr → Nm × Nat → X (Nm × Nat)
 | .slice [.agg [.lit (.int _ c), .lit (.int _ a), .lit (.string nm), ix, v, th, el]] [g], s =>
  bx (if c = 1 then bx (ck lk s.1 v []) fun t => addV s (nm, t) a
    else if c = 2 then (match fndN s.1 nm with | none => .error (7, a) | some k => bx (mu lk s.1 v k) fun _ => .ok s)
    else if c = 3 then (match fndN s.1 nm with | none => .error (7, a) | some k => if k ≠ 2 then .error (1, a) else bx (mu lk s.1 ix 1) fun _ => bx (mu lk s.1 v 1) fun _ => .ok s)
    else bx (mu lk s.1 v 1) fun _ => bx (cks lk th s) fun s1 => bx (cks lk el (s.1, s1.2)) fun s2 => .ok (s.1, s2.2)) fun s' => cks lk g s'
 | _, s => .ok s
def addsV (a : Int) : Nm → Nm × Nat → X (Nm × Nat)
 | [], s => .ok s
 | p :: ps, s => bx (addV s p a) fun s' => addsV a ps s'
def ckF (lk : By → Option Nm) (F : Fun) : X Unit := bx (addsV F.at' F.ps ([], 0)) fun s => bx (cks lk F.body s) fun _ => .ok ()
def ckFs (lk : By → Option Nm) : List Fun → X Unit
 | [] => .ok ()
 | F :: L => bx (ckF lk F) fun _ => ckFs lk L
def lkL (L : List Fun) (nm : By) : Option Nm := (L.find? (fun F => F.nm == nm)).map (·.ps)
def twice : List By → List Fun → X Unit
 | _, [] => .ok ()
 | ns, F :: L => if ns.contains F.nm then .error (9, F.at') else twice (F.nm :: ns) L
def mainB : By := [109, 97, 105, 110]
def chk (L : List Fun) : X Bool := bx (twice [] L) fun _ => bx (ckFs (lkL L) L) fun _ => .ok (match lkL L mainB with | some [] => true | _ => false)
theorem twice_ok : ∀ (L : List Fun) (ns : List By), twice ns L = .ok () ↔ (L.map (·.nm)).Nodup ∧ ∀ F ∈ L, ns.contains F.nm = false
 | [], ns => by simp [twice]
 | F :: L, ns => by
  rw [twice]
  by_cases h : ns.contains F.nm = true
  ·rw [if_pos h]
   refine ⟨fun e => (by cases e), fun ⟨_, h2⟩ => ?_⟩
   have := h2 F (by simp)
   rw [h] at this
   cases this
  ·rw [if_neg h, twice_ok L (F.nm :: ns)]
   simp only [List.map_cons, List.nodup_cons, List.mem_cons, forall_eq_or_imp, List.contains_cons, Bool.or_eq_false_iff]
   constructor
   ·rintro ⟨h1, h2⟩
    refine ⟨⟨fun hm => ?_, h1⟩, by simpa using h, fun G hG => (h2 G hG).2⟩
    obtain ⟨G, hG, e⟩ := List.mem_map.1 hm
    have := (h2 G hG).1
    rw [e] at this
    simp at this
   ·rintro ⟨⟨h1, h2⟩, h3, h4⟩
    refine ⟨h2, fun G hG => ⟨?_, h4 G hG⟩⟩
    simp only [beq_eq_false_iff_ne, ne_eq]
    exact fun e => h1 (List.mem_map.2 ⟨G, hG, e⟩)
abbrev Everywhere : Nat → Prop := fun _ => True
def Got (w : World) (v : Value) (L : List Fun) : Prop := ∃ (n : Nat) (cs : List Value), w.ownsRow 0 86 4 v n cs ∧ FnAt Everywhere w (chain (L.map Fun.tr)) cs
theorem Keeps.below {S : Nat → Prop} {w w' : World} (h : Below w.heap.size w w') : Keeps S w w' := fun b cs t _ _ hb => by
 have hl : b < w.heap.size := (Array.getElem?_eq_some_iff.1 hb).1
 rw [h.block b hl]
 exact hb
theorem Got.below {w w' : World} {v : Value} {L : List Fun} (h : Got w v L) (hb : Below w.heap.size w w') : Got w' v L := by
 obtain ⟨n, cs, h1, h2⟩ := h
 exact ⟨n, cs, (Keeps.below hb).row (by decide) h1 (S := Everywhere) (fun _ _ => trivial), FnAt.kept (Keeps.below hb) _ _ h2⟩
theorem EnvW.below {w w' : World} (h : EnvW 14 w) (hb : Below w.heap.size w w') : EnvW 14 w' := by
 have hlt := h.env.lt
 refine ⟨h.env.below hb, ?_, h.far, Nat.le_trans h.le hb.size⟩
 have hv := h.pow
 unfold Pw Lib.TabIs World.var? at *
 simp only [gPow, Option.bind_some] at hv ⊢
 rw [hb.block 7 (by omega)]
 exact hv
theorem parse_got {s : ByteArray} {w : World} {L : List Fun} (he : Env w) (hs : s.size ≤ 1000000) (h : qh s.data.toList = .ok (chain (L.map Fun.tr))) :
  Calls Tryz.prog 14 #[.string s] w fun e w' => ∃ q c, e = .returned (.tuple #[.slice q L.length c, .nilIface]) ∧ Got w' (.slice q L.length c) L ∧ Below w.heap.size w w' := by
 refine (parse_any s w he hs).mono ?_
 intro e w' hp
 rw [h] at hp
 obtain ⟨⟨v, n, cs, rfl, hr, hx⟩, hb⟩ := hp
 obtain ⟨L', e1, e2, _⟩ := fns_open _ cs hx
 have := trs_inj e1
 subst this
 have hn : n = L.length := by have := hr.1; omega
 subst hn
 obtain ⟨q, c, rfl⟩ := zd hr
 exact ⟨q, c, rfl, ⟨L.length, cs, own_mono hr (Nat.zero_le _), FnAt.mono (fun _ _ _ => trivial) _ _ hx⟩, hb⟩
def ThrewI (k a : Int) (e : Ending) (w' : World) : Prop := ∃ b, e = .panicked [{ v := .iface 72 (.pointer (some ⟨b, 0, none⟩)), recovered := false }] ∧ w'.heap[b]? = some (.cells #[.int .i64 k, .int .i64 a] 139)
theorem qV (k a : Int) (w : World) : Calls Tryz.prog 64 #[.int .i64 k, .int .i64 a] w fun e w' => ThrewI k a e w' ∧ Below w.heap.size w w' := by
 go_enter Tryz.func64, Tryz.ntmps64
 go_wp2
 exact ⟨rfl, ⟨_, rfl, heap_alloc_last w _⟩, (Below.refl _ _).alloc (Nat.le_refl _) _⟩
theorem same_any (y : ByteArray) (k : Int) (b : Nat) (nm : ByteArray) (w : World) (h : w.cell? ⟨b, 0, none⟩ = some (.string nm)) : Calls Tryz.prog 155 #[.agg #[.string y, .int .i64 k], .pointer (some ⟨b, 0, none⟩)] w fun e w' => e = .returned (.bool (decide (y = nm))) ∧ Below w.heap.size w w' := by
 have hA : (w.alloc (.cells #[.string y, .int .i64 k] 144)).cell? ⟨b, 0, none⟩ = some (.string nm) := (((Below.refl w.heap.size w).alloc (Nat.le_refl _) _).cell (World.block_lt_of_cell? w _ h)).trans h
 have HB : Hid (Below w.heap.size w (w.alloc (.cells #[.string y, .int .i64 k] 144))) := (Below.refl _ _).alloc (Nat.le_refl _) _
 by_cases e : y = nm
 ·subst e
  go_enter Tryz.func155, Tryz.ntmps155
  go_wp2
  go_ret
  exact ⟨by simp, HB.out⟩
 ·have e1 := bytes_neq e
  have e2 : decide (y = nm) = false := by simpa using e
  rw [e2]
  clear e2 e
  go_enter Tryz.func155, Tryz.ntmps155
  go_wp2
  go_ret
  exact ⟨rfl, HB.out⟩
def ixN (nm : By) : Nm → Option Nat
 | [] => none
 | x :: ns => if x.1 = nm then some 0 else (ixN nm ns).map (· + 1)
def ixI (ns : Nm) (nm : By) : Int := match ixN nm ns with | some i => i | none => -1
theorem ix_hit (nm : By) : ∀ (ns : Nm) (i : Nat) (x : By × Int), ns[i]? = some x → x.1 = nm → (∀ j y, j < i → ns[j]? = some y → ¬ y.1 = nm) → ixN nm ns = some i
 | [], i, x, h, _, _ => by simp at h
 | z :: ns, 0, x, h, hx, _ => by
  simp at h
  subst h
  rw [ixN, if_pos hx]
 | z :: ns, i + 1, x, h, hx, hn => by
  rw [ixN, if_neg (hn 0 z (by omega) rfl), ix_hit nm ns i x (by simpa using h) hx (fun j y hj hy => hn (j + 1) y (by omega) (by simpa using hy))]
  rfl
theorem ix_none (nm : By) : ∀ (ns : Nm), (∀ j y, j < ns.length → ns[j]? = some y → ¬ y.1 = nm) → ixN nm ns = none
 | [], _ => rfl
 | z :: ns, hn => by
  rw [ixN, if_neg (hn 0 z (by simp) rfl), ix_none nm ns (fun j y hj hy => hn (j + 1) y (by simpa using hj) (by simpa using hy))]
  rfl
theorem ix_fnd (nm : By) : ∀ (ns : Nm), (∃ i x, ixN nm ns = some i ∧ ns[i]? = some x ∧ i < ns.length ∧ fndN ns nm = some x.2) ∨ (ixN nm ns = none ∧ fndN ns nm = none)
 | [] => .inr ⟨rfl, rfl⟩
 | z :: ns => by
  unfold fndN
  rw [ixN, List.find?_cons]
  by_cases h : z.1 = nm
  ·have : (z.1 == nm) = true := by simpa using h
   rw [if_pos h, this]
   exact .inl ⟨0, z, rfl, rfl, by simp, rfl⟩
  ·have : (z.1 == nm) = false := by simpa using h
   rw [if_neg h, this]
   rcases ix_fnd nm ns with ⟨i, x, h1, h2, h3, h4⟩ | ⟨h1, h2⟩
   ·exact .inl ⟨i + 1, x, by rw [h1]; rfl, by simpa using h2, by simpa using h3, h4⟩
   ·exact .inr ⟨by rw [h1]; rfl, h2⟩
theorem index_any (ns : Nm) (v : Value) (B b : Nat) (nm : ByteArray) (w : World) (hr : w.ownsRow B 144 2 v ns.length (psC ns)) (hl : ns.length ≤ 1000) (h : w.cell? ⟨b, 0, none⟩ = some (.string nm)) :
  Calls Tryz.prog 154 #[v, .func (.func 155) #[] #[.pointer (some ⟨b, 0, none⟩)]] w fun e w' => e = .returned (.int .i64 (ixI ns nm.data.toList)) ∧ Below w.heap.size w w' := by
 obtain ⟨q, c, rfl⟩ := zd hr
 have HR : Hid (w.ownsRow B 144 2 (.slice q ns.length c) ns.length (psC ns)) := hr
 have HC : Hid (∀ W, Below w.heap.size w W → W.cell? ⟨b, 0, none⟩ = some (.string nm)) := fun W hb => (hb.cell (World.block_lt_of_cell? w _ h)).trans h
 obtain ⟨n, hn⟩ : ∃ n, n = ns.length := ⟨_, rfl⟩
 have HN : Hid (n = ns.length) := hn
 rw [← hn] at HR hl ⊢
 clear hr hn h
 go_enter Tryz.func154, Tryz.ntmps154
 go_wp2_with fail
 go_loopw [8] (fun v wr => ∃ i : Nat, i ≤ n ∧ v = .int .i64 i ∧ Hid (∀ j y, j < i → ns[j]? = some y → ¬ y.1 = nm.data.toList) ∧ Hid (Below w.heap.size w wr)) (fun v _ => n - (intOf v).toNat)
 case atStart => exact ⟨0, Nat.zero_le _, rfl, fun j y hj => by omega, Below.refl _ _⟩
 case round =>
  obtain ⟨i, hin, rfl, HI, HB⟩ := hrel
  by_cases hlt : i < n
  ·obtain ⟨g, cap, e, -, -⟩ := HR.out.form (by omega)
   injection e with e1 e2 e3
   subst e1
   clear e2 e3
   obtain ⟨x, hx⟩ : ∃ x, ns[i]? = some x := ⟨ns[i]'(by have := HN.out; omega), List.getElem?_eq_getElem (by have := HN.out; omega)⟩
   obtain ⟨hc0, hc1⟩ := psC_get ns i x hx
   obtain ⟨y, hy, hyt⟩ := zM x.1
   rw [hy] at hc0
   have hrow := HR.out.kept (qS HB.out) (.inr (by simp [Value.ownBlock]))
   have q0 : wr.cell? ⟨g, i * 2, none⟩ = some (.string y) := by
    have := hrow.cells (g := g) rfl (i * 2) _ hc0
    rw [zO] at this
    exact this
   have q1 : wr.cell? ⟨g, i * 2 + 1, none⟩ = some (.int .i64 x.2) := by
    have := hrow.cells (g := g) rfl (i * 2 + 1) _ hc1
    rw [zO] at this
    exact this
   generalize x.2 = ty at q1
   have HS : Hid (Calls Tryz.prog 155 #[.agg #[.string y, .int .i64 ty], .pointer (some ⟨b, 0, none⟩)] wr fun e w' => e = .returned (.bool (decide (y = nm))) ∧ Below wr.heap.size wr w') := same_any y ty b nm wr (HC.out wr HB.out)
   have HX : Hid (ns[i]? = some x ∧ y.data.toList = x.1) := ⟨hx, hyt⟩
   clear hrow hc0 hc1 hx hy hyt
   by_cases he : y = nm
   ·have hd : decide (y = nm) = true := by simpa using he
    rw [hd] at HS
    have HE : Hid (ixI ns nm.data.toList = (i : Int)) := by
     show _ = _
     unfold ixI
     rw [ix_hit nm.data.toList ns i x HX.out.1 (by rw [← HX.out.2, he]) HI.out]
    clear hd he
    go_wp2_with (go_at_call 155; refine HS.out.mono ?_; rintro e w1 ⟨rfl, hb⟩; have HB1 : Hid (Below w.heap.size w w1) := HB.out.trans (hb.mono HB.out.size); clear hb)
    go_ret
    exact ⟨by rw [HE.out]; rfl, HB1.out⟩
   ·have hd : decide (y = nm) = false := by simpa using he
    rw [hd] at HS
    have HI2 : Hid (∀ j y, j < i + 1 → ns[j]? = some y → ¬ y.1 = nm.data.toList) := fun j z hj hz => by
     rcases Nat.lt_or_ge j i with hj2 | hj2
     ·exact HI.out j z hj2 hz
     ·obtain rfl : j = i := by omega
      rw [HX.out.1] at hz
      injection hz with hz
      subst hz
      rw [← HX.out.2]
      exact fun e => he (ba_inj e)
    clear hd he
    go_wp2_with (go_at_call 155; refine HS.out.mono ?_; rintro e w1 ⟨rfl, hb⟩; have HB1 : Hid (Below w.heap.size w w1) := HB.out.trans (hb.mono HB.out.size); clear hb)
    exact ⟨⟨i + 1, by omega, by go_num, HI2, HB1⟩, by simp [intOf]; omega⟩
  ·obtain rfl : i = n := by omega
   have HE : Hid (ixI ns nm.data.toList = -1) := by
    show _ = _
    unfold ixI
    rw [ix_none nm.data.toList ns (fun j y hj hy => HI.out j y (by rw [HN.out]; exact hj) hy)]
   clear hlt
   go_wp2
   go_ret
   exact ⟨by rw [HE.out]; rfl, HB.out⟩
structure CkS (w : World) (C : Nat) (fv mv nv : Value) (ns : Nm) (k : Nat) : Prop where
 blk : w.heap[C]? = some (.cells #[fv, mv, nv, .int .i64 (k : Int)] 96)
 row : w.ownsRow (C + 1) 144 2 nv ns.length (psC ns)
 le : ns.length ≤ k
 k12 : k ≤ 12
theorem CkS.below {w w' : World} {C : Nat} {fv mv nv : Value} {ns : Nm} {k : Nat} (h : CkS w C fv mv nv ns k) (hb : Below w.heap.size w w') : CkS w' C fv mv nv ns k :=
 ⟨by rw [hb.block C (Array.getElem?_eq_some_iff.1 h.blk).1]; exact h.blk, h.row.kept (qS hb) (by cases nv.ownBlock <;> simp), h.le, h.k12⟩
theorem CkS.lt {w : World} {C : Nat} {fv mv nv : Value} {ns : Nm} {k : Nat} (h : CkS w C fv mv nv ns k) : C < w.heap.size := (Array.getElem?_eq_some_iff.1 h.blk).1
theorem find_any {w : World} {C : Nat} {fv mv nv : Value} {ns : Nm} {k : Nat} (h : CkS w C fv mv nv ns k) (nm : ByteArray) :
  Calls Tryz.prog 102 #[.pointer (some ⟨C, 0, none⟩), .string nm] w fun e w' => e = .returned (.int .i64 (ixI ns nm.data.toList)) ∧ Below w.heap.size w w' := by
 have hmf : ∀ (fn : Fn) (first cap : Array Value) (w : World), (Instr.makeFunc fn first cap).run Tryz.prog w = .ok (.func fn first cap) w := fun _ _ _ _ => rfl
 obtain ⟨q, c, rfl⟩ := zd h.row
 have hb1 : Below w.heap.size w (w.alloc (.cells #[.string nm] 9)) := (Below.refl _ _).alloc (Nat.le_refl _) _
 have h1 := h.below hb1
 have c2 := z_ (i := 2) h1.blk rfl
 have HI : Hid (Calls Tryz.prog 154 #[.slice q ns.length c, .func (.func 155) #[] #[.pointer (some ⟨w.heap.size, 0, none⟩)]] (w.alloc (.cells #[.string nm] 9)) fun e w' => e = .returned (.int .i64 (ixI ns nm.data.toList)) ∧ Below (w.alloc (.cells #[.string nm] 9)).heap.size (w.alloc (.cells #[.string nm] 9)) w') :=
  index_any ns _ (C + 1) w.heap.size nm _ h1.row (by have := h.le; have := h.k12; omega) (z_ (i := 0) (heap_alloc_last w _) rfl)
 have HB : Hid (∀ w', Below (w.alloc (.cells #[.string nm] 9)).heap.size (w.alloc (.cells #[.string nm] 9)) w' → Below w.heap.size w w') := fun w' hb => hb1.trans (hb.mono (by simp))
 generalize ns.length = n at *
 clear h h1 hb1
 go_enter Tryz.func102, Tryz.ntmps102
 go_wp2_with (go_at_call 154; refine HI.out.mono ?_; rintro e w1 ⟨rfl, hb⟩; have HB1 : Hid (Below w.heap.size w w1) := HB.out _ hb; clear hb)
 go_ret
 exact ⟨rfl, HB1.out⟩
theorem fnd_le {ns : Nm} {nm : By} : (∃ (i : Nat) (x : By × Int), ixI ns nm = (i : Int) ∧ ns[i]? = some x ∧ i < ns.length ∧ fndN ns nm = some x.2) ∨ (ixI ns nm = -1 ∧ fndN ns nm = none) := by
 unfold ixI
 rcases ix_fnd nm ns with ⟨i, x, h1, h2, h3, h4⟩ | ⟨h1, h2⟩
 ·exact .inl ⟨i, x, by rw [h1], h2, h3, h4⟩
 ·exact .inr ⟨by rw [h1], h2⟩
def VarP (r : Option Int) (a : Int) (e : Ending) (w' : World) : Prop := (∃ t, r = some t ∧ e = .returned (.int .i64 t)) ∨ (r = none ∧ ThrewI 7 a e w')
theorem variable_any {w : World} {C : Nat} {fv mv nv : Value} {ns : Nm} {k : Nat} (h : CkS w C fv mv nv ns k) (nm : ByteArray) (a : Int) :
  Calls Tryz.prog 158 #[.pointer (some ⟨C, 0, none⟩), .string nm, .int .i64 a] w fun e w' => VarP (fndN ns nm.data.toList) a e w' ∧ Below w.heap.size w w' := by
 have HF : Hid (Calls Tryz.prog 102 #[.pointer (some ⟨C, 0, none⟩), .string nm] w fun e w' => e = .returned (.int .i64 (ixI ns nm.data.toList)) ∧ Below w.heap.size w w') := find_any h nm
 have HS : Hid (CkS w C fv mv nv ns k) := h
 rcases fnd_le (ns := ns) (nm := nm.data.toList) with ⟨i, x, e1, e2, e3, e4⟩ | ⟨e1, e2⟩
 ·rw [e1] at HF
  obtain ⟨ty, hty⟩ : ∃ ty, x.2 = ty := ⟨_, rfl⟩
  rw [hty] at e4
  rw [e4]
  have HTy : Hid (x.2 = ty) := hty
  have HX : Hid (ns[i]? = some x ∧ i < ns.length) := ⟨e2, e3⟩
  have hi : ns.length ≤ 12 := by have := h.le; have := h.k12; omega
  obtain ⟨n, hn⟩ : ∃ n, n = ns.length := ⟨_, rfl⟩
  rw [← hn] at e3 hi
  have HNn : Hid (n = ns.length) := hn
  clear h e1 e2 e4 hn hty
  go_enter Tryz.func158, Tryz.ntmps158
  go_wp2_with (go_at_call 102; fail)
  refine HF.out.mono ?_
  rintro e w1 ⟨rfl, hb⟩
  have hS1 := HS.out.below hb
  have HB1 : Hid (Below w.heap.size w w1) := hb
  have hrow := hS1.row
  obtain ⟨g, cap, ev, -, -⟩ := hrow.form (by have := HX.out.2; omega)
  rw [ev] at hrow hS1
  obtain ⟨hc0, hc1⟩ := psC_get ns i x HX.out.1
  have q1 : w1.cell? ⟨g, i * 2 + 1, none⟩ = some (.int .i64 x.2) := by
   have := hrow.cells (g := g) rfl (i * 2 + 1) _ hc1
   rw [zO] at this
   exact this
  have c2 := z_ (i := 2) hS1.blk rfl
  rw [← HNn.out] at c2
  rw [HTy.out] at q1
  clear hb hS1 hrow hc0 hc1 ev
  go_wp2
  go_ret
  exact ⟨.inl ⟨ty, rfl, rfl⟩, HB1.out⟩
 ·rw [e1] at HF
  rw [e2]
  clear h e1 e2
  go_enter Tryz.func158, Tryz.ntmps158
  go_wp2_with (go_at_call 102; fail)
  refine HF.out.mono ?_
  rintro e w1 ⟨rfl, hb⟩
  have HB1 : Hid (Below w.heap.size w w1) := hb
  clear hb
  go_wp2_with (go_at_call 64; fail)
  refine (qV 7 a w1).mono ?_
  rintro e w2 ⟨⟨b, rfl, hb2⟩, hb⟩
  exact ⟨rfl, .inr ⟨rfl, b, rfl, hb2⟩, HB1.out.trans (hb.mono HB1.out.size)⟩
end Go.Proofs.YtnfhpdbbfejioaaGreatDoor
