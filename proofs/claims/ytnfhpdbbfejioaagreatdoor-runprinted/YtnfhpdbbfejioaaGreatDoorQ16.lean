/- XD XE XF -/
import Derived.Test.YtnfhpdbbfejioaaGreatDoorQ15
namespace Go.Proofs.YtnfhpdbbfejioaaGreatDoor
set_option linter.unusedVariables false
set_option linter.unusedSimpArgs false
open Go
def TkOk (l : List Tok) : Prop := ∀ x ∈ l, (x.k = 0 → x.t.length ≤ 12 → Nam x.t) ∧ (x.k = 2 → Dig x.t) ∧ (x.k = 3 → x.t = [])
theorem TkOk.tail {l : List Tok} (h : TkOk l) : TkOk l.tail := fun x hx => h x (List.mem_of_mem_tail hx)
theorem TkOk.hd {l : List Tok} (h : TkOk l) : ((hd l).k = 0 → (hd l).t.length ≤ 12 → Nam (hd l).t) ∧ ((hd l).k = 2 → Dig (hd l).t) ∧ ((hd l).k = 3 → (hd l).t = []) := by
 cases l with
 | nil => exact ⟨fun e => (by cases e), fun e => (by cases e), fun _ => rfl⟩
 | cons x l => exact h x (by simp)
theorem qK {l : List Tok} (h : (hd l).t ≠ []) : l.tail.length + 1 = l.length := by
 cases l with
 | nil => exact absurd rfl h
 | cons x l => simp
theorem tl_kind {l : List Tok} (h : TkOk l) (hk : (hd l).k = 0 ∨ (hd l).k = 2) : l.tail.length + 1 = l.length := by
 cases l with
 | nil => rcases hk with e | e <;> cases e
 | cons x l => simp
theorem up_mono {t : Tr} {k k' : Nat} (h : k ≤ k') : up t k ≤ up t k' := by
 unfold up
 split <;> split <;> omega
theorem up_one (t : Tr) (k : Nat) : up t k ≤ 1 := by
 unfold up
 split <;> omega
theorem hk_len (t : Tr) (k : Nat) : (hk t k).length = (te t).length + 2 * up t k := by
 rw [hk_eq]
 unfold up
 split
 ·omega
 ·simp only [List.length_cons, List.length_append, List.length_nil]
def RL (lv d : Nat) (t : Tr) (n m : Nat) : Prop := (∃ e, RE e (d + up t lv) t) ∧ (hk t lv).length + n ≤ m
theorem RL.low {lv lv' d n m : Nat} {t : Tr} (h : RL lv' d t n m) (hl : lv ≤ lv') : RL lv d t n m := by
 obtain ⟨⟨e, h1⟩, h2⟩ := h
 have := up_mono (t := t) hl
 rw [hk_len] at h2
 exact ⟨⟨e, qY _ _ _ _ _ (Nat.le_refl _) (by omega) h1⟩, by rw [hk_len]; omega⟩
def ExR (g lv d : Nat) (x : Tr) (l : List Tok) (t : Tr) (l' : List Tok) : Prop := TkOk l' ∧
 (if g = 0 then RL lv d t l'.length l.length
  else if g = 1 then RL lv d t l'.length (l.length + (hk x lv).length)
  else if g = 2 then RL 7 d t l'.length l.length
  else if g = 3 then RL 8 d t l'.length (l.length + (hk x 8).length)
  else if g = 4 then RL 8 d t l'.length l.length
  else if g = 5 then (∃ e, RE e (d + 1) t) ∧ (te t).length + 2 + l'.length ≤ l.length
  else if g = 6 then (∃ e, RE e (d + 1) t) ∧ (te t).length + 1 + l'.length ≤ l.length
  else ∃ xs, xs ≠ [] ∧ t = chain xs ∧ (∃ e, ∀ x ∈ xs, RE e (d + 1) x) ∧ (te t).length + 1 + l'.length ≤ l.length)
def lev (g lv : Nat) : Nat := if g = 1 then lv else 8
theorem te_3 (a : Int) (op : By) (l r : Tr) : (te (nd 3 a 0 [] op l r ce)).length = (hk l (zi op)).length + 1 + (hk r (zi op + 1)).length := by
 unfold te hk
 rw [pc_3, zo, zo, zV, zj, zV, zv]
 simp
 omega
theorem te_8 (a : Int) (l r : Tr) : (te (nd 8 a 0 [] [] l r ce)).length = (hk l 8).length + 2 + (te r).length := by
 unfold te hk
 rw [pc_8, zo, zj, zo, zj, zv]
 simp
 omega
theorem up_0 {t : Tr} {k : Nat} (h : k ≤ zK t) : up t k = 0 := if_pos h
theorem j_ : ∀ (f g lv d : Nat) (x : Tr) (p : Nat) (l : List Tok) (t : Tr) (l' : List Tok), (g ≤ 1 → 1 ≤ lv ∧ lv ≤ 7) → (g = 1 ∨ g = 3 → ∃ e, RE e (d + up x (lev g lv)) x) → (g = 4 → 12 < d → (hd l).k = 3) → TkOk l → exV f g lv d x p l = .ok (t, l') → ExR g lv d x l t l'
 | 0, _, _, _, _, _, _, _, _, _, _, _, _, h => by simp [exV] at h
 | f + 1, 0, lv, d, x, p, l, t, l', hv, hx, hb, hT, h => by
  show TkOk l' ∧ RL lv d t l'.length l.length
  obtain ⟨v1, v7⟩ := hv (by omega)
  rw [exV] at h
  split at h
  ·obtain rfl : lv = 7 := by omega
   exact j_ f 2 0 d .nil 0 l t l' (fun h => by omega) (fun h => by omega) (fun h => by omega) hT h
  ·obtain ⟨y, l1, h1, h2⟩ := za h
   obtain ⟨T1, r1⟩ : TkOk l1 ∧ RL (lv + 1) d y l1.length l.length := j_ f 0 (lv + 1) d .nil 0 l y l1 (fun _ => ⟨by omega, by omega⟩) (fun h => by omega) (fun h => by omega) hT h1
   have r1' := r1.low (Nat.le_succ lv)
   obtain ⟨T2, r2, r3⟩ : TkOk l' ∧ RL lv d t l'.length (l1.length + (hk y lv).length) := j_ f 1 lv d y _ l1 t l' (fun _ => ⟨v1, v7⟩) (fun _ => r1'.1) (fun h => by omega) T1 h2
   exact ⟨T2, r2, by have := r1'.2; omega⟩
 | f + 1, 1, lv, d, x, p, l, t, l', hv, hx, hb, hT, h => by
  show TkOk l' ∧ RL lv d t l'.length (l.length + (hk x lv).length)
  obtain ⟨v1, v7⟩ := hv (by omega)
  obtain ⟨e, hre⟩ := hx (.inl rfl)
  rw [show lev 1 lv = lv from rfl] at hre
  rw [exV] at h
  split at h
  ·rename_i hn
   have hm := near_mark (m := (hd l).t) (by omega)
   have hne : (hd l).t ≠ [] := fun e => by rw [e] at hn; rw [← hn] at v1; revert v1; decide
   have htl := qK hne
   obtain ⟨y, l1, h1, h2⟩ := za h
   obtain ⟨T1, ⟨e1, r1⟩, r1'⟩ : TkOk l1 ∧ RL (lv + 1) d y l1.length l.tail.length := j_ f 0 (lv + 1) d .nil 0 l.tail y l1 (fun _ => ⟨by omega, by omega⟩) (fun h => by omega) (fun h => by omega) hT.tail h1
   have hh : zK (nd 3 p 0 [] (hd l).t x y ce) = lv := by rw [holds_3, hn]
   have hnode : RE (max e e1 + 1) (d + up (nd 3 p 0 [] (hd l).t x y ce) lv) (nd 3 p 0 [] (hd l).t x y ce) := by
    rw [up_0 (by omega), RE]
    refine ⟨by have := re_le hre; omega, .inr (.inr (.inl ⟨_, _, _, _, by omega, ?_, ?_, rfl⟩))⟩
    ·rw [hn]
     exact qY _ _ _ _ _ (Nat.le_max_left _ _) (by omega) hre
    ·rw [hn]
     exact qY _ _ _ _ _ (Nat.le_max_right _ _) (by omega) r1
   obtain ⟨T2, r2, r3⟩ : TkOk l' ∧ RL lv d t l'.length (l1.length + (hk (nd 3 p 0 [] (hd l).t x y ce) lv).length) := j_ f 1 lv d _ p l1 t l' (fun _ => ⟨v1, v7⟩) (fun _ => ⟨_, hnode⟩) (fun h => by omega) T1 h2
   refine ⟨T2, r2, ?_⟩
   have e3 := te_3 p (hd l).t x y
   rw [hn] at e3
   have e4 := hk_len (nd 3 p 0 [] (hd l).t x y ce) lv
   rw [up_0 (by omega), e3] at e4
   omega
  ·obtain ⟨rfl, rfl⟩ := zk h
   exact ⟨hT, ⟨e, hre⟩, by omega⟩
 | f + 1, 2, lv, d, x, p, l, t, l', hv, hx, hb, hT, h => by
  show TkOk l' ∧ RL 7 d t l'.length l.length
  rw [exV] at h
  obtain ⟨_, _, hbo, h⟩ := za h
  split at h
  ·rename_i hn
   obtain ⟨y, l1, h1, h2⟩ := za h
   have htl := qK (l := l) (by rcases hn with e | e <;> rw [e] <;> simp)
   obtain ⟨T1, ⟨e1, r1⟩, r1'⟩ : TkOk l1 ∧ RL 7 (d + 1) y l1.length l.tail.length := j_ f 2 0 (d + 1) .nil 0 l.tail y l1 (fun h => by omega) (fun h => by omega) (fun h => by omega) hT.tail h1
   obtain ⟨rfl, rfl⟩ := zk h2
   refine ⟨T1, ⟨e1 + 1, ?_⟩, ?_⟩
   ·rw [up_0 (by rw [holds_4]; omega), RE]
    exact ⟨by have := re_le r1; omega, .inr (.inr (.inr (.inl ⟨_, _, _, hn, r1, rfl⟩)))⟩
   ·rw [hk_len, up_0 (by rw [holds_4]; omega)]
    have : (te (nd 4 (hd l).p 0 [] (hd l).t y .nil ce)).length = (hk y 7).length + 1 := by
     unfold te hk
     rw [pc_4, zj]
     simp
    omega
  ·obtain ⟨y, l1, h1, h2⟩ := za h
   obtain ⟨T1, r1⟩ : TkOk l1 ∧ RL 8 d y l1.length l.length := j_ f 4 0 d .nil 0 l y l1 (fun h => by omega) (fun h => by omega) (fun _ h12 => by
    unfold qU at hbo
    split at hbo
    ·cases hbo
    ·rename_i hno
     rcases Nat.decEq (hd l).k 3 with hk | hk
     ·exact absurd ⟨h12, hk⟩ hno
     ·exact hk) hT h1
   obtain ⟨T2, r2, r3⟩ : TkOk l' ∧ RL 8 d t l'.length (l1.length + (hk y 8).length) := j_ f 3 0 d y _ l1 t l' (fun h => by omega) (fun _ => r1.1) (fun h => by omega) T1 h2
   exact ⟨T2, RL.low ⟨r2, by have := r1.2; omega⟩ (by omega)⟩
 | f + 1, 3, lv, d, x, p, l, t, l', hv, hx, hb, hT, h => by
  show TkOk l' ∧ RL 8 d t l'.length (l.length + (hk x 8).length)
  obtain ⟨e, hre⟩ := hx (.inr rfl)
  rw [show lev 3 lv = 8 from rfl] at hre
  rw [exV] at h
  split at h
  ·rename_i hn
   have htl := qK (l := l) (by rw [hn]; simp)
   obtain ⟨y, l1, h1, h2⟩ := za h
   obtain ⟨T1, ⟨e1, r1⟩, r1'⟩ : TkOk l1 ∧ (∃ e, RE e (d + 1) y) ∧ (te y).length + 1 + l1.length ≤ l.tail.length := j_ f 6 0 d .nil 0 l.tail y l1 (fun h => by omega) (fun h => by omega) (fun h => by omega) hT.tail h1
   have hh : zK (nd 8 p 0 [] [] x y ce) = 8 := qk _ _ _ _ _ _ _ (by decide) (by decide)
   have hnode : RE (max e e1 + 1) (d + up (nd 8 p 0 [] [] x y ce) 8) (nd 8 p 0 [] [] x y ce) := by
    rw [up_0 (by omega), RE]
    exact ⟨by have := re_le hre; omega, .inr (.inr (.inr (.inr (.inr (.inr (.inr (.inl ⟨_, _, _, qY _ _ _ _ _ (Nat.le_max_left _ _) (by omega) hre, qY _ _ _ _ _ (Nat.le_max_right _ _) (by omega) r1, rfl⟩)))))))⟩
   obtain ⟨T2, r2, r3⟩ : TkOk l' ∧ RL 8 d t l'.length (l1.length + (hk (nd 8 p 0 [] [] x y ce) 8).length) := j_ f 3 0 d _ p l1 t l' (fun h => by omega) (fun _ => ⟨_, hnode⟩) (fun h => by omega) T1 h2
   refine ⟨T2, r2, ?_⟩
   have e3 := te_8 p x y
   have e4 := hk_len (nd 8 p 0 [] [] x y ce) 8
   rw [up_0 (by omega), e3] at e4
   omega
  ·obtain ⟨rfl, rfl⟩ := zk h
   exact ⟨hT, ⟨e, hre⟩, by omega⟩
 | f + 1, 4, lv, d, x, p, l, t, l', hv, hx, hb, hT, h => by
  show TkOk l' ∧ RL 8 d t l'.length l.length
  have leafRL : ∀ (t : Tr) (n m : Nat), zK t = 8 → (∃ e, RE e d t) → (te t).length + n ≤ m → RL 8 d t n m := fun t n m h8 ⟨e, hr⟩ hl => ⟨⟨e, by rw [up_0 (by omega)]; exact hr⟩, by rw [hk_len, up_0 (by omega)]; omega⟩
  have hd12 : (hd l).k ≠ 3 → d ≤ 12 := fun hk => by
   rcases Nat.lt_or_ge 12 d with h12 | h12
   ·exact absurd (hb rfl h12) hk
   ·exact h12
  have hd12' : (hd l).t ≠ [] → d ≤ 12 := fun hn => hd12 fun e => hn (hT.hd.2.2 e)
  rw [exV] at h
  split at h
  ·rename_i hk
   obtain ⟨v, l1, h1, h2⟩ := za h
   obtain ⟨hp, rfl⟩ := num_ok h1
   have htl := tl_kind hT (.inr hk)
   have hdg := hT.hd.2.1 hk
   have hbd := Lib.parseIntB_bounds hp
   have e63 : ((2 ^ (64 - 1) : Nat) : Int) = 9223372036854775808 := by decide
   rw [e63] at hbd
   have hpos : 0 ≤ v := by
    cases hw : (hd l).t with
    | nil => exact absurd hw hdg.1
    | cons c r =>
     have hc : digs.contains c = true := hdg.2 c (by rw [hw]; simp)
     have hc45 : c.toNat ≠ 45 := fun e => by
      have : c = 45 := UInt8.toNat_inj.1 e
      rw [this] at hc
      revert hc
      decide
     rw [hw] at hp
     simp only [Lib.parseIntB] at hp
     split at hp
     ·cases hp
     ·cases hp
     ·rename_i u hu
      rw [if_neg (show ¬ c.toNat = 45 from hc45)] at hp
      split at hp
      ·cases hp
      ·split at hp
       ·cases hp
       ·injection hp with hp
        omega
   obtain ⟨rfl, rfl⟩ := zk h2
   refine ⟨hT.tail, leafRL _ _ _ (qk _ _ _ _ _ _ _ (by decide) (by decide)) ⟨1, ?_⟩ ?_⟩
   ·rw [RE]
    exact ⟨hd12 (by omega), .inl ⟨_, _, hpos, by omega, rfl⟩⟩
   ·unfold te
    rw [pc_1, tks_nu, zv]
    simp
    omega
  split at h
  ·rename_i hk2 hk
   obtain ⟨nm, l1, h1, h2⟩ := za h
   obtain ⟨_, rfl, hn12, rfl⟩ := name_ok h1
   have htl := tl_kind hT (.inl hk)
   have hnam := hT.hd.1 hk hn12
   split at h2
   ·rename_i h40
    have htl2 := qK (l := l.tail) (by rw [h40]; simp)
    split at h2
    ·rename_i h41
     have htl3 := qK (l := l.tail.tail) (by rw [h41]; simp)
     obtain ⟨rfl, rfl⟩ := zk h2
     refine ⟨hT.tail.tail.tail, leafRL _ _ _ (qk _ _ _ _ _ _ _ (by decide) (by decide)) ⟨1, ?_⟩ ?_⟩
     ·rw [RE]
      exact ⟨hd12 (by omega), .inr (.inr (.inr (.inr (.inl ⟨_, _, [], hnam, fun x hx => by simp at hx, rfl⟩))))⟩
     ·unfold te
      rw [pc_5, tks_nm, zj, pc_ce, List.nil_append, zj, zv]
      simp
      omega
    ·obtain ⟨gg, l2, h3, h4⟩ := za h2
     obtain ⟨T1, xs, hxs, rfl, ⟨e1, r1⟩, r2⟩ : TkOk l2 ∧ ∃ xs, xs ≠ [] ∧ gg = chain xs ∧ (∃ e, ∀ x ∈ xs, RE e (d + 1) x) ∧ (te gg).length + 1 + l2.length ≤ l.tail.tail.length := j_ f 7 0 d ce 0 l.tail.tail gg l2 (fun h => by omega) (fun h => by omega) (fun h => by omega) hT.tail.tail h3
     obtain ⟨rfl, rfl⟩ := zk h4
     refine ⟨T1, leafRL _ _ _ (qk _ _ _ _ _ _ _ (by decide) (by decide)) ⟨e1 + 1, ?_⟩ ?_⟩
     ·rw [RE]
      exact ⟨hd12 (by omega), .inr (.inr (.inr (.inr (.inl ⟨_, _, xs, hnam, r1, rfl⟩))))⟩
     ·have : (te (nd 5 (hd l).p 0 (hd l).t [] .nil .nil (chain xs))).length = (te (chain xs)).length + 3 := by
       unfold te
       rw [pc_5, tks_nm, zj, zo, zj, zv]
       simp
      omega
   ·obtain ⟨rfl, rfl⟩ := zk h2
    refine ⟨hT.tail, leafRL _ _ _ (qk _ _ _ _ _ _ _ (by decide) (by decide)) ⟨1, ?_⟩ ?_⟩
    ·rw [RE]
     exact ⟨hd12 (by omega), .inr (.inl ⟨_, _, hnam, rfl⟩)⟩
    ·unfold te
     rw [pc_2, tks_nm, zv]
     simp
     omega
  split at h
  ·rename_i hn
   have htl := qK (l := l) (by rw [hn]; simp)
   obtain ⟨y, l1, h1, h2⟩ := za h
   obtain ⟨T1, ⟨e1, r1⟩, r1'⟩ : TkOk l1 ∧ (∃ e, RE e (d + 1) y) ∧ (te y).length + 2 + l1.length ≤ l.tail.length := j_ f 5 0 d .nil 0 l.tail y l1 (fun h => by omega) (fun h => by omega) (fun h => by omega) hT.tail h1
   obtain ⟨rfl, rfl⟩ := zk h2
   refine ⟨T1, leafRL _ _ _ (qk _ _ _ _ _ _ _ (by decide) (by decide)) ⟨e1 + 1, ?_⟩ ?_⟩
   ·rw [RE]
    exact ⟨hd12' (by rw [hn]; simp), .inr (.inr (.inr (.inr (.inr (.inl ⟨_, _, r1, rfl⟩)))))⟩
   ·have : (te (nd 6 (hd l).p 0 [] [] y .nil ce)).length = (te y).length + 3 := by
     unfold te
     rw [pc_6, zj, zj, zo, zj, zv]
     simp
    omega
  split at h
  ·rename_i hn
   have htl := qK (l := l) (by rw [hn]; simp)
   obtain ⟨y, l1, h1, h2⟩ := za h
   obtain ⟨T1, ⟨e1, r1⟩, r1'⟩ : TkOk l1 ∧ (∃ e, RE e (d + 1) y) ∧ (te y).length + 2 + l1.length ≤ l.tail.length := j_ f 5 0 d .nil 0 l.tail y l1 (fun h => by omega) (fun h => by omega) (fun h => by omega) hT.tail h1
   obtain ⟨rfl, rfl⟩ := zk h2
   refine ⟨T1, leafRL _ _ _ (qk _ _ _ _ _ _ _ (by decide) (by decide)) ⟨e1 + 1, ?_⟩ ?_⟩
   ·rw [RE]
    exact ⟨hd12' (by rw [hn]; simp), .inr (.inr (.inr (.inr (.inr (.inr (.inl ⟨_, _, r1, rfl⟩))))))⟩
   ·have : (te (nd 7 (hd l).p 0 [] [] y .nil ce)).length = (te y).length + 3 := by
     unfold te
     rw [pc_7, zj, zj, zo, zj, zv]
     simp
    omega
  split at h
  ·rename_i hn
   have htl := qK (l := l) (by rw [hn]; simp)
   obtain ⟨_, l1, h1, h⟩ := za h
   obtain ⟨n1, rfl⟩ := qy h1
   have htl1 := qK (l := l.tail) (by rw [n1]; simp)
   obtain ⟨_, l2, h2, h⟩ := za h
   obtain ⟨n2, rfl⟩ := qy h2
   have htl2 := qK (l := l.tail.tail) (by rw [n2]; simp)
   obtain ⟨rfl, rfl⟩ := zk h
   refine ⟨hT.tail.tail.tail, leafRL _ _ _ (qk _ _ _ _ _ _ _ (by decide) (by decide)) ⟨1, ?_⟩ ?_⟩
   ·rw [RE]
    exact ⟨hd12' (by rw [hn]; simp), .inr (.inr (.inr (.inr (.inr (.inr (.inr (.inr ⟨_, rfl⟩)))))))⟩
   ·unfold te
    rw [pc_9, zj, zj, zj, zv]
    simp
    omega
  ·obtain ⟨T1, ⟨e1, r1⟩, r1'⟩ : TkOk l' ∧ (∃ e, RE e (d + 1) t) ∧ (te t).length + 2 + l'.length ≤ l.length := j_ f 5 0 d .nil 0 l t l' (fun h => by omega) (fun h => by omega) (fun h => by omega) hT h
   have hu := up_one t 8
   exact ⟨T1, ⟨e1, qY _ _ _ _ _ (Nat.le_refl _) (by omega) r1⟩, by rw [hk_len]; omega⟩
 | f + 1, 5, lv, d, x, p, l, t, l', hv, hx, hb, hT, h => by
  show TkOk l' ∧ (∃ e, RE e (d + 1) t) ∧ (te t).length + 2 + l'.length ≤ l.length
  rw [exV] at h
  obtain ⟨_, l1, h1, h⟩ := za h
  obtain ⟨n1, rfl⟩ := qy h1
  have htl := qK (l := l) (by rw [n1]; simp)
  obtain ⟨y, l2, h2, h⟩ := za h
  obtain ⟨T1, ⟨e1, r1⟩, r1'⟩ : TkOk l2 ∧ RL 1 (d + 1) y l2.length l.tail.length := j_ f 0 1 (d + 1) .nil 0 l.tail y l2 (fun _ => ⟨by omega, by omega⟩) (fun h => by omega) (fun h => by omega) hT.tail h2
  obtain ⟨_, l3, h3, h⟩ := za h
  obtain ⟨n2, rfl⟩ := qy h3
  have htl2 := qK (l := l2) (by rw [n2]; simp)
  obtain ⟨rfl, rfl⟩ := zk h
  rw [hk_len] at r1'
  exact ⟨T1.tail, ⟨e1, qY _ _ _ _ _ (Nat.le_refl _) (by omega) r1⟩, by omega⟩
 | f + 1, 6, lv, d, x, p, l, t, l', hv, hx, hb, hT, h => by
  show TkOk l' ∧ (∃ e, RE e (d + 1) t) ∧ (te t).length + 1 + l'.length ≤ l.length
  rw [exV] at h
  obtain ⟨y, l2, h2, h⟩ := za h
  obtain ⟨T1, ⟨e1, r1⟩, r1'⟩ : TkOk l2 ∧ RL 1 (d + 1) y l2.length l.length := j_ f 0 1 (d + 1) .nil 0 l y l2 (fun _ => ⟨by omega, by omega⟩) (fun h => by omega) (fun h => by omega) hT h2
  obtain ⟨_, l3, h3, h⟩ := za h
  obtain ⟨n2, rfl⟩ := qy h3
  have htl2 := qK (l := l2) (by rw [n2]; simp)
  obtain ⟨rfl, rfl⟩ := zk h
  rw [hk_len] at r1'
  exact ⟨T1.tail, ⟨e1, qY _ _ _ _ _ (Nat.le_refl _) (by omega) r1⟩, by omega⟩
 | f + 1, 7, lv, d, x, p, l, t, l', hv, hx, hb, hT, h => by
  show TkOk l' ∧ ∃ xs, xs ≠ [] ∧ t = chain xs ∧ (∃ e, ∀ x ∈ xs, RE e (d + 1) x) ∧ (te t).length + 1 + l'.length ≤ l.length
  rw [exV] at h
  obtain ⟨y, l2, h2, h⟩ := za h
  obtain ⟨T1, ⟨e1, r1⟩, r1'⟩ : TkOk l2 ∧ RL 1 (d + 1) y l2.length l.length := j_ f 0 1 (d + 1) .nil 0 l y l2 (fun _ => ⟨by omega, by omega⟩) (fun h => by omega) (fun h => by omega) hT h2
  rw [hk_len] at r1'
  split at h
  ·rename_i hn
   have htl := qK (l := l2) (by rw [hn]; simp)
   obtain ⟨gg, l4, h5, h⟩ := za h
   obtain ⟨T2, xs, hxs, rfl, ⟨e2, r2⟩, r2'⟩ : TkOk l4 ∧ ∃ xs, xs ≠ [] ∧ gg = chain xs ∧ (∃ e, ∀ x ∈ xs, RE e (d + 1) x) ∧ (te gg).length + 1 + l4.length ≤ l2.tail.length := j_ f 7 0 d ce 0 l2.tail gg l4 (fun h => by omega) (fun h => by omega) (fun h => by omega) T1.tail h5
   obtain ⟨rfl, rfl⟩ := zk h
   refine ⟨T2, y :: xs, by simp, rfl, ⟨max e1 e2, fun z hz => ?_⟩, ?_⟩
   ·rcases List.mem_cons.1 hz with rfl | hz
    ·exact qY _ _ _ _ _ (Nat.le_max_left _ _) (by omega) r1
    ·exact qY _ _ _ _ _ (Nat.le_max_right _ _) (by omega) (r2 z hz)
   ·cases xs with
    | nil => exact absurd rfl hxs
    | cons z xs =>
     have := te_chain2 y z xs
     have e9 : (te (cc y (chain (z :: xs)))).length = (te y).length + 1 + (te (chain (z :: xs))).length := by
      rw [show cc y (chain (z :: xs)) = chain (y :: z :: xs) from rfl, this]
      simp
      omega
     omega
  ·obtain ⟨_, l3, h3, h⟩ := za h
   obtain ⟨n2, rfl⟩ := qy h3
   have htl2 := qK (l := l2) (by rw [n2]; simp)
   obtain ⟨rfl, rfl⟩ := zk h
   refine ⟨T1.tail, [y], by simp, rfl, ⟨e1, fun z hz => ?_⟩, ?_⟩
   ·rw [List.mem_singleton] at hz
    subst hz
    exact qY _ _ _ _ _ (Nat.le_refl _) (by omega) r1
   ·rw [show cc y ce = chain [y] from rfl, te_chain1]
    omega
 | f + 1, g + 8, lv, d, x, p, l, t, l', hv, hx, hb, hT, h => by simp [exV] at h
end Go.Proofs.YtnfhpdbbfejioaaGreatDoor
namespace Go.Proofs.YtnfhpdbbfejioaaGreatDoor
set_option linter.unusedVariables false
set_option linter.unusedSimpArgs false
open Go
def sp (n : Nat) : List Pc := List.replicate n (bl 32)
theorem tks_sp : ∀ (n : Nat) (q : List Pc), tks (sp n ++ q) = tks q
 | 0, q => rfl
 | n + 1, q => by
  show tks (bl 32 :: (sp n ++ q)) = _
  rw [zV, tks_sp n q]
def qV (n : Nat) : By := List.replicate n 32
theorem blanks_two (n : Nat) : qV n ++ [32, 32] = qV (n + 2) := by
 unfold qV
 rw [show ([32, 32] : By) = List.replicate 2 32 from rfl, List.replicate_append_replicate]
def condP (v : Tr) : List Pc := fx [40] :: (pcE v ++ [fx [41]])
def jc (c : Int) (nm : By) (ix : Tr) : List Pc :=
 if c = 1 then [fx [118, 97, 114], bl 32, ⟨0, nm⟩, bl 32, fx [61], bl 32] else if c = 2 then [⟨0, nm⟩, bl 32, fx [61], bl 32] else if c = 3 then ⟨0, nm⟩ :: ((fx [91] :: (pcE ix ++ [fx [93]])) ++ [bl 32, fx [61], bl 32]) else if c = 6 then [fx [114, 101, 116, 117, 114, 110], bl 32] else if c = 7 then [fx [112, 114, 105, 110, 116], bl 32] else []
def pcS (n : Nat) : Tr → List Pc
 | .slice [.agg [.lit (.int _ c), .lit (.int _ _), .lit (.string nm), ix, v, th, el]] [g] =>
  sp (n + 2) ++ ((if c = 4 then [fx [105, 102], bl 32] ++ (condP v ++ (([bl 32, fx [123], bl 10] ++ (pcS (n + 2) th ++ (sp (n + 2) ++ [fx [125]]))) ++ (if isCe el then [] else [bl 32, fx [101, 108, 115, 101]] ++ ([bl 32, fx [123], bl 10] ++ (pcS (n + 2) el ++ (sp (n + 2) ++ [fx [125]]))))))
   else if c = 5 then [fx [119, 104, 105, 108, 101], bl 32] ++ (condP v ++ ([bl 32, fx [123], bl 10] ++ (pcS (n + 2) th ++ (sp (n + 2) ++ [fx [125]]))))
   else jc c nm ix ++ (pcE v ++ [fx [59]])) ++ ([bl 10] ++ pcS n g))
 | _ => []
def pcB (n : Nat) (g : Tr) : List Pc := [bl 32, fx [123], bl 10] ++ (pcS n g ++ (sp n ++ [fx [125]]))
def pcM (n : Nat) : Tr → List Pc
 | .agg [.lit (.int _ c), .lit (.int _ _), .lit (.string nm), ix, v, th, el] =>
  if c = 4 then [fx [105, 102], bl 32] ++ (condP v ++ (pcB n th ++ (if isCe el then [] else [bl 32, fx [101, 108, 115, 101]] ++ pcB n el)))
  else if c = 5 then [fx [119, 104, 105, 108, 101], bl 32] ++ (condP v ++ pcB n th)
  else jc c nm ix ++ (pcE v ++ [fx [59]])
 | _ => []
theorem pcS_cons (n : Nat) (c a : Int) (nm : By) (ix v th el g : Tr) : pcS n (cc (st c a nm ix v th el) g) = sp (n + 2) ++ (pcM (n + 2) (st c a nm ix v th el) ++ ([bl 10] ++ pcS n g)) := by
 rw [pcS]
 rfl
theorem pcS_ce (n : Nat) : pcS n ce = [] := by simp [pcS]
theorem pcM_4 (n : Nat) (a : Int) (nm : By) (ix v th el : Tr) : pcM n (st 4 a nm ix v th el) = [fx [105, 102], bl 32] ++ (condP v ++ (pcB n th ++ (if isCe el then [] else [bl 32, fx [101, 108, 115, 101]] ++ pcB n el))) := by rw [pcM]; simp
theorem pcM_5 (n : Nat) (a : Int) (nm : By) (ix v th el : Tr) : pcM n (st 5 a nm ix v th el) = [fx [119, 104, 105, 108, 101], bl 32] ++ (condP v ++ pcB n th) := by rw [pcM]; simp
theorem pcM_o (n : Nat) (c a : Int) (nm : By) (ix v th el : Tr) (h4 : c ≠ 4) (h5 : c ≠ 5) : pcM n (st c a nm ix v th el) = jc c nm ix ++ (pcE v ++ [fx [59]]) := by rw [pcM]; simp [h4, h5]
def REx (d : Nat) (t : Tr) : Prop := ∃ e, RE e d t
def RS : Nat → Nat → Tr → Prop
 | 0, _, _ => False
 | f + 1, d, t =>
  (∃ (a : Int) (nm : By) (v : Tr), Nam nm ∧ REx 0 v ∧ t = st 1 a nm .nil v ce ce) ∨
  (∃ (a : Int) (nm : By) (v : Tr), Nam nm ∧ REx 0 v ∧ t = st 2 a nm .nil v ce ce) ∨
  (∃ (a : Int) (nm : By) (i v : Tr), Nam nm ∧ REx 1 i ∧ REx 0 v ∧ t = st 3 a nm i v ce ce) ∨
  (∃ (a : Int) (v : Tr) (xs ys : List Tr), d ≤ 12 ∧ REx 1 v ∧ (∀ x ∈ xs, RS f (d + 1) x) ∧ (∀ y ∈ ys, RS f (d + 1) y) ∧ t = st 4 a [] .nil v (chain xs) (chain ys)) ∨
  (∃ (a : Int) (v : Tr) (xs : List Tr), d ≤ 12 ∧ REx 1 v ∧ (∀ x ∈ xs, RS f (d + 1) x) ∧ t = st 5 a [] .nil v (chain xs) ce) ∨
  (∃ (a : Int) (v : Tr), REx 0 v ∧ t = st 6 a [] .nil v ce ce) ∨
  (∃ (a : Int) (v : Tr), REx 0 v ∧ t = st 7 a [] .nil v ce ce) ∨
  (∃ (a b : Int) (nm : By) (xs : List Tr), Nam nm ∧ (∃ e, ∀ x ∈ xs, RE e 1 x) ∧ t = st 8 a [] .nil (nd 5 b 0 nm [] .nil .nil (chain xs)) ce ce)
theorem rs_mono : ∀ (f f' d : Nat) (t : Tr), f ≤ f' → RS f d t → RS f' d t
 | 0, _, _, _, _, h => h.elim
 | f + 1, 0, _, _, hf, _ => by omega
 | f + 1, f' + 1, d, t, hf, h => by
  have ih : ∀ (d : Nat) (t : Tr), RS f d t → RS f' d t := fun d t h => rs_mono f f' d t (by omega) h
  rw [RS] at h ⊢
  rcases h with h | h | h | ⟨a, v, xs, ys, h1, h2, h3, h4, e⟩ | ⟨a, v, xs, h1, h2, h3, e⟩ | h | h | h
  ·exact .inl h
  ·exact .inr (.inl h)
  ·exact .inr (.inr (.inl h))
  ·exact .inr (.inr (.inr (.inl ⟨a, v, xs, ys, h1, h2, fun x hx => ih _ x (h3 x hx), fun x hx => ih _ x (h4 x hx), e⟩)))
  ·exact .inr (.inr (.inr (.inr (.inl ⟨a, v, xs, h1, h2, fun x hx => ih _ x (h3 x hx), e⟩))))
  ·exact .inr (.inr (.inr (.inr (.inr (.inl h)))))
  ·exact .inr (.inr (.inr (.inr (.inr (.inr (.inl h))))))
  ·exact .inr (.inr (.inr (.inr (.inr (.inr (.inr h))))))
structure Fc (q : List Pc) (s : By) : Prop where
 ok : ∀ x ∈ q, PcOk x
 sep : ∀ c, Sep c q = true
 tx : txt q = s
theorem fc_nil : Fc [] [] := ⟨fun x hx => by simp at hx, fun c => rfl, rfl⟩
theorem fc_cons {p : Pc} {q : List Pc} {s : By} (hp : PcOk p) (h1 : ∀ c, ok1 p (fb c q) = true) (h : Fc q s) : Fc (p :: q) (p.w ++ s) := by
 refine ⟨fun x hx => ?_, fun c => zZ _ _ _ (h1 c) (h.sep c), by rw [txt_cons, h.tx]⟩
 rcases List.mem_cons.1 hx with rfl | hx
 ·exact hp
 ·exact h.ok x hx
theorem fc_app {a b : List Pc} {s t : By} (ha : Fc a s) (hb : Fc b t) : Fc (a ++ b) (s ++ t) := by
 refine ⟨fun x hx => ?_, fun c => sep_two _ _ _ (ha.sep _) (hb.sep c), by rw [txt_app, ha.tx, hb.tx]⟩
 rcases List.mem_append.1 hx with hx | hx
 ·exact ha.ok x hx
 ·exact hb.ok x hx
theorem fc_exp {a b : List Pc} {s t : By} (ha : Fb a s) (hb : Fc b t) (h : ∀ c, alnum.contains (fb c b) = false) : Fc (a ++ b) (s ++ t) := by
 refine ⟨fun x hx => ?_, fun c => sep_two _ _ _ (ha.sep _ (h c)) (hb.sep c), by rw [txt_app, ha.tx, hb.tx]⟩
 rcases List.mem_append.1 hx with hx | hx
 ·exact ha.ok x hx
 ·exact hb.ok x hx
theorem ok1_blank (c x : UInt8) : ok1 (bl c) x = true := by unfold ok1; rfl
theorem fc_32 {q : List Pc} {s : By} (h : Fc q s) : Fc (bl 32 :: q) (32 :: s) := fc_cons ok32 (fun c => ok1_blank _ _) h
theorem fc_10 {q : List Pc} {s : By} (h : Fc q s) : Fc (bl 10 :: q) (10 :: s) := fc_cons ok10 (fun c => ok1_blank _ _) h
theorem fc_mark (x : By) (hx : x ∈ marksL) (h2 : alnum.contains (x.headD 0) = false ∧ [[60], [62], [61], [33]].contains x = false) {q : List Pc} {s : By} (h : Fc q s) : Fc (fx x :: q) (x ++ s) := fc_cons (okm x hx) (fun c => ok1_any x _ h2) h
theorem fc_wb (x : By) (hx : x ∈ wordsL) {q : List Pc} {s : By} (h : Fc q s) : Fc (fx x :: bl 32 :: q) (x ++ (32 :: s)) := fc_cons (okw x hx) (fun c => ok1_bl _ _ (.inl rfl)) (fc_32 h)
theorem fc_eq {q : List Pc} {s : By} (h : Fc q s) : Fc (bl 32 :: fx [61] :: bl 32 :: q) (32 :: 61 :: 32 :: s) := fc_32 (fc_cons (p := fx [61]) (okm _ (by decide)) (fun c => ok1_bl _ _ (.inl rfl)) (fc_32 h))
theorem fc_nb {nm : By} (hn : Nam nm) {q : List Pc} {s : By} (h : Fc q s) (hq : ∀ c, alnum.contains (fb c q) = false) : Fc (⟨0, nm⟩ :: q) (nm ++ s) := fc_cons (p := ⟨0, nm⟩) (.inr (.inl ⟨rfl, hn⟩)) (fun c => ok1_al _ _ (nam_al hn) (hq c)) h
theorem fc_sp : ∀ (n : Nat) {q : List Pc} {s : By}, Fc q s → Fc (sp n ++ q) (qV n ++ s)
 | 0, q, s, h => h
 | n + 1, q, s, h => fc_32 (fc_sp n h)
theorem fc_semi {v : Tr} {d : Nat} (h : REx d v) : Fc (pcE v ++ [fx [59]]) (wrT v ++ [59]) := by
 obtain ⟨e, h⟩ := h
 exact fc_exp (re_fa _ _ _ h).b (fc_mark [59] (by decide) (by decide) fc_nil) (fun c => by show alnum.contains 59 = false; decide)
theorem fc_in {q r : List Pc} {s t : By} (h : Fb q s) (x y : By) (hx : x ∈ marksL) (hx2 : alnum.contains (x.headD 0) = false ∧ [[60], [62], [61], [33]].contains x = false) (hy : y ∈ marksL) (hy2 : alnum.contains (y.headD 0) = false ∧ [[60], [62], [61], [33]].contains y = false) (hy3 : alnum.contains (y.headD 32) = false) (hr : Fc r t) : Fc ((fx x :: (q ++ [fx y])) ++ r) (x ++ s ++ y ++ t) := by
 have h1 : Fc (q ++ (fx y :: r)) (s ++ (y ++ t)) := fc_exp h (fc_mark y hy hy2 hr) (fun c => hy3)
 have h2 := fc_mark x hx hx2 h1
 simp only [List.cons_append, List.append_assoc, List.nil_append] at h2 ⊢
 exact h2
theorem fc_cond {v : Tr} {d : Nat} (h : REx d v) {r : List Pc} {t : By} (hr : Fc r t) : Fc (condP v ++ r) ([40] ++ wrT v ++ [41] ++ t) := by
 obtain ⟨e, h⟩ := h
 exact fc_in (re_fa _ _ _ h).b [40] [41] (by decide) (by decide) (by decide) (by decide) (by decide) hr
theorem fc_idx {v : Tr} {d : Nat} (h : REx d v) {r : List Pc} {t : By} (hr : Fc r t) : Fc ((fx [91] :: (pcE v ++ [fx [93]])) ++ r) ([91] ++ wrT v ++ [93] ++ t) := by
 obtain ⟨e, h⟩ := h
 exact fc_in (re_fa _ _ _ h).b [91] [93] (by decide) (by decide) (by decide) (by decide) (by decide) hr
theorem fc_block {n : Nat} {g : Tr} (h : Fc (pcS n g) (stT (qV n) g)) : Fc (pcB n g) (blT (qV n) g) := by
 have h1 : Fc (sp n ++ [fx [125]]) (qV n ++ [125]) := fc_sp n (fc_mark [125] (by decide) (by decide) fc_nil)
 have h2 := fc_32 (fc_mark [123] (by decide) (by decide) (fc_10 (fc_app h h1)))
 unfold pcB blT
 simpa using h2
theorem fc_sts {f d : Nat} (n : Nat) (ih : ∀ t, RS f d t → ∀ n, Fc (pcM n t) (smT (qV n) t)) : ∀ xs : List Tr, (∀ x ∈ xs, RS f d x) → Fc (pcS n (chain xs)) (stT (qV n) (chain xs))
 | [], _ => by
  rw [show chain [] = ce from rfl, pcS_ce, show stT (qV n) ce = [] by simp [stT]]
  exact fc_nil
 | x :: xs, h => by
  have hx := h x (by simp)
  have hst : ∃ c a nm ix v th el, x = st c a nm ix v th el := by
   cases f with
   | zero => exact hx.elim
   | succ f =>
    rw [RS] at hx
    rcases hx with ⟨a, nm, v, _, _, e⟩ | ⟨a, nm, v, _, _, e⟩ | ⟨a, nm, i, v, _, _, _, e⟩ | ⟨a, v, xs, ys, h1, h2, h3, h4, e⟩ | ⟨a, v, xs, h1, h2, h3, e⟩ | ⟨a, v, _, e⟩ | ⟨a, v, _, e⟩ | ⟨a, b, nm, xs, _, _, e⟩ <;> exact ⟨_, _, _, _, _, _, _, e⟩
  obtain ⟨c, a, nm, ix, v, th, el, e⟩ := hst
  have h1 := ih x hx (n + 2)
  have h2 := fc_sts n ih xs (fun y hy => h y (by simp [hy]))
  rw [show chain (x :: xs) = cc x (chain xs) from rfl]
  subst e
  rw [pcS_cons]
  have e2 := stT_cons (qV n) c a nm ix v th el (chain xs)
  rw [show stT (qV n) (cc (st c a nm ix v th el) (chain xs)) = stT (qV n) (.slice [st c a nm ix v th el] [chain xs]) from rfl, e2, blanks_two]
  have h3 := fc_sp (n + 2) (fc_app h1 (fc_10 h2))
  simpa using h3
theorem rs_fc : ∀ (f d : Nat) (t : Tr), RS f d t → ∀ n, Fc (pcM n t) (smT (qV n) t)
 | 0, _, _, h, _ => h.elim
 | f + 1, d, t, h, n => by
  have ih : ∀ (d : Nat) (xs : List Tr), (∀ x ∈ xs, RS f d x) → Fc (pcB n (chain xs)) (blT (qV n) (chain xs)) := fun d xs h => fc_block (fc_sts n (fun t ht m => rs_fc f d t ht m) xs h)
  rw [RS] at h
  rcases h with ⟨a, nm, v, hn, hv, rfl⟩ | ⟨a, nm, v, hn, hv, rfl⟩ | ⟨a, nm, i, v, hn, hi, hv, rfl⟩ | ⟨a, v, xs, ys, h1, hv, h3, h4, rfl⟩ | ⟨a, v, xs, h1, hv, h3, rfl⟩ | ⟨a, v, hv, rfl⟩ | ⟨a, v, hv, rfl⟩ | ⟨a, b, nm, xs, hn, ⟨e, hx⟩, rfl⟩
  ·rw [pcM_o _ _ _ _ _ _ _ _ (by decide) (by decide)]
   have := fc_wb [118, 97, 114] (by decide) (fc_nb hn (fc_eq (fc_semi hv)) (fun c => by show alnum.contains 32 = false; decide))
   simpa [jc, smT] using this
  ·rw [pcM_o _ _ _ _ _ _ _ _ (by decide) (by decide)]
   have := fc_nb hn (fc_eq (fc_semi hv)) (fun c => by show alnum.contains 32 = false; decide)
   simpa [jc, smT] using this
  ·rw [pcM_o _ _ _ _ _ _ _ _ (by decide) (by decide)]
   have := fc_nb hn (fc_idx hi (fc_eq (fc_semi hv))) (fun c => by show alnum.contains 91 = false; decide)
   simpa [jc, smT] using this
  ·rw [pcM_4]
   have ht := ih (d + 1) xs h3
   have he := ih (d + 1) ys h4
   cases hce : isCe (chain ys) with
   | true =>
    have := fc_wb [105, 102] (by decide) (fc_cond hv ht)
    simpa [smT, hce] using this
   | false =>
    have h5 : Fc ([bl 32, fx [101, 108, 115, 101]] ++ pcB n (chain ys)) (([32, 101, 108, 115, 101] : By) ++ blT (qV n) (chain ys)) := by
     have := fc_32 (fc_cons (p := fx [101, 108, 115, 101]) (okw _ (by decide)) (fun c => ok1_bl _ _ (.inl rfl)) he)
     simpa using this
    have := fc_wb [105, 102] (by decide) (fc_cond hv (fc_app ht h5))
    simpa [smT, hce] using this
  ·rw [pcM_5]
   have := fc_wb [119, 104, 105, 108, 101] (by decide) (fc_cond hv (ih (d + 1) xs h3))
   simpa [smT] using this
  ·rw [pcM_o _ _ _ _ _ _ _ _ (by decide) (by decide)]
   have := fc_wb [114, 101, 116, 117, 114, 110] (by decide) (fc_semi hv)
   simpa [jc, smT] using this
  ·rw [pcM_o _ _ _ _ _ _ _ _ (by decide) (by decide)]
   have := fc_wb [112, 114, 105, 110, 116] (by decide) (fc_semi hv)
   simpa [jc, smT] using this
  ·rw [pcM_o _ _ _ _ _ _ _ _ (by decide) (by decide)]
   have hv : REx 0 (nd 5 b 0 nm [] .nil .nil (chain xs)) := ⟨e + 1, by
    rw [RE]
    exact ⟨by omega, .inr (.inr (.inr (.inr (.inl ⟨_, _, _, hn, hx, rfl⟩))))⟩⟩
   have := fc_semi hv
   simpa [jc, smT] using this
end Go.Proofs.YtnfhpdbbfejioaaGreatDoor
namespace Go.Proofs.YtnfhpdbbfejioaaGreatDoor
set_option linter.unusedVariables false
set_option linter.unusedSimpArgs false
open Go
abbrev tm (n : Nat) (t : Tr) : List Tok := tks (pcM n t)
abbrev ts (n : Nat) (t : Tr) : List Tok := tks (pcS n t)
theorem ts_ce (n : Nat) : ts n ce = [] := by unfold ts; rw [pcS_ce]; rfl
theorem ts_cons (n : Nat) (c a : Int) (nm : By) (ix v th el g : Tr) : ts n (cc (st c a nm ix v th el) g) = tm (n + 2) (st c a nm ix v th el) ++ ts n g := by
 unfold ts tm
 rw [pcS_cons, tks_sp, zo]
 show _ ++ tks (bl 10 :: pcS n g) = _
 rw [zV]
theorem tb_eq (n : Nat) (g : Tr) : tks (pcB n g) = tk [123] :: (ts n g ++ [tk [125]]) := by
 unfold pcB
 show tks (bl 32 :: fx [123] :: bl 10 :: (pcS n g ++ (sp n ++ [fx [125]]))) = _
 rw [zV, zj, zV, zo, tks_sp, zj, zv]
theorem tc_eq (v : Tr) : tks (condP v) = tk [40] :: (te v ++ [tk [41]]) := by
 unfold condP
 rw [zj, zo, zj, zv]
abbrev nt (x : By) : Tok := ⟨0, x, 0⟩
theorem tm_1 (n : Nat) (a : Int) (nm : By) (v : Tr) : tm n (st 1 a nm .nil v ce ce) = tk [118, 97, 114] :: nt nm :: tk [61] :: (te v ++ [tk [59]]) := by
 unfold tm
 rw [pcM_o _ _ _ _ _ _ _ _ (by decide) (by decide), show jc 1 nm .nil = [fx [118, 97, 114], bl 32, ⟨0, nm⟩, bl 32, fx [61], bl 32] by simp [jc]]
 show tks (fx _ :: bl 32 :: ⟨0, nm⟩ :: bl 32 :: fx [61] :: bl 32 :: (pcE v ++ [fx [59]])) = _
 rw [zj, zV, tks_nm, zV, zj, zV, zo, zj, zv]
theorem tm_2 (n : Nat) (a : Int) (nm : By) (v : Tr) : tm n (st 2 a nm .nil v ce ce) = nt nm :: tk [61] :: (te v ++ [tk [59]]) := by
 unfold tm
 rw [pcM_o _ _ _ _ _ _ _ _ (by decide) (by decide), show jc 2 nm .nil = [⟨0, nm⟩, bl 32, fx [61], bl 32] by simp [jc]]
 show tks (⟨0, nm⟩ :: bl 32 :: fx [61] :: bl 32 :: (pcE v ++ [fx [59]])) = _
 rw [tks_nm, zV, zj, zV, zo, zj, zv]
theorem tm_3 (n : Nat) (a : Int) (nm : By) (i v : Tr) : tm n (st 3 a nm i v ce ce) = nt nm :: tk [91] :: (te i ++ (tk [93] :: tk [61] :: (te v ++ [tk [59]]))) := by
 unfold tm
 rw [pcM_o _ _ _ _ _ _ _ _ (by decide) (by decide), show jc 3 nm i = ⟨0, nm⟩ :: ((fx [91] :: (pcE i ++ [fx [93]])) ++ [bl 32, fx [61], bl 32]) by simp [jc]]
 have : (⟨0, nm⟩ :: ((fx [91] :: (pcE i ++ [fx [93]])) ++ [bl 32, fx [61], bl 32])) ++ (pcE v ++ [fx [59]]) = ⟨0, nm⟩ :: fx [91] :: (pcE i ++ (fx [93] :: bl 32 :: fx [61] :: bl 32 :: (pcE v ++ [fx [59]]))) := by simp
 rw [this, tks_nm, zj, zo, zj, zV, zj, zV, zo, zj, zv]
theorem tm_4 (n : Nat) (a : Int) (v th el : Tr) : tm n (st 4 a [] .nil v th el) = tk [105, 102] :: (tk [40] :: (te v ++ (tk [41] :: tk [123] :: (ts n th ++ (tk [125] :: (if isCe el then [] else tk [101, 108, 115, 101] :: tk [123] :: (ts n el ++ [tk [125]]))))))) := by
 unfold tm
 rw [pcM_4]
 show tks (fx [105, 102] :: bl 32 :: (condP v ++ (pcB n th ++ _))) = _
 rw [zj, zV, zo, zo, tc_eq, tb_eq]
 split
 ·simp [zv]
 ·have e : tks ([bl 32, fx [101, 108, 115, 101]] ++ pcB n el) = tk [101, 108, 115, 101] :: tk [123] :: (ts n el ++ [tk [125]]) := by
   show tks (bl 32 :: fx [101, 108, 115, 101] :: pcB n el) = _
   rw [zV, zj, tb_eq]
  rw [e]
  simp
theorem tm_5 (n : Nat) (a : Int) (v th : Tr) : tm n (st 5 a [] .nil v th ce) = tk [119, 104, 105, 108, 101] :: (tk [40] :: (te v ++ (tk [41] :: tk [123] :: (ts n th ++ [tk [125]])))) := by
 unfold tm
 rw [pcM_5]
 show tks (fx _ :: bl 32 :: (condP v ++ pcB n th)) = _
 rw [zj, zV, zo, tc_eq, tb_eq]
 simp
theorem tm_6 (n : Nat) (a : Int) (v : Tr) : tm n (st 6 a [] .nil v ce ce) = tk [114, 101, 116, 117, 114, 110] :: (te v ++ [tk [59]]) := by
 unfold tm
 rw [pcM_o _ _ _ _ _ _ _ _ (by decide) (by decide), show jc 6 [] .nil = [fx [114, 101, 116, 117, 114, 110], bl 32] by simp [jc]]
 show tks (fx _ :: bl 32 :: (pcE v ++ [fx [59]])) = _
 rw [zj, zV, zo, zj, zv]
theorem tm_7 (n : Nat) (a : Int) (v : Tr) : tm n (st 7 a [] .nil v ce ce) = tk [112, 114, 105, 110, 116] :: (te v ++ [tk [59]]) := by
 unfold tm
 rw [pcM_o _ _ _ _ _ _ _ _ (by decide) (by decide), show jc 7 [] .nil = [fx [112, 114, 105, 110, 116], bl 32] by simp [jc]]
 show tks (fx _ :: bl 32 :: (pcE v ++ [fx [59]])) = _
 rw [zj, zV, zo, zj, zv]
theorem tm_8 (n : Nat) (a b : Int) (nm : By) (xs : List Tr) : tm n (st 8 a [] .nil (nd 5 b 0 nm [] .nil .nil (chain xs)) ce ce) = nt nm :: tk [40] :: (te (chain xs) ++ (tk [41] :: [tk [59]])) := by
 unfold tm
 rw [pcM_o _ _ _ _ _ _ _ _ (by decide) (by decide), show jc 8 [] .nil = [] by simp [jc], pc_5]
 simp only [List.nil_append, List.cons_append]
 rw [tks_nm, zj, zo, zo, zj, zj, zv]
 simp
theorem read_b {d : Nat} {v : Tr} (h : REx d v) : BX 1 (te v) (er v) d := by
 obtain ⟨e, h⟩ := h
 exact (read_x e d v h).b 1 (by omega) (holds_pos h)
theorem off_t {x : By} (l : List Tok) (h1 : x ≠ [91]) (h2 : x ≠ [40]) : Off (tk x :: l) := ⟨h1, h2⟩
theorem expr_r {v : Tr} (h : REx 0 v) (rest : List Tok) : zU (te v ++ (tk [59] :: rest)) = .ok (er v, tk [59] :: rest) :=
 read_b h _ _ (by show zi [59] < 1; decide) (off_t _ (by decide) (by decide)) (by unfold ef; simp; omega)
theorem held_r {v : Tr} (h : REx 1 v) (rest : List Tok) : qC (tk [40] :: (te v ++ (tk [41] :: rest))) = .ok (er v, rest) :=
 held_x (d := 0) (read_b h) _ _ (by unfold ef; simp; omega)
theorem idx_r {v : Tr} (h : REx 1 v) (rest : List Tok) : idxV (te v ++ (tk [93] :: rest)) = .ok (er v, rest) :=
 idx_x (d := 0) (read_b h) _ _ (by unfold ef; simp; omega)
theorem args_r {xs : List Tr} {e : Nat} (h : ∀ x ∈ xs, RE e 1 x) (rest : List Tok) : argsV (te (chain xs) ++ (tk [41] :: rest)) = .ok (er (chain xs), rest) := by
 unfold argsV argV
 cases xs with
 | nil =>
  have e3 : te (chain []) = [] := by show tks (pcE ce) = []; rw [pc_ce]; rfl
  rw [e3, List.nil_append, if_pos (by rfl), show chain [] = ce from rfl, zE]
  rfl
 | cons x xs =>
  rw [if_neg (chain_te (h x (by simp)) _)]
  exact args_x (d := 0) (x :: xs) (by simp) (fun z hz => read_b ⟨e, h z hz⟩) _ _ (by unfold ef; simp; omega)
theorem name_r {nm : By} (h : Nam nm) (rest : List Tok) : zI (nt nm :: rest) = .ok (nm, rest) := by
 unfold zI
 rw [if_neg (by show ¬ (0 : Nat) ≠ 0; decide), if_neg (by show ¬ 12 < nm.length; have := h.2.2.2.2; omega)]
 rfl
theorem tm_first : ∀ (f d n : Nat) (t : Tr), RS f d t → ∃ x q, tm n t = x :: q ∧ x.t ≠ [125] ∧ x.t ≠ [101, 108, 115, 101] ∧ x.t ≠ [] ∧ x.p = 0
 | 0, _, _, _, h => h.elim
 | f + 1, d, n, t, h => by
  have hnam : ∀ nm, Nam nm → nm ≠ [125] ∧ nm ≠ [101, 108, 115, 101] ∧ nm ≠ [] := fun nm hn => by
   refine ⟨al_not 125 hn.2.1 rfl (by decide), fun e => ?_, hn.1⟩
   have := hn.2.2.2.1
   rw [e] at this
   revert this
   decide
  rw [RS] at h
  rcases h with ⟨a, nm, v, hn, hv, rfl⟩ | ⟨a, nm, v, hn, hv, rfl⟩ | ⟨a, nm, i, v, hn, hi, hv, rfl⟩ | ⟨a, v, xs, ys, h1, hv, h3, h4, rfl⟩ | ⟨a, v, xs, h1, hv, h3, rfl⟩ | ⟨a, v, hv, rfl⟩ | ⟨a, v, hv, rfl⟩ | ⟨a, b, nm, xs, hn, hx, rfl⟩
  ·exact ⟨_, _, tm_1 n a nm v, by decide, by decide, by decide, rfl⟩
  ·exact ⟨_, _, tm_2 n a nm v, (hnam nm hn).1, (hnam nm hn).2.1, (hnam nm hn).2.2, rfl⟩
  ·exact ⟨_, _, tm_3 n a nm i v, (hnam nm hn).1, (hnam nm hn).2.1, (hnam nm hn).2.2, rfl⟩
  ·exact ⟨_, _, tm_4 n a v _ _, by decide, by decide, by decide, rfl⟩
  ·exact ⟨_, _, tm_5 n a v _, by decide, by decide, by decide, rfl⟩
  ·exact ⟨_, _, tm_6 n a v, by decide, by decide, by decide, rfl⟩
  ·exact ⟨_, _, tm_7 n a v, by decide, by decide, by decide, rfl⟩
  ·exact ⟨_, _, tm_8 n a b nm xs, (hnam nm hn).1, (hnam nm hn).2.1, (hnam nm hn).2.2, rfl⟩
theorem rs_st {f d : Nat} {x : Tr} (hx : RS f d x) : ∃ c a nm ix v th el, x = st c a nm ix v th el := by
 cases f with
 | zero => exact hx.elim
 | succ f =>
  rw [RS] at hx
  rcases hx with ⟨a, nm, v, _, _, e⟩ | ⟨a, nm, v, _, _, e⟩ | ⟨a, nm, i, v, _, _, _, e⟩ | ⟨a, v, xs, ys, h1, h2, h3, h4, e⟩ | ⟨a, v, xs, h1, h2, h3, e⟩ | ⟨a, v, _, e⟩ | ⟨a, v, _, e⟩ | ⟨a, b, nm, xs, _, _, e⟩ <;> exact ⟨_, _, _, _, _, _, _, e⟩
theorem ts_cc {f d : Nat} {x : Tr} (hx : RS f d x) (n : Nat) (g : Tr) : ts n (cc x g) = tm (n + 2) x ++ ts n g := by
 obtain ⟨c, a, nm, ix, v, th, el, rfl⟩ := rs_st hx
 exact ts_cons n c a nm ix v th el g
def StX (f d : Nat) (t : Tr) : Prop := ∀ n F rest, (hd rest).t ≠ [101, 108, 115, 101] → 3 * (tm n t).length + 1 ≤ F → stV F 2 d (tm n t ++ rest) = .ok (er t, rest)
theorem loop_x {f d : Nat} (n : Nat) (ih : ∀ t, RS f (d + 1) t → StX f (d + 1) t) : ∀ (xs : List Tr), (∀ x ∈ xs, RS f (d + 1) x) → ∀ F rest, 3 * (ts n (chain xs)).length + 2 ≤ F → stV F 1 d (ts n (chain xs) ++ (tk [125] :: rest)) = .ok (er (chain xs), rest)
 | [], _, F, rest, hF => by
  obtain ⟨G, rfl⟩ : ∃ G, F = G + 1 := ⟨F - 1, by omega⟩
  rw [show chain [] = ce from rfl, ts_ce, List.nil_append, stV, if_pos (by rfl), zE]
  rfl
 | x :: xs, h, F, rest, hF => by
  have hx := h x (by simp)
  rw [show chain (x :: xs) = cc x (chain xs) from rfl, ts_cc hx] at hF ⊢
  obtain ⟨y, q, e1, e2, e3, e4, e5⟩ := tm_first f _ (n + 2) x hx
  have hlen : 1 ≤ (tm (n + 2) x).length := by rw [e1]; simp
  simp only [List.length_append] at hF
  obtain ⟨G, rfl⟩ : ∃ G, F = G + 1 := ⟨F - 1, by omega⟩
  have hh : (hd (tm (n + 2) x ++ (ts n (chain xs) ++ (tk [125] :: rest)))).t ≠ [125] := by rw [e1]; exact e2
  have hnx : (hd (ts n (chain xs) ++ (tk [125] :: rest))).t ≠ [101, 108, 115, 101] := by
   cases xs with
   | nil =>
    rw [show chain [] = ce from rfl, ts_ce]
    show ([125] : By) ≠ _
    decide
   | cons z xs =>
    obtain ⟨y2, q2, f1, f2, f3, _⟩ := tm_first f _ (n + 2) z (h z (by simp))
    rw [show chain (z :: xs) = cc z (chain xs) from rfl, ts_cc (h z (by simp)), f1]
    exact f3
  rw [List.append_assoc, stV, if_neg hh, ih x hx (n + 2) G _ hnx (by omega), zh, loop_x n ih xs (fun z hz => h z (by simp [hz])) G rest (by omega), zh, er_cc]
theorem block_x {f d : Nat} (n : Nat) (ih : ∀ t, RS f (d + 1) t → StX f (d + 1) t) (hd' : d ≤ 12) (xs : List Tr) (h : ∀ x ∈ xs, RS f (d + 1) x) (F : Nat) (rest : List Tok) (hF : 3 * (ts n (chain xs)).length + 3 ≤ F) : stV F 0 d (tk [123] :: (ts n (chain xs) ++ (tk [125] :: rest))) = .ok (er (chain xs), rest) := by
 obtain ⟨G, rfl⟩ : ∃ G, F = G + 1 := ⟨F - 1, by omega⟩
 rw [stV, bound_le hd', zh, zX, zh]
 exact loop_x n ih xs h G rest (by omega)
theorem st_x : ∀ (f d : Nat) (t : Tr), RS f d t → StX f d t
 | 0, _, _, h => h.elim
 | f + 1, d, t, h => by
  have IB : ∀ (n d : Nat) (xs : List Tr), d ≤ 12 → (∀ x ∈ xs, RS f (d + 1) x) → ∀ F rest, 3 * (ts n (chain xs)).length + 3 ≤ F → stV F 0 d (tk [123] :: (ts n (chain xs) ++ (tk [125] :: rest))) = .ok (er (chain xs), rest) := fun n d xs hd' h F rest hF => block_x n (fun t ht => st_x f _ t ht) hd' xs h F rest hF
  intro n F rest hr hF
  obtain ⟨G, rfl⟩ : ∃ G, F = G + 1 := ⟨F - 1, by omega⟩
  rw [RS] at h
  rcases h with ⟨a, nm, v, hn, hv, rfl⟩ | ⟨a, nm, v, hn, hv, rfl⟩ | ⟨a, nm, i, v, hn, hi, hv, rfl⟩ | ⟨a, v, xs, ys, h1, hv, h3, h4, rfl⟩ | ⟨a, v, xs, h1, hv, h3, rfl⟩ | ⟨a, v, hv, rfl⟩ | ⟨a, v, hv, rfl⟩ | ⟨a, b, nm, xs, hn, ⟨e, hx⟩, rfl⟩
  ·have e1 : tm n (st 1 a nm .nil v ce ce) ++ rest = tk [118, 97, 114] :: nt nm :: tk [61] :: (te v ++ (tk [59] :: rest)) := by rw [tm_1]; simp
   rw [e1, stV, if_neg (by show ¬ (1 : Nat) = 0; decide), if_pos (by rfl)]
   show bnd (zI (nt nm :: tk [61] :: (te v ++ (tk [59] :: rest)))) _ = _
   rw [name_r hn, zh, zX, zh, expr_r hv, zh, zX, zh, er_st, zp, zE]
   rfl
  ·have e1 : tm n (st 2 a nm .nil v ce ce) ++ rest = nt nm :: tk [61] :: (te v ++ (tk [59] :: rest)) := by rw [tm_2]; simp
   rw [e1, stV, if_pos (by rfl)]
   unfold zQ
   rw [name_r hn, zh, if_neg (by show ¬ ([61] : By) = [40]; decide), if_neg (by show ¬ ([61] : By) = [91]; decide), zX, zh, expr_r hv, zh, zh, zX, zh, er_st, zp, zE]
   rfl
  ·have e1 : tm n (st 3 a nm i v ce ce) ++ rest = nt nm :: tk [91] :: (te i ++ (tk [93] :: tk [61] :: (te v ++ (tk [59] :: rest)))) := by rw [tm_3]; simp
   rw [e1, stV, if_pos (by rfl)]
   unfold zQ
   rw [name_r hn, zh, if_neg (by show ¬ ([91] : By) = [40]; decide), if_pos (by rfl)]
   show bnd (bnd (idxV (te i ++ (tk [93] :: tk [61] :: (te v ++ (tk [59] :: rest))))) _) _ = _
   rw [idx_r hi, zh, zX, zh, expr_r hv, zh, zh, zX, zh, er_st, zE]
   rfl
  ·cases hce : isCe (chain ys) with
   | true =>
    have e1 : tm n (st 4 a [] .nil v (chain xs) (chain ys)) ++ rest = tk [105, 102] :: (tk [40] :: (te v ++ (tk [41] :: tk [123] :: (ts n (chain xs) ++ (tk [125] :: rest))))) := by rw [tm_4, hce]; simp
    have hl : (tm n (st 4 a [] .nil v (chain xs) (chain ys))).length = (te v).length + (ts n (chain xs)).length + 5 := by rw [tm_4, hce]; simp; omega
    have hys : ys = [] := by
     cases ys with
     | nil => rfl
     | cons y ys => simp [isCe, chain] at hce
    rw [e1, stV, if_neg (by show ¬ (1 : Nat) = 0; decide), if_neg (by show ¬ ([105, 102] : By) = _; decide), if_neg (by show ¬ ([105, 102] : By) = _; decide), if_neg (by show ¬ ([105, 102] : By) = _; decide), if_pos (by rfl)]
    show bnd (qC (tk [40] :: (te v ++ (tk [41] :: tk [123] :: (ts n (chain xs) ++ (tk [125] :: rest)))))) _ = _
    rw [held_r hv, zh, IB n d xs h1 h3 G rest (by omega), zh, if_neg hr, er_st, zp, hys, show chain [] = ce from rfl, zE]
    rfl
   | false =>
    have e1 : tm n (st 4 a [] .nil v (chain xs) (chain ys)) ++ rest = tk [105, 102] :: (tk [40] :: (te v ++ (tk [41] :: tk [123] :: (ts n (chain xs) ++ (tk [125] :: tk [101, 108, 115, 101] :: tk [123] :: (ts n (chain ys) ++ (tk [125] :: rest))))))) := by rw [tm_4, hce]; simp
    have hl : (tm n (st 4 a [] .nil v (chain xs) (chain ys))).length = (te v).length + (ts n (chain xs)).length + (ts n (chain ys)).length + 8 := by rw [tm_4, hce]; simp; omega
    rw [e1, stV, if_neg (by show ¬ (1 : Nat) = 0; decide), if_neg (by show ¬ ([105, 102] : By) = _; decide), if_neg (by show ¬ ([105, 102] : By) = _; decide), if_neg (by show ¬ ([105, 102] : By) = _; decide), if_pos (by rfl)]
    show bnd (qC (tk [40] :: (te v ++ (tk [41] :: tk [123] :: (ts n (chain xs) ++ (tk [125] :: tk [101, 108, 115, 101] :: tk [123] :: (ts n (chain ys) ++ (tk [125] :: rest)))))))) _ = _
    rw [held_r hv, zh, IB n d xs h1 h3 G _ (by omega), zh, if_pos (by rfl)]
    show bnd (stV G 0 d (tk [123] :: (ts n (chain ys) ++ (tk [125] :: rest)))) _ = _
    rw [IB n d ys h1 h4 G rest (by omega), zh, er_st, zp]
    rfl
  ·have e1 : tm n (st 5 a [] .nil v (chain xs) ce) ++ rest = tk [119, 104, 105, 108, 101] :: (tk [40] :: (te v ++ (tk [41] :: tk [123] :: (ts n (chain xs) ++ (tk [125] :: rest))))) := by rw [tm_5]; simp
   have hl : (tm n (st 5 a [] .nil v (chain xs) ce)).length = (te v).length + (ts n (chain xs)).length + 5 := by rw [tm_5]; simp; omega
   rw [e1, stV, if_neg (by show ¬ (1 : Nat) = 0; decide), if_neg (by show ¬ ([119, 104, 105, 108, 101] : By) = _; decide), if_neg (by show ¬ ([119, 104, 105, 108, 101] : By) = _; decide), if_neg (by show ¬ ([119, 104, 105, 108, 101] : By) = _; decide), if_neg (by show ¬ ([119, 104, 105, 108, 101] : By) = _; decide), if_pos (by rfl)]
   show bnd (qC (tk [40] :: (te v ++ (tk [41] :: tk [123] :: (ts n (chain xs) ++ (tk [125] :: rest)))))) _ = _
   rw [held_r hv, zh, IB n d xs h1 h3 G rest (by omega), zh, er_st, zp, zE]
   rfl
  ·have e1 : tm n (st 6 a [] .nil v ce ce) ++ rest = tk [114, 101, 116, 117, 114, 110] :: (te v ++ (tk [59] :: rest)) := by rw [tm_6]; simp
   rw [e1, stV, if_neg (by show ¬ (1 : Nat) = 0; decide), if_neg (by show ¬ ([114, 101, 116, 117, 114, 110] : By) = _; decide), if_pos (by rfl)]
   show bnd (zU (te v ++ (tk [59] :: rest))) _ = _
   rw [expr_r hv, zh, zX, zh, er_st, zp, zE]
   rfl
  ·have e1 : tm n (st 7 a [] .nil v ce ce) ++ rest = tk [112, 114, 105, 110, 116] :: (te v ++ (tk [59] :: rest)) := by rw [tm_7]; simp
   rw [e1, stV, if_neg (by show ¬ (1 : Nat) = 0; decide), if_neg (by show ¬ ([112, 114, 105, 110, 116] : By) = _; decide), if_neg (by show ¬ ([112, 114, 105, 110, 116] : By) = _; decide), if_pos (by rfl)]
   show bnd (zU (te v ++ (tk [59] :: rest))) _ = _
   rw [expr_r hv, zh, zX, zh, er_st, zp, zE]
   rfl
  ·have e1 : tm n (st 8 a [] .nil (nd 5 b 0 nm [] .nil .nil (chain xs)) ce ce) ++ rest = nt nm :: tk [40] :: (te (chain xs) ++ (tk [41] :: tk [59] :: rest)) := by rw [tm_8]; simp
   rw [e1, stV, if_pos (by rfl)]
   unfold zQ
   rw [name_r hn, zh, if_pos (by rfl)]
   show bnd (bnd (argsV (te (chain xs) ++ (tk [41] :: tk [59] :: rest))) _) _ = _
   rw [args_r hx, zh, zh, zX, zh, er_st, zp, zE, qS, zp]
   rfl
end Go.Proofs.YtnfhpdbbfejioaaGreatDoor
