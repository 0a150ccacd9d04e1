/- XD XE XF XG VM -/
import Derived.Test.YtnfhpdbbfejioaaGreatDoorE15
namespace Go.Proofs.YtnfhpdbbfejioaaGreatDoor
set_option linter.unusedVariables false
set_option linter.unusedSimpArgs false
open Go
def TkOk (l : List Tok) : Prop := ∀ x ∈ l, (x.k = 0 → x.t.length ≤ 12 → Nam x.t) ∧ (x.k = 2 → Dig x.t) ∧ (x.k = 3 → x.t = [])
theorem TkOk.tail {l : List Tok} (h : TkOk l) : TkOk l.tail := fun x hx => h x (List.mem_of_mem_tail hx)
theorem TkOk.hd {l : List Tok} (h : TkOk l) : ((hd l).k = 0 → (hd l).t.length ≤ 12 → Nam (hd l).t) ∧ ((hd l).k = 2 → Dig (hd l).t) ∧ ((hd l).k = 3 → (hd l).t = []) := by
 cases l with
 | nil => exact ⟨fun e => (by cases e), fun e => (by cases e), fun _ => rfl⟩
 | cons x l => exact h x (by simp)
theorem qz {l : List Tok} (h : (hd l).t ≠ []) : l.tail.length + 1 = l.length := by
 cases l with
 | nil => exact absurd rfl h
 | cons x l => simp
theorem tl_kind {l : List Tok} (h : TkOk l) (hk : (hd l).k = 0 ∨ (hd l).k = 2) : l.tail.length + 1 = l.length := by
 cases l with
 | nil => rcases hk with e | e <;> cases e
 | cons x l => simp
theorem up_mono {t : Tr} {k k' : Nat} (h : k ≤ k') : up t k ≤ up t k' := by
 unfold up
 split <;> split <;> omega
theorem up_one (t : Tr) (k : Nat) : up t k ≤ 1 := by
 unfold up
 split <;> omega
theorem hk_len (t : Tr) (k : Nat) : (hk t k).length = (te t).length + 2 * up t k := by
 rw [hk_eq]
 unfold up
 split
 ·omega
 ·simp only [List.length_cons, List.length_append, List.length_nil]
def RL (lv d : Nat) (t : Tr) (n m : Nat) : Prop := (∃ e, RE e (d + up t lv) t) ∧ (hk t lv).length + n ≤ m
theorem RL.low {lv lv' d n m : Nat} {t : Tr} (h : RL lv' d t n m) (hl : lv ≤ lv') : RL lv d t n m := by
 obtain ⟨⟨e, h1⟩, h2⟩ := h
 have := up_mono (t := t) hl
 rw [hk_len] at h2
 exact ⟨⟨e, qK _ _ _ _ _ (Nat.le_refl _) (by omega) h1⟩, by rw [hk_len]; omega⟩
def ExR (g lv d : Nat) (x : Tr) (l : List Tok) (t : Tr) (l' : List Tok) : Prop := TkOk l' ∧
 (if g = 0 then RL lv d t l'.length l.length
  else if g = 1 then RL lv d t l'.length (l.length + (hk x lv).length)
  else if g = 2 then RL 7 d t l'.length l.length
  else if g = 3 then RL 8 d t l'.length (l.length + (hk x 8).length)
  else if g = 4 then RL 8 d t l'.length l.length
  else if g = 5 then (∃ e, RE e (d + 1) t) ∧ (te t).length + 2 + l'.length ≤ l.length
  else if g = 6 then (∃ e, RE e (d + 1) t) ∧ (te t).length + 1 + l'.length ≤ l.length
  else ∃ xs, xs ≠ [] ∧ t = chain xs ∧ (∃ e, ∀ x ∈ xs, RE e (d + 1) x) ∧ (te t).length + 1 + l'.length ≤ l.length)
def lev (g lv : Nat) : Nat := if g = 1 then lv else 8
theorem te_3 (a : Int) (op : By) (l r : Tr) : (te (nd 3 a 0 [] op l r ce)).length = (hk l (zE op)).length + 1 + (hk r (zE op + 1)).length := by
 unfold te hk
 rw [pc_3, zx, zx, zT, zn, zT, zG]
 simp
 omega
theorem te_8 (a : Int) (l r : Tr) : (te (nd 8 a 0 [] [] l r ce)).length = (hk l 8).length + 2 + (te r).length := by
 unfold te hk
 rw [pc_8, zx, zn, zx, zn, zG]
 simp
 omega
theorem up_0 {t : Tr} {k : Nat} (h : k ≤ holdsV t) : up t k = 0 := if_pos h
set_option maxHeartbeats 1000000 in
theorem qM : ∀ (f g lv d : Nat) (x : Tr) (p : Nat) (l : List Tok) (t : Tr) (l' : List Tok), (g ≤ 1 → 1 ≤ lv ∧ lv ≤ 7) → (g = 1 ∨ g = 3 → ∃ e, RE e (d + up x (lev g lv)) x) → (g = 4 → 12 < d → (hd l).k = 3) → TkOk l → exV f g lv d x p l = .ok (t, l') → ExR g lv d x l t l'
 | 0, _, _, _, _, _, _, _, _, _, _, _, _, h => by simp [exV] at h
 | f + 1, 0, lv, d, x, p, l, t, l', hv, hx, hb, hT, h => by
  show TkOk l' ∧ RL lv d t l'.length l.length
  obtain ⟨v1, v7⟩ := hv (by omega)
  rw [exV] at h
  split at h
  ·obtain rfl : lv = 7 := by omega
   exact qM f 2 0 d .nil 0 l t l' (fun h => by omega) (fun h => by omega) (fun h => by omega) hT h
  ·obtain ⟨y, l1, h1, h2⟩ := za h
   obtain ⟨T1, r1⟩ : TkOk l1 ∧ RL (lv + 1) d y l1.length l.length := qM f 0 (lv + 1) d .nil 0 l y l1 (fun _ => ⟨by omega, by omega⟩) (fun h => by omega) (fun h => by omega) hT h1
   have r1' := r1.low (Nat.le_succ lv)
   obtain ⟨T2, r2, r3⟩ : TkOk l' ∧ RL lv d t l'.length (l1.length + (hk y lv).length) := qM f 1 lv d y _ l1 t l' (fun _ => ⟨v1, v7⟩) (fun _ => r1'.1) (fun h => by omega) T1 h2
   exact ⟨T2, r2, by have := r1'.2; omega⟩
 | f + 1, 1, lv, d, x, p, l, t, l', hv, hx, hb, hT, h => by
  show TkOk l' ∧ RL lv d t l'.length (l.length + (hk x lv).length)
  obtain ⟨v1, v7⟩ := hv (by omega)
  obtain ⟨e, hre⟩ := hx (.inl rfl)
  rw [show lev 1 lv = lv from rfl] at hre
  rw [exV] at h
  split at h
  ·rename_i hn
   have hm := near_mark (m := (hd l).t) (by omega)
   have hne : (hd l).t ≠ [] := fun e => by rw [e] at hn; rw [← hn] at v1; revert v1; decide
   have htl := qz hne
   obtain ⟨y, l1, h1, h2⟩ := za h
   obtain ⟨T1, ⟨e1, r1⟩, r1'⟩ : TkOk l1 ∧ RL (lv + 1) d y l1.length l.tail.length := qM f 0 (lv + 1) d .nil 0 l.tail y l1 (fun _ => ⟨by omega, by omega⟩) (fun h => by omega) (fun h => by omega) hT.tail h1
   have hh : holdsV (nd 3 p 0 [] (hd l).t x y ce) = lv := by rw [holds_3, hn]
   have hnode : RE (max e e1 + 1) (d + up (nd 3 p 0 [] (hd l).t x y ce) lv) (nd 3 p 0 [] (hd l).t x y ce) := by
    rw [up_0 (by omega), RE]
    refine ⟨by have := re_le hre; omega, .inr (.inr (.inl ⟨_, _, _, _, by omega, ?_, ?_, rfl⟩))⟩
    ·rw [hn]
     exact qK _ _ _ _ _ (Nat.le_max_left _ _) (by omega) hre
    ·rw [hn]
     exact qK _ _ _ _ _ (Nat.le_max_right _ _) (by omega) r1
   obtain ⟨T2, r2, r3⟩ : TkOk l' ∧ RL lv d t l'.length (l1.length + (hk (nd 3 p 0 [] (hd l).t x y ce) lv).length) := qM f 1 lv d _ p l1 t l' (fun _ => ⟨v1, v7⟩) (fun _ => ⟨_, hnode⟩) (fun h => by omega) T1 h2
   refine ⟨T2, r2, ?_⟩
   have e3 := te_3 p (hd l).t x y
   rw [hn] at e3
   have e4 := hk_len (nd 3 p 0 [] (hd l).t x y ce) lv
   rw [up_0 (by omega), e3] at e4
   omega
  ·obtain ⟨rfl, rfl⟩ := zj h
   exact ⟨hT, ⟨e, hre⟩, by omega⟩
 | f + 1, 2, lv, d, x, p, l, t, l', hv, hx, hb, hT, h => by
  show TkOk l' ∧ RL 7 d t l'.length l.length
  rw [exV] at h
  obtain ⟨_, _, hbo, h⟩ := za h
  split at h
  ·rename_i hn
   obtain ⟨y, l1, h1, h2⟩ := za h
   have htl := qz (l := l) (by rcases hn with e | e <;> rw [e] <;> simp)
   obtain ⟨T1, ⟨e1, r1⟩, r1'⟩ : TkOk l1 ∧ RL 7 (d + 1) y l1.length l.tail.length := qM f 2 0 (d + 1) .nil 0 l.tail y l1 (fun h => by omega) (fun h => by omega) (fun h => by omega) hT.tail h1
   obtain ⟨rfl, rfl⟩ := zj h2
   refine ⟨T1, ⟨e1 + 1, ?_⟩, ?_⟩
   ·rw [up_0 (by rw [holds_4]; omega), RE]
    exact ⟨by have := re_le r1; omega, .inr (.inr (.inr (.inl ⟨_, _, _, hn, r1, rfl⟩)))⟩
   ·rw [hk_len, up_0 (by rw [holds_4]; omega)]
    have : (te (nd 4 (hd l).p 0 [] (hd l).t y .nil ce)).length = (hk y 7).length + 1 := by
     unfold te hk
     rw [pc_4, zn]
     simp
    omega
  ·obtain ⟨y, l1, h1, h2⟩ := za h
   obtain ⟨T1, r1⟩ : TkOk l1 ∧ RL 8 d y l1.length l.length := qM f 4 0 d .nil 0 l y l1 (fun h => by omega) (fun h => by omega) (fun _ h12 => by
    unfold boundV at hbo
    split at hbo
    ·cases hbo
    ·rename_i hno
     rcases Nat.decEq (hd l).k 3 with hk | hk
     ·exact absurd ⟨h12, hk⟩ hno
     ·exact hk) hT h1
   obtain ⟨T2, r2, r3⟩ : TkOk l' ∧ RL 8 d t l'.length (l1.length + (hk y 8).length) := qM f 3 0 d y _ l1 t l' (fun h => by omega) (fun _ => r1.1) (fun h => by omega) T1 h2
   exact ⟨T2, RL.low ⟨r2, by have := r1.2; omega⟩ (by omega)⟩
 | f + 1, 3, lv, d, x, p, l, t, l', hv, hx, hb, hT, h => by
  show TkOk l' ∧ RL 8 d t l'.length (l.length + (hk x 8).length)
  obtain ⟨e, hre⟩ := hx (.inr rfl)
  rw [show lev 3 lv = 8 from rfl] at hre
  rw [exV] at h
  split at h
  ·rename_i hn
   have htl := qz (l := l) (by rw [hn]; simp)
   obtain ⟨y, l1, h1, h2⟩ := za h
   obtain ⟨T1, ⟨e1, r1⟩, r1'⟩ : TkOk l1 ∧ (∃ e, RE e (d + 1) y) ∧ (te y).length + 1 + l1.length ≤ l.tail.length := qM f 6 0 d .nil 0 l.tail y l1 (fun h => by omega) (fun h => by omega) (fun h => by omega) hT.tail h1
   have hh : holdsV (nd 8 p 0 [] [] x y ce) = 8 := holds_8 _ _ _ _ _ _ _ (by decide) (by decide)
   have hnode : RE (max e e1 + 1) (d + up (nd 8 p 0 [] [] x y ce) 8) (nd 8 p 0 [] [] x y ce) := by
    rw [up_0 (by omega), RE]
    exact ⟨by have := re_le hre; omega, .inr (.inr (.inr (.inr (.inr (.inr (.inr (.inl ⟨_, _, _, qK _ _ _ _ _ (Nat.le_max_left _ _) (by omega) hre, qK _ _ _ _ _ (Nat.le_max_right _ _) (by omega) r1, rfl⟩)))))))⟩
   obtain ⟨T2, r2, r3⟩ : TkOk l' ∧ RL 8 d t l'.length (l1.length + (hk (nd 8 p 0 [] [] x y ce) 8).length) := qM f 3 0 d _ p l1 t l' (fun h => by omega) (fun _ => ⟨_, hnode⟩) (fun h => by omega) T1 h2
   refine ⟨T2, r2, ?_⟩
   have e3 := te_8 p x y
   have e4 := hk_len (nd 8 p 0 [] [] x y ce) 8
   rw [up_0 (by omega), e3] at e4
   omega
  ·obtain ⟨rfl, rfl⟩ := zj h
   exact ⟨hT, ⟨e, hre⟩, by omega⟩
 | f + 1, 4, lv, d, x, p, l, t, l', hv, hx, hb, hT, h => by
  show TkOk l' ∧ RL 8 d t l'.length l.length
  have leafRL : ∀ (t : Tr) (n m : Nat), holdsV t = 8 → (∃ e, RE e d t) → (te t).length + n ≤ m → RL 8 d t n m := fun t n m h8 ⟨e, hr⟩ hl => ⟨⟨e, by rw [up_0 (by omega)]; exact hr⟩, by rw [hk_len, up_0 (by omega)]; omega⟩
  have hd12 : (hd l).k ≠ 3 → d ≤ 12 := fun hk => by
   rcases Nat.lt_or_ge 12 d with h12 | h12
   ·exact absurd (hb rfl h12) hk
   ·exact h12
  have hd12' : (hd l).t ≠ [] → d ≤ 12 := fun hn => hd12 fun e => hn (hT.hd.2.2 e)
  rw [exV] at h
  split at h
  ·rename_i hk
   obtain ⟨v, l1, h1, h2⟩ := za h
   obtain ⟨hp, rfl⟩ := num_ok h1
   have htl := tl_kind hT (.inr hk)
   have hdg := hT.hd.2.1 hk
   have hbd := Lib.parseIntB_bounds hp
   have e63 : ((2 ^ (64 - 1) : Nat) : Int) = 9223372036854775808 := by decide
   rw [e63] at hbd
   have hpos : 0 ≤ v := by
    cases hw : (hd l).t with
    | nil => exact absurd hw hdg.1
    | cons c r =>
     have hc : digs.contains c = true := hdg.2 c (by rw [hw]; simp)
     have hc45 : c.toNat ≠ 45 := fun e => by
      have : c = 45 := UInt8.toNat_inj.1 e
      rw [this] at hc
      revert hc
      decide
     rw [hw] at hp
     simp only [Lib.parseIntB] at hp
     split at hp
     ·cases hp
     ·cases hp
     ·rename_i u hu
      rw [if_neg (show ¬ c.toNat = 45 from hc45)] at hp
      split at hp
      ·cases hp
      ·split at hp
       ·cases hp
       ·injection hp with hp
        omega
   obtain ⟨rfl, rfl⟩ := zj h2
   refine ⟨hT.tail, leafRL _ _ _ (holds_8 _ _ _ _ _ _ _ (by decide) (by decide)) ⟨1, ?_⟩ ?_⟩
   ·rw [RE]
    exact ⟨hd12 (by omega), .inl ⟨_, _, hpos, by omega, rfl⟩⟩
   ·unfold te
    rw [pc_1, tks_nu, zG]
    simp
    omega
  split at h
  ·rename_i hk2 hk
   obtain ⟨nm, l1, h1, h2⟩ := za h
   obtain ⟨_, rfl, hn12, rfl⟩ := name_ok h1
   have htl := tl_kind hT (.inl hk)
   have hnam := hT.hd.1 hk hn12
   split at h2
   ·rename_i h40
    have htl2 := qz (l := l.tail) (by rw [h40]; simp)
    split at h2
    ·rename_i h41
     have htl3 := qz (l := l.tail.tail) (by rw [h41]; simp)
     obtain ⟨rfl, rfl⟩ := zj h2
     refine ⟨hT.tail.tail.tail, leafRL _ _ _ (holds_8 _ _ _ _ _ _ _ (by decide) (by decide)) ⟨1, ?_⟩ ?_⟩
     ·rw [RE]
      exact ⟨hd12 (by omega), .inr (.inr (.inr (.inr (.inl ⟨_, _, [], hnam, fun x hx => by simp at hx, rfl⟩))))⟩
     ·unfold te
      rw [pc_5, tks_nm, zn, pc_ce, List.nil_append, zn, zG]
      simp
      omega
    ·obtain ⟨gg, l2, h3, h4⟩ := za h2
     obtain ⟨T1, xs, hxs, rfl, ⟨e1, r1⟩, r2⟩ : TkOk l2 ∧ ∃ xs, xs ≠ [] ∧ gg = chain xs ∧ (∃ e, ∀ x ∈ xs, RE e (d + 1) x) ∧ (te gg).length + 1 + l2.length ≤ l.tail.tail.length := qM f 7 0 d ce 0 l.tail.tail gg l2 (fun h => by omega) (fun h => by omega) (fun h => by omega) hT.tail.tail h3
     obtain ⟨rfl, rfl⟩ := zj h4
     refine ⟨T1, leafRL _ _ _ (holds_8 _ _ _ _ _ _ _ (by decide) (by decide)) ⟨e1 + 1, ?_⟩ ?_⟩
     ·rw [RE]
      exact ⟨hd12 (by omega), .inr (.inr (.inr (.inr (.inl ⟨_, _, xs, hnam, r1, rfl⟩))))⟩
     ·have : (te (nd 5 (hd l).p 0 (hd l).t [] .nil .nil (chain xs))).length = (te (chain xs)).length + 3 := by
       unfold te
       rw [pc_5, tks_nm, zn, zx, zn, zG]
       simp
      omega
   ·obtain ⟨rfl, rfl⟩ := zj h2
    refine ⟨hT.tail, leafRL _ _ _ (holds_8 _ _ _ _ _ _ _ (by decide) (by decide)) ⟨1, ?_⟩ ?_⟩
    ·rw [RE]
     exact ⟨hd12 (by omega), .inr (.inl ⟨_, _, hnam, rfl⟩)⟩
    ·unfold te
     rw [pc_2, tks_nm, zG]
     simp
     omega
  split at h
  ·rename_i hn
   have htl := qz (l := l) (by rw [hn]; simp)
   obtain ⟨y, l1, h1, h2⟩ := za h
   obtain ⟨T1, ⟨e1, r1⟩, r1'⟩ : TkOk l1 ∧ (∃ e, RE e (d + 1) y) ∧ (te y).length + 2 + l1.length ≤ l.tail.length := qM f 5 0 d .nil 0 l.tail y l1 (fun h => by omega) (fun h => by omega) (fun h => by omega) hT.tail h1
   obtain ⟨rfl, rfl⟩ := zj h2
   refine ⟨T1, leafRL _ _ _ (holds_8 _ _ _ _ _ _ _ (by decide) (by decide)) ⟨e1 + 1, ?_⟩ ?_⟩
   ·rw [RE]
    exact ⟨hd12' (by rw [hn]; simp), .inr (.inr (.inr (.inr (.inr (.inl ⟨_, _, r1, rfl⟩)))))⟩
   ·have : (te (nd 6 (hd l).p 0 [] [] y .nil ce)).length = (te y).length + 3 := by
     unfold te
     rw [pc_6, zn, zn, zx, zn, zG]
     simp
    omega
  split at h
  ·rename_i hn
   have htl := qz (l := l) (by rw [hn]; simp)
   obtain ⟨y, l1, h1, h2⟩ := za h
   obtain ⟨T1, ⟨e1, r1⟩, r1'⟩ : TkOk l1 ∧ (∃ e, RE e (d + 1) y) ∧ (te y).length + 2 + l1.length ≤ l.tail.length := qM f 5 0 d .nil 0 l.tail y l1 (fun h => by omega) (fun h => by omega) (fun h => by omega) hT.tail h1
   obtain ⟨rfl, rfl⟩ := zj h2
   refine ⟨T1, leafRL _ _ _ (holds_8 _ _ _ _ _ _ _ (by decide) (by decide)) ⟨e1 + 1, ?_⟩ ?_⟩
   ·rw [RE]
    exact ⟨hd12' (by rw [hn]; simp), .inr (.inr (.inr (.inr (.inr (.inr (.inl ⟨_, _, r1, rfl⟩))))))⟩
   ·have : (te (nd 7 (hd l).p 0 [] [] y .nil ce)).length = (te y).length + 3 := by
     unfold te
     rw [pc_7, zn, zn, zx, zn, zG]
     simp
    omega
  split at h
  ·rename_i hn
   have htl := qz (l := l) (by rw [hn]; simp)
   obtain ⟨_, l1, h1, h⟩ := za h
   obtain ⟨n1, rfl⟩ := qk h1
   have htl1 := qz (l := l.tail) (by rw [n1]; simp)
   obtain ⟨_, l2, h2, h⟩ := za h
   obtain ⟨n2, rfl⟩ := qk h2
   have htl2 := qz (l := l.tail.tail) (by rw [n2]; simp)
   obtain ⟨rfl, rfl⟩ := zj h
   refine ⟨hT.tail.tail.tail, leafRL _ _ _ (holds_8 _ _ _ _ _ _ _ (by decide) (by decide)) ⟨1, ?_⟩ ?_⟩
   ·rw [RE]
    exact ⟨hd12' (by rw [hn]; simp), .inr (.inr (.inr (.inr (.inr (.inr (.inr (.inr ⟨_, rfl⟩)))))))⟩
   ·unfold te
    rw [pc_9, zn, zn, zn, zG]
    simp
    omega
  ·obtain ⟨T1, ⟨e1, r1⟩, r1'⟩ : TkOk l' ∧ (∃ e, RE e (d + 1) t) ∧ (te t).length + 2 + l'.length ≤ l.length := qM f 5 0 d .nil 0 l t l' (fun h => by omega) (fun h => by omega) (fun h => by omega) hT h
   have hu := up_one t 8
   exact ⟨T1, ⟨e1, qK _ _ _ _ _ (Nat.le_refl _) (by omega) r1⟩, by rw [hk_len]; omega⟩
 | f + 1, 5, lv, d, x, p, l, t, l', hv, hx, hb, hT, h => by
  show TkOk l' ∧ (∃ e, RE e (d + 1) t) ∧ (te t).length + 2 + l'.length ≤ l.length
  rw [exV] at h
  obtain ⟨_, l1, h1, h⟩ := za h
  obtain ⟨n1, rfl⟩ := qk h1
  have htl := qz (l := l) (by rw [n1]; simp)
  obtain ⟨y, l2, h2, h⟩ := za h
  obtain ⟨T1, ⟨e1, r1⟩, r1'⟩ : TkOk l2 ∧ RL 1 (d + 1) y l2.length l.tail.length := qM f 0 1 (d + 1) .nil 0 l.tail y l2 (fun _ => ⟨by omega, by omega⟩) (fun h => by omega) (fun h => by omega) hT.tail h2
  obtain ⟨_, l3, h3, h⟩ := za h
  obtain ⟨n2, rfl⟩ := qk h3
  have htl2 := qz (l := l2) (by rw [n2]; simp)
  obtain ⟨rfl, rfl⟩ := zj h
  rw [hk_len] at r1'
  exact ⟨T1.tail, ⟨e1, qK _ _ _ _ _ (Nat.le_refl _) (by omega) r1⟩, by omega⟩
 | f + 1, 6, lv, d, x, p, l, t, l', hv, hx, hb, hT, h => by
  show TkOk l' ∧ (∃ e, RE e (d + 1) t) ∧ (te t).length + 1 + l'.length ≤ l.length
  rw [exV] at h
  obtain ⟨y, l2, h2, h⟩ := za h
  obtain ⟨T1, ⟨e1, r1⟩, r1'⟩ : TkOk l2 ∧ RL 1 (d + 1) y l2.length l.length := qM f 0 1 (d + 1) .nil 0 l y l2 (fun _ => ⟨by omega, by omega⟩) (fun h => by omega) (fun h => by omega) hT h2
  obtain ⟨_, l3, h3, h⟩ := za h
  obtain ⟨n2, rfl⟩ := qk h3
  have htl2 := qz (l := l2) (by rw [n2]; simp)
  obtain ⟨rfl, rfl⟩ := zj h
  rw [hk_len] at r1'
  exact ⟨T1.tail, ⟨e1, qK _ _ _ _ _ (Nat.le_refl _) (by omega) r1⟩, by omega⟩
 | f + 1, 7, lv, d, x, p, l, t, l', hv, hx, hb, hT, h => by
  show TkOk l' ∧ ∃ xs, xs ≠ [] ∧ t = chain xs ∧ (∃ e, ∀ x ∈ xs, RE e (d + 1) x) ∧ (te t).length + 1 + l'.length ≤ l.length
  rw [exV] at h
  obtain ⟨y, l2, h2, h⟩ := za h
  obtain ⟨T1, ⟨e1, r1⟩, r1'⟩ : TkOk l2 ∧ RL 1 (d + 1) y l2.length l.length := qM f 0 1 (d + 1) .nil 0 l y l2 (fun _ => ⟨by omega, by omega⟩) (fun h => by omega) (fun h => by omega) hT h2
  rw [hk_len] at r1'
  split at h
  ·rename_i hn
   have htl := qz (l := l2) (by rw [hn]; simp)
   obtain ⟨gg, l4, h5, h⟩ := za h
   obtain ⟨T2, xs, hxs, rfl, ⟨e2, r2⟩, r2'⟩ : TkOk l4 ∧ ∃ xs, xs ≠ [] ∧ gg = chain xs ∧ (∃ e, ∀ x ∈ xs, RE e (d + 1) x) ∧ (te gg).length + 1 + l4.length ≤ l2.tail.length := qM f 7 0 d ce 0 l2.tail gg l4 (fun h => by omega) (fun h => by omega) (fun h => by omega) T1.tail h5
   obtain ⟨rfl, rfl⟩ := zj h
   refine ⟨T2, y :: xs, by simp, rfl, ⟨max e1 e2, fun z hz => ?_⟩, ?_⟩
   ·rcases List.mem_cons.1 hz with rfl | hz
    ·exact qK _ _ _ _ _ (Nat.le_max_left _ _) (by omega) r1
    ·exact qK _ _ _ _ _ (Nat.le_max_right _ _) (by omega) (r2 z hz)
   ·cases xs with
    | nil => exact absurd rfl hxs
    | cons z xs =>
     have := te_chain2 y z xs
     have e9 : (te (cc y (chain (z :: xs)))).length = (te y).length + 1 + (te (chain (z :: xs))).length := by
      rw [show cc y (chain (z :: xs)) = chain (y :: z :: xs) from rfl, this]
      simp
      omega
     omega
  ·obtain ⟨_, l3, h3, h⟩ := za h
   obtain ⟨n2, rfl⟩ := qk h3
   have htl2 := qz (l := l2) (by rw [n2]; simp)
   obtain ⟨rfl, rfl⟩ := zj h
   refine ⟨T1.tail, [y], by simp, rfl, ⟨e1, fun z hz => ?_⟩, ?_⟩
   ·rw [List.mem_singleton] at hz
    subst hz
    exact qK _ _ _ _ _ (Nat.le_refl _) (by omega) r1
   ·rw [show cc y ce = chain [y] from rfl, te_chain1]
    omega
 | f + 1, g + 8, lv, d, x, p, l, t, l', hv, hx, hb, hT, h => by simp [exV] at h
end Go.Proofs.YtnfhpdbbfejioaaGreatDoor
namespace Go.Proofs.YtnfhpdbbfejioaaGreatDoor
set_option linter.unusedVariables false
set_option linter.unusedSimpArgs false
open Go
def sp (n : Nat) : List Pc := List.replicate n (bl 32)
theorem tks_sp : ∀ (n : Nat) (q : List Pc), tks (sp n ++ q) = tks q
 | 0, q => rfl
 | n + 1, q => by
  show tks (bl 32 :: (sp n ++ q)) = _
  rw [zT, tks_sp n q]
def condP (v : Tr) : List Pc := fx [40] :: (pcE v ++ [fx [41]])
def headP (c : Int) (nm : By) (ix : Tr) : List Pc :=
 if c = 1 then [fx [118, 97, 114], bl 32, ⟨0, nm⟩, bl 32, fx [61], bl 32] else if c = 2 then [⟨0, nm⟩, bl 32, fx [61], bl 32] else if c = 3 then ⟨0, nm⟩ :: ((fx [91] :: (pcE ix ++ [fx [93]])) ++ [bl 32, fx [61], bl 32]) else if c = 6 then [fx [114, 101, 116, 117, 114, 110], bl 32] else if c = 7 then [fx [112, 114, 105, 110, 116], bl 32] else []
def pcS (n : Nat) : Tr → List Pc
 | .slice [.agg [.lit (.int _ c), .lit (.int _ _), .lit (.string nm), ix, v, th, el]] [g] =>
  sp (n + 2) ++ ((if c = 4 then [fx [105, 102], bl 32] ++ (condP v ++ (([bl 32, fx [123], bl 10] ++ (pcS (n + 2) th ++ (sp (n + 2) ++ [fx [125]]))) ++ (if isCe el then [] else [bl 32, fx [101, 108, 115, 101]] ++ ([bl 32, fx [123], bl 10] ++ (pcS (n + 2) el ++ (sp (n + 2) ++ [fx [125]]))))))
   else if c = 5 then [fx [119, 104, 105, 108, 101], bl 32] ++ (condP v ++ ([bl 32, fx [123], bl 10] ++ (pcS (n + 2) th ++ (sp (n + 2) ++ [fx [125]]))))
   else headP c nm ix ++ (pcE v ++ [fx [59]])) ++ ([bl 10] ++ pcS n g))
 | _ => []
def pcB (n : Nat) (g : Tr) : List Pc := [bl 32, fx [123], bl 10] ++ (pcS n g ++ (sp n ++ [fx [125]]))
def pcM (n : Nat) : Tr → List Pc
 | .agg [.lit (.int _ c), .lit (.int _ _), .lit (.string nm), ix, v, th, el] =>
  if c = 4 then [fx [105, 102], bl 32] ++ (condP v ++ (pcB n th ++ (if isCe el then [] else [bl 32, fx [101, 108, 115, 101]] ++ pcB n el)))
  else if c = 5 then [fx [119, 104, 105, 108, 101], bl 32] ++ (condP v ++ pcB n th)
  else headP c nm ix ++ (pcE v ++ [fx [59]])
 | _ => []
theorem pcS_cons (n : Nat) (c a : Int) (nm : By) (ix v th el g : Tr) : pcS n (cc (st c a nm ix v th el) g) = sp (n + 2) ++ (pcM (n + 2) (st c a nm ix v th el) ++ ([bl 10] ++ pcS n g)) := by
 rw [pcS]
 rfl
theorem pcS_ce (n : Nat) : pcS n ce = [] := by simp [pcS]
theorem pcM_4 (n : Nat) (a : Int) (nm : By) (ix v th el : Tr) : pcM n (st 4 a nm ix v th el) = [fx [105, 102], bl 32] ++ (condP v ++ (pcB n th ++ (if isCe el then [] else [bl 32, fx [101, 108, 115, 101]] ++ pcB n el))) := by rw [pcM]; simp
theorem pcM_5 (n : Nat) (a : Int) (nm : By) (ix v th el : Tr) : pcM n (st 5 a nm ix v th el) = [fx [119, 104, 105, 108, 101], bl 32] ++ (condP v ++ pcB n th) := by rw [pcM]; simp
theorem pcM_o (n : Nat) (c a : Int) (nm : By) (ix v th el : Tr) (h4 : c ≠ 4) (h5 : c ≠ 5) : pcM n (st c a nm ix v th el) = headP c nm ix ++ (pcE v ++ [fx [59]]) := by rw [pcM]; simp [h4, h5]
def REx (d : Nat) (t : Tr) : Prop := ∃ e, RE e d t
def RS : Nat → Nat → Tr → Prop
 | 0, _, _ => False
 | f + 1, d, t =>
  (∃ (a : Int) (nm : By) (v : Tr), Nam nm ∧ REx 0 v ∧ t = st 1 a nm .nil v ce ce) ∨
  (∃ (a : Int) (nm : By) (v : Tr), Nam nm ∧ REx 0 v ∧ t = st 2 a nm .nil v ce ce) ∨
  (∃ (a : Int) (nm : By) (i v : Tr), Nam nm ∧ REx 1 i ∧ REx 0 v ∧ t = st 3 a nm i v ce ce) ∨
  (∃ (a : Int) (v : Tr) (xs ys : List Tr), d ≤ 12 ∧ REx 1 v ∧ (∀ x ∈ xs, RS f (d + 1) x) ∧ (∀ y ∈ ys, RS f (d + 1) y) ∧ t = st 4 a [] .nil v (chain xs) (chain ys)) ∨
  (∃ (a : Int) (v : Tr) (xs : List Tr), d ≤ 12 ∧ REx 1 v ∧ (∀ x ∈ xs, RS f (d + 1) x) ∧ t = st 5 a [] .nil v (chain xs) ce) ∨
  (∃ (a : Int) (v : Tr), REx 0 v ∧ t = st 6 a [] .nil v ce ce) ∨
  (∃ (a : Int) (v : Tr), REx 0 v ∧ t = st 7 a [] .nil v ce ce) ∨
  (∃ (a b : Int) (nm : By) (xs : List Tr), Nam nm ∧ (∃ e, ∀ x ∈ xs, RE e 1 x) ∧ t = st 8 a [] .nil (nd 5 b 0 nm [] .nil .nil (chain xs)) ce ce)
theorem rs_mono : ∀ (f f' d : Nat) (t : Tr), f ≤ f' → RS f d t → RS f' d t
 | 0, _, _, _, _, h => h.elim
 | f + 1, 0, _, _, hf, _ => by omega
 | f + 1, f' + 1, d, t, hf, h => by
  have ih : ∀ (d : Nat) (t : Tr), RS f d t → RS f' d t := fun d t h => rs_mono f f' d t (by omega) h
  rw [RS] at h ⊢
  rcases h with h | h | h | ⟨a, v, xs, ys, h1, h2, h3, h4, e⟩ | ⟨a, v, xs, h1, h2, h3, e⟩ | h | h | h
  ·exact .inl h
  ·exact .inr (.inl h)
  ·exact .inr (.inr (.inl h))
  ·exact .inr (.inr (.inr (.inl ⟨a, v, xs, ys, h1, h2, fun x hx => ih _ x (h3 x hx), fun x hx => ih _ x (h4 x hx), e⟩)))
  ·exact .inr (.inr (.inr (.inr (.inl ⟨a, v, xs, h1, h2, fun x hx => ih _ x (h3 x hx), e⟩))))
  ·exact .inr (.inr (.inr (.inr (.inr (.inl h)))))
  ·exact .inr (.inr (.inr (.inr (.inr (.inr (.inl h))))))
  ·exact .inr (.inr (.inr (.inr (.inr (.inr (.inr h))))))
end Go.Proofs.YtnfhpdbbfejioaaGreatDoor
namespace Go.Proofs.YtnfhpdbbfejioaaGreatDoor
set_option linter.unusedVariables false
set_option linter.unusedSimpArgs false
open Go
abbrev tm (n : Nat) (t : Tr) : List Tok := tks (pcM n t)
abbrev ts (n : Nat) (t : Tr) : List Tok := tks (pcS n t)
theorem ts_ce (n : Nat) : ts n ce = [] := by unfold ts; rw [pcS_ce]; rfl
theorem ts_cons (n : Nat) (c a : Int) (nm : By) (ix v th el g : Tr) : ts n (cc (st c a nm ix v th el) g) = tm (n + 2) (st c a nm ix v th el) ++ ts n g := by
 unfold ts tm
 rw [pcS_cons, tks_sp, zx]
 show _ ++ tks (bl 10 :: pcS n g) = _
 rw [zT]
theorem tb_eq (n : Nat) (g : Tr) : tks (pcB n g) = tk [123] :: (ts n g ++ [tk [125]]) := by
 unfold pcB
 show tks (bl 32 :: fx [123] :: bl 10 :: (pcS n g ++ (sp n ++ [fx [125]]))) = _
 rw [zT, zn, zT, zx, tks_sp, zn, zG]
theorem tc_eq (v : Tr) : tks (condP v) = tk [40] :: (te v ++ [tk [41]]) := by
 unfold condP
 rw [zn, zx, zn, zG]
abbrev nt (x : By) : Tok := ⟨0, x, 0⟩
theorem tm_1 (n : Nat) (a : Int) (nm : By) (v : Tr) : tm n (st 1 a nm .nil v ce ce) = tk [118, 97, 114] :: nt nm :: tk [61] :: (te v ++ [tk [59]]) := by
 unfold tm
 rw [pcM_o _ _ _ _ _ _ _ _ (by decide) (by decide), show headP 1 nm .nil = [fx [118, 97, 114], bl 32, ⟨0, nm⟩, bl 32, fx [61], bl 32] by simp [headP]]
 show tks (fx _ :: bl 32 :: ⟨0, nm⟩ :: bl 32 :: fx [61] :: bl 32 :: (pcE v ++ [fx [59]])) = _
 rw [zn, zT, tks_nm, zT, zn, zT, zx, zn, zG]
theorem tm_2 (n : Nat) (a : Int) (nm : By) (v : Tr) : tm n (st 2 a nm .nil v ce ce) = nt nm :: tk [61] :: (te v ++ [tk [59]]) := by
 unfold tm
 rw [pcM_o _ _ _ _ _ _ _ _ (by decide) (by decide), show headP 2 nm .nil = [⟨0, nm⟩, bl 32, fx [61], bl 32] by simp [headP]]
 show tks (⟨0, nm⟩ :: bl 32 :: fx [61] :: bl 32 :: (pcE v ++ [fx [59]])) = _
 rw [tks_nm, zT, zn, zT, zx, zn, zG]
theorem tm_3 (n : Nat) (a : Int) (nm : By) (i v : Tr) : tm n (st 3 a nm i v ce ce) = nt nm :: tk [91] :: (te i ++ (tk [93] :: tk [61] :: (te v ++ [tk [59]]))) := by
 unfold tm
 rw [pcM_o _ _ _ _ _ _ _ _ (by decide) (by decide), show headP 3 nm i = ⟨0, nm⟩ :: ((fx [91] :: (pcE i ++ [fx [93]])) ++ [bl 32, fx [61], bl 32]) by simp [headP]]
 have : (⟨0, nm⟩ :: ((fx [91] :: (pcE i ++ [fx [93]])) ++ [bl 32, fx [61], bl 32])) ++ (pcE v ++ [fx [59]]) = ⟨0, nm⟩ :: fx [91] :: (pcE i ++ (fx [93] :: bl 32 :: fx [61] :: bl 32 :: (pcE v ++ [fx [59]]))) := by simp
 rw [this, tks_nm, zn, zx, zn, zT, zn, zT, zx, zn, zG]
theorem tm_4 (n : Nat) (a : Int) (v th el : Tr) : tm n (st 4 a [] .nil v th el) = tk [105, 102] :: (tk [40] :: (te v ++ (tk [41] :: tk [123] :: (ts n th ++ (tk [125] :: (if isCe el then [] else tk [101, 108, 115, 101] :: tk [123] :: (ts n el ++ [tk [125]]))))))) := by
 unfold tm
 rw [pcM_4]
 show tks (fx [105, 102] :: bl 32 :: (condP v ++ (pcB n th ++ _))) = _
 rw [zn, zT, zx, zx, tc_eq, tb_eq]
 split
 ·simp [zG]
 ·have e : tks ([bl 32, fx [101, 108, 115, 101]] ++ pcB n el) = tk [101, 108, 115, 101] :: tk [123] :: (ts n el ++ [tk [125]]) := by
   show tks (bl 32 :: fx [101, 108, 115, 101] :: pcB n el) = _
   rw [zT, zn, tb_eq]
  rw [e]
  simp
theorem tm_5 (n : Nat) (a : Int) (v th : Tr) : tm n (st 5 a [] .nil v th ce) = tk [119, 104, 105, 108, 101] :: (tk [40] :: (te v ++ (tk [41] :: tk [123] :: (ts n th ++ [tk [125]])))) := by
 unfold tm
 rw [pcM_5]
 show tks (fx _ :: bl 32 :: (condP v ++ pcB n th)) = _
 rw [zn, zT, zx, tc_eq, tb_eq]
 simp
theorem tm_6 (n : Nat) (a : Int) (v : Tr) : tm n (st 6 a [] .nil v ce ce) = tk [114, 101, 116, 117, 114, 110] :: (te v ++ [tk [59]]) := by
 unfold tm
 rw [pcM_o _ _ _ _ _ _ _ _ (by decide) (by decide), show headP 6 [] .nil = [fx [114, 101, 116, 117, 114, 110], bl 32] by simp [headP]]
 show tks (fx _ :: bl 32 :: (pcE v ++ [fx [59]])) = _
 rw [zn, zT, zx, zn, zG]
theorem tm_7 (n : Nat) (a : Int) (v : Tr) : tm n (st 7 a [] .nil v ce ce) = tk [112, 114, 105, 110, 116] :: (te v ++ [tk [59]]) := by
 unfold tm
 rw [pcM_o _ _ _ _ _ _ _ _ (by decide) (by decide), show headP 7 [] .nil = [fx [112, 114, 105, 110, 116], bl 32] by simp [headP]]
 show tks (fx _ :: bl 32 :: (pcE v ++ [fx [59]])) = _
 rw [zn, zT, zx, zn, zG]
theorem tm_8 (n : Nat) (a b : Int) (nm : By) (xs : List Tr) : tm n (st 8 a [] .nil (nd 5 b 0 nm [] .nil .nil (chain xs)) ce ce) = nt nm :: tk [40] :: (te (chain xs) ++ (tk [41] :: [tk [59]])) := by
 unfold tm
 rw [pcM_o _ _ _ _ _ _ _ _ (by decide) (by decide), show headP 8 [] .nil = [] by simp [headP], pc_5]
 simp only [List.nil_append, List.cons_append]
 rw [tks_nm, zn, zx, zx, zn, zn, zG]
 simp
theorem rs_st {f d : Nat} {x : Tr} (hx : RS f d x) : ∃ c a nm ix v th el, x = st c a nm ix v th el := by
 cases f with
 | zero => exact hx.elim
 | succ f =>
  rw [RS] at hx
  rcases hx with ⟨a, nm, v, _, _, e⟩ | ⟨a, nm, v, _, _, e⟩ | ⟨a, nm, i, v, _, _, _, e⟩ | ⟨a, v, xs, ys, h1, h2, h3, h4, e⟩ | ⟨a, v, xs, h1, h2, h3, e⟩ | ⟨a, v, _, e⟩ | ⟨a, v, _, e⟩ | ⟨a, b, nm, xs, _, _, e⟩ <;> exact ⟨_, _, _, _, _, _, _, e⟩
theorem ts_cc {f d : Nat} {x : Tr} (hx : RS f d x) (n : Nat) (g : Tr) : ts n (cc x g) = tm (n + 2) x ++ ts n g := by
 obtain ⟨c, a, nm, ix, v, th, el, rfl⟩ := rs_st hx
 exact ts_cons n c a nm ix v th el g
end Go.Proofs.YtnfhpdbbfejioaaGreatDoor
namespace Go.Proofs.YtnfhpdbbfejioaaGreatDoor
set_option linter.unusedVariables false
set_option linter.unusedSimpArgs false
open Go
theorem qL {x : By} {l l' : List Tok} {u : Unit} (hT : TkOk l) (hx : x ≠ []) (h : zh x l = .ok (u, l')) : TkOk l' ∧ l'.length + 1 = l.length := by
 obtain ⟨e, rfl⟩ := qk h
 exact ⟨hT.tail, qz (by rw [e]; exact hx)⟩
theorem name_re {l l' : List Tok} {nm : By} (hT : TkOk l) (h : zQ l = .ok (nm, l')) : Nam nm ∧ TkOk l' ∧ l'.length + 1 = l.length := by
 obtain ⟨hk, rfl, h12, rfl⟩ := name_ok h
 exact ⟨hT.hd.1 hk h12, hT.tail, tl_kind hT (.inl hk)⟩
theorem tok_re {x : By} {l : List Tok} (hT : TkOk l) (h : (hd l).t = x) (hx : x ≠ []) : TkOk l.tail ∧ l.tail.length + 1 = l.length := ⟨hT.tail, qz (by rw [h]; exact hx)⟩
theorem expr_re {l l' : List Tok} {v : Tr} (hT : TkOk l) (h : zW l = .ok (v, l')) : TkOk l' ∧ REx 0 v ∧ (te v).length + l'.length ≤ l.length := by
 obtain ⟨T1, ⟨e, r⟩, r'⟩ : TkOk l' ∧ RL 1 0 v l'.length l.length := qM _ 0 1 0 .nil 0 l v l' (fun _ => ⟨by omega, by omega⟩) (fun h => by omega) (fun h => by omega) hT h
 rw [hk_len] at r'
 exact ⟨T1, ⟨e, qK _ _ _ _ _ (Nat.le_refl _) (by omega) r⟩, by omega⟩
theorem held_re {l l' : List Tok} {v : Tr} (hT : TkOk l) (h : heldV l = .ok (v, l')) : TkOk l' ∧ REx 1 v ∧ (te v).length + 2 + l'.length ≤ l.length :=
 qM _ 5 0 0 .nil 0 l v l' (fun h => by omega) (fun h => by omega) (fun h => by omega) hT h
theorem idx_re {l l' : List Tok} {v : Tr} (hT : TkOk l) (h : idxV l = .ok (v, l')) : TkOk l' ∧ REx 1 v ∧ (te v).length + 1 + l'.length ≤ l.length :=
 qM _ 6 0 0 .nil 0 l v l' (fun h => by omega) (fun h => by omega) (fun h => by omega) hT h
theorem args_re {l l' : List Tok} {g : Tr} (hT : TkOk l) (h : argsV l = .ok (g, l')) : TkOk l' ∧ ∃ xs, g = chain xs ∧ (∃ e, ∀ x ∈ xs, RE e 1 x) ∧ (te g).length + 1 + l'.length ≤ l.length := by
 unfold argsV argV at h
 split at h
 ·rename_i h41
  have htl := qz (l := l) (by rw [h41]; simp)
  obtain ⟨rfl, rfl⟩ := zj h
  have e3 : te ce = [] := by unfold te; rw [pc_ce]; rfl
  exact ⟨hT.tail, [], rfl, ⟨0, fun x hx => by simp at hx⟩, by rw [e3]; simp; omega⟩
 ·obtain ⟨T1, xs, _, a, b, c⟩ : TkOk l' ∧ ∃ xs, xs ≠ [] ∧ g = chain xs ∧ (∃ e, ∀ x ∈ xs, RE e (0 + 1) x) ∧ (te g).length + 1 + l'.length ≤ l.length := qM _ 7 0 0 ce 0 l g l' (fun h => by omega) (fun h => by omega) (fun h => by omega) hT h
  exact ⟨T1, xs, a, b, c⟩
theorem named_re {a : Nat} {l l' : List Tok} {t : Tr} (d : Nat) (hT : TkOk l) (h : zP a l = .ok (t, l')) : TkOk l' ∧ RS 1 d t ∧ ∀ n, (tm n t).length + l'.length ≤ l.length + 1 := by
 unfold zP at h
 obtain ⟨nm, l1, h1, h⟩ := za h
 obtain ⟨hn, T1, s1⟩ := name_re hT h1
 split at h
 ·rename_i h40
  obtain ⟨T2, s2⟩ := tok_re T1 h40 (by decide)
  obtain ⟨g, l2, h2, h⟩ := za h
  obtain ⟨T3, xs, rfl, hx, s3⟩ := args_re T2 h2
  obtain ⟨rfl, rfl⟩ := zj h
  refine ⟨T3, ?_, fun n => ?_⟩
  ·rw [RS]
   exact .inr (.inr (.inr (.inr (.inr (.inr (.inr ⟨_, _, nm, xs, hn, hx, rfl⟩))))))
  ·rw [tm_8]
   simp
   omega
 split at h
 ·rename_i h91
  obtain ⟨T2, s2⟩ := tok_re T1 h91 (by decide)
  obtain ⟨g, l2, h2, h⟩ := za h
  obtain ⟨T3, hi, s3⟩ := idx_re T2 h2
  obtain ⟨_, l3, h3, h⟩ := za h
  obtain ⟨T4, s4⟩ := qL T3 (by decide) h3
  obtain ⟨v, l4, h4, h⟩ := za h
  obtain ⟨T5, hv, s5⟩ := expr_re T4 h4
  obtain ⟨rfl, rfl⟩ := zj h
  refine ⟨T5, ?_, fun n => ?_⟩
  ·rw [RS]
   exact .inr (.inr (.inl ⟨_, nm, _, _, hn, hi, hv, rfl⟩))
  ·rw [tm_3]
   simp
   omega
 ·obtain ⟨_, l3, h3, h⟩ := za h
  obtain ⟨T4, s4⟩ := qL T1 (by decide) h3
  obtain ⟨v, l4, h4, h⟩ := za h
  obtain ⟨T5, hv, s5⟩ := expr_re T4 h4
  obtain ⟨rfl, rfl⟩ := zj h
  refine ⟨T5, ?_, fun n => ?_⟩
  ·rw [RS]
   exact .inr (.inl ⟨_, nm, _, hn, hv, rfl⟩)
  ·rw [tm_2]
   simp
   omega
def StR (g d : Nat) (l : List Tok) (t : Tr) (l' : List Tok) : Prop := TkOk l' ∧
 (if g = 2 then (∃ e, RS e d t) ∧ ∀ n, (tm n t).length + l'.length ≤ l.length
  else ∃ ys, t = chain ys ∧ (∃ e, ∀ y ∈ ys, RS e (d + 1) y) ∧ (g = 0 → d ≤ 12) ∧ ∀ n, (ts n t).length + (if g = 0 then 2 else 1) + l'.length ≤ l.length)
theorem rs_max {e1 e2 d d' : Nat} {xs ys : List Tr} (h1 : ∀ x ∈ xs, RS e1 d x) (h2 : ∀ y ∈ ys, RS e2 d' y) : (∀ x ∈ xs, RS (max e1 e2) d x) ∧ (∀ y ∈ ys, RS (max e1 e2) d' y) := ⟨fun x hx => rs_mono _ _ _ _ (Nat.le_max_left _ _) (h1 x hx), fun x hx => rs_mono _ _ _ _ (Nat.le_max_right _ _) (h2 x hx)⟩
set_option maxHeartbeats 1000000 in
theorem st_re : ∀ (f g d : Nat) (l : List Tok) (t : Tr) (l' : List Tok), TkOk l → stV f g d l = .ok (t, l') → StR g d l t l'
 | 0, _, _, _, _, _, _, h => by simp [stV] at h
 | f + 1, 0, d, l, t, l', hT, h => by
  rw [stV] at h
  obtain ⟨_, _, hb, h⟩ := za h
  obtain ⟨_, l1, h1, h⟩ := za h
  obtain ⟨T1, s1⟩ := qL hT (by decide) h1
  have h12 : d ≤ 12 := by
   have hk : (hd l).k ≠ 3 := fun e => by
    have := hT.hd.2.2 e
    rw [(qk h1).1] at this
    cases this
   unfold boundV at hb
   split at hb
   ·cases hb
   ·rename_i hno
    rcases Nat.lt_or_ge 12 d with hd | hd
    ·exact absurd ⟨hd, hk⟩ hno
    ·exact hd
  obtain ⟨T2, ys, e1, e2, _, e3⟩ : TkOk l' ∧ ∃ ys, t = chain ys ∧ (∃ e, ∀ y ∈ ys, RS e (d + 1) y) ∧ (1 = 0 → d ≤ 12) ∧ ∀ n, (ts n t).length + 1 + l'.length ≤ l1.length := st_re f 1 d l1 t l' T1 h
  exact ⟨T2, ys, e1, e2, fun _ => h12, fun n => by have := e3 n; show (ts n t).length + 2 + l'.length ≤ _; omega⟩
 | f + 1, 1, d, l, t, l', hT, h => by
  rw [stV] at h
  split at h
  ·rename_i h1
   obtain ⟨T1, s1⟩ := tok_re hT h1 (by decide)
   obtain ⟨rfl, rfl⟩ := zj h
   exact ⟨T1, [], rfl, ⟨0, fun x hx => by simp at hx⟩, fun e => (by cases e), fun n => by rw [ts_ce]; show 0 + 1 + _ ≤ _; omega⟩
  ·obtain ⟨t1, l1, h1, h⟩ := za h
   obtain ⟨T1, ⟨e1, r1⟩, r2⟩ : TkOk l1 ∧ (∃ e, RS e (d + 1) t1) ∧ ∀ n, (tm n t1).length + l1.length ≤ l.length := st_re f 2 (d + 1) l t1 l1 hT h1
   obtain ⟨g, l2, h2, h⟩ := za h
   obtain ⟨T2, ys, rfl, ⟨e2, r3⟩, _, r4⟩ : TkOk l2 ∧ ∃ ys, g = chain ys ∧ (∃ e, ∀ y ∈ ys, RS e (d + 1) y) ∧ (1 = 0 → d ≤ 12) ∧ ∀ n, (ts n g).length + 1 + l2.length ≤ l1.length := st_re f 1 d l1 g l2 T1 h2
   obtain ⟨rfl, rfl⟩ := zj h
   refine ⟨T2, t1 :: ys, rfl, ⟨max e1 e2, fun y hy => ?_⟩, fun e => (by cases e), fun n => ?_⟩
   ·rcases List.mem_cons.1 hy with rfl | hy
    ·exact rs_mono _ _ _ _ (Nat.le_max_left _ _) r1
    ·exact rs_mono _ _ _ _ (Nat.le_max_right _ _) (r3 y hy)
   ·rw [ts_cc r1]
    have a1 := r2 (n + 2)
    have a2 := r4 n
    show (tm (n + 2) t1 ++ ts n (chain ys)).length + 1 + l2.length ≤ l.length
    rw [List.length_append]
    omega
 | f + 1, 2, d, l, t, l', hT, h => by
  show TkOk l' ∧ (∃ e, RS e d t) ∧ ∀ n, (tm n t).length + l'.length ≤ l.length
  rw [stV] at h
  split at h
  ·obtain ⟨t1, l1, h1, h⟩ := za h
   obtain ⟨T1, r1, r2⟩ := named_re d hT h1
   obtain ⟨_, l2, h2, h⟩ := za h
   obtain ⟨T2, s2⟩ := qL T1 (by decide) h2
   obtain ⟨rfl, rfl⟩ := zj h
   exact ⟨T2, ⟨1, r1⟩, fun n => by have := r2 n; omega⟩
  split at h
  ·rename_i h0
   obtain ⟨T0, s0⟩ := tok_re hT h0 (by decide)
   obtain ⟨nm, l1, h1, h⟩ := za h
   obtain ⟨hn, T1, s1⟩ := name_re T0 h1
   obtain ⟨_, l2, h2, h⟩ := za h
   obtain ⟨T2, s2⟩ := qL T1 (by decide) h2
   obtain ⟨v, l3, h3, h⟩ := za h
   obtain ⟨T3, hv, s3⟩ := expr_re T2 h3
   obtain ⟨_, l4, h4, h⟩ := za h
   obtain ⟨T4, s4⟩ := qL T3 (by decide) h4
   obtain ⟨rfl, rfl⟩ := zj h
   refine ⟨T4, ⟨1, ?_⟩, fun n => ?_⟩
   ·rw [RS]
    exact .inl ⟨_, nm, _, hn, hv, rfl⟩
   ·rw [tm_1]
    simp
    omega
  split at h
  ·rename_i h0
   obtain ⟨T0, s0⟩ := tok_re hT h0 (by decide)
   obtain ⟨v, l3, h3, h⟩ := za h
   obtain ⟨T3, hv, s3⟩ := expr_re T0 h3
   obtain ⟨_, l4, h4, h⟩ := za h
   obtain ⟨T4, s4⟩ := qL T3 (by decide) h4
   obtain ⟨rfl, rfl⟩ := zj h
   refine ⟨T4, ⟨1, ?_⟩, fun n => ?_⟩
   ·rw [RS]
    exact .inr (.inr (.inr (.inr (.inr (.inl ⟨_, _, hv, rfl⟩)))))
   ·rw [tm_6]
    simp
    omega
  split at h
  ·rename_i h0
   obtain ⟨T0, s0⟩ := tok_re hT h0 (by decide)
   obtain ⟨v, l3, h3, h⟩ := za h
   obtain ⟨T3, hv, s3⟩ := expr_re T0 h3
   obtain ⟨_, l4, h4, h⟩ := za h
   obtain ⟨T4, s4⟩ := qL T3 (by decide) h4
   obtain ⟨rfl, rfl⟩ := zj h
   refine ⟨T4, ⟨1, ?_⟩, fun n => ?_⟩
   ·rw [RS]
    exact .inr (.inr (.inr (.inr (.inr (.inr (.inl ⟨_, _, hv, rfl⟩))))))
   ·rw [tm_7]
    simp
    omega
  split at h
  ·rename_i h0
   obtain ⟨T0, s0⟩ := tok_re hT h0 (by decide)
   obtain ⟨v, l3, h3, h⟩ := za h
   obtain ⟨T3, hv, s3⟩ := held_re T0 h3
   obtain ⟨th, l4, h4, h⟩ := za h
   obtain ⟨T4, xs, rfl, ⟨e1, r1⟩, h12, r2⟩ : TkOk l4 ∧ ∃ ys, th = chain ys ∧ (∃ e, ∀ y ∈ ys, RS e (d + 1) y) ∧ (0 = 0 → d ≤ 12) ∧ ∀ n, (ts n th).length + 2 + l4.length ≤ l3.length := st_re f 0 d l3 th l4 T3 h4
   split at h
   ·rename_i h5
    obtain ⟨T5, s5⟩ := tok_re T4 h5 (by decide)
    obtain ⟨el, l6, h6, h⟩ := za h
    obtain ⟨T6, ys, rfl, ⟨e2, r3⟩, _, r4⟩ : TkOk l6 ∧ ∃ ys, el = chain ys ∧ (∃ e, ∀ y ∈ ys, RS e (d + 1) y) ∧ (0 = 0 → d ≤ 12) ∧ ∀ n, (ts n el).length + 2 + l6.length ≤ l4.tail.length := st_re f 0 d l4.tail el l6 T5 h6
    obtain ⟨rfl, rfl⟩ := zj h
    obtain ⟨m1, m2⟩ := rs_max r1 r3
    refine ⟨T6, ⟨max e1 e2 + 1, ?_⟩, fun n => ?_⟩
    ·rw [RS]
     exact .inr (.inr (.inr (.inl ⟨_, _, xs, ys, h12 rfl, hv, m1, m2, rfl⟩)))
    ·rw [tm_4]
     have a1 := r2 n
     have a2 := r4 n
     split
     ·simp only [List.length_cons, List.length_append, List.length_nil]
      omega
     ·simp only [List.length_cons, List.length_append, List.length_nil]
      omega
   ·obtain ⟨rfl, rfl⟩ := zj h
    refine ⟨T4, ⟨e1 + 1, ?_⟩, fun n => ?_⟩
    ·rw [RS]
     exact .inr (.inr (.inr (.inl ⟨_, _, xs, [], h12 rfl, hv, r1, fun y hy => by simp at hy, rfl⟩)))
    ·rw [tm_4]
     have a1 := r2 n
     rw [if_pos (show isCe ce = true from rfl)]
     simp only [List.length_cons, List.length_append, List.length_nil]
     omega
  split at h
  ·rename_i h0
   obtain ⟨T0, s0⟩ := tok_re hT h0 (by decide)
   obtain ⟨v, l3, h3, h⟩ := za h
   obtain ⟨T3, hv, s3⟩ := held_re T0 h3
   obtain ⟨th, l4, h4, h⟩ := za h
   obtain ⟨T4, xs, rfl, ⟨e1, r1⟩, h12, r2⟩ : TkOk l4 ∧ ∃ ys, th = chain ys ∧ (∃ e, ∀ y ∈ ys, RS e (d + 1) y) ∧ (0 = 0 → d ≤ 12) ∧ ∀ n, (ts n th).length + 2 + l4.length ≤ l3.length := st_re f 0 d l3 th l4 T3 h4
   obtain ⟨rfl, rfl⟩ := zj h
   refine ⟨T4, ⟨e1 + 1, ?_⟩, fun n => ?_⟩
   ·rw [RS]
    exact .inr (.inr (.inr (.inr (.inl ⟨_, _, xs, h12 rfl, hv, r1, rfl⟩))))
   ·rw [tm_5]
    have a1 := r2 n
    simp only [List.length_cons, List.length_append, List.length_nil]
    omega
  ·cases h
 | f + 1, g + 3, d, l, t, l', hT, h => by simp [stV] at h
end Go.Proofs.YtnfhpdbbfejioaaGreatDoor
namespace Go.Proofs.YtnfhpdbbfejioaaGreatDoor
set_option linter.unusedVariables false
set_option linter.unusedSimpArgs false
set_option maxRecDepth 100000
set_option maxHeartbeats 16000000
open Go Go.RowKit
theorem parse_parts {s : By} {t : Tr} (h : qh s = .ok t) : ∃ l c, tokV s = .ok l ∧ qE (l.length + 1) 0 l = .ok (t, c) := by
 unfold qh at h
 split at h
 ·cases h
 ·rename_i l hl
  split at h
  ·cases h
  ·rename_i t' l' hp
   injection h with h
   subst h
   exact ⟨l, l', hl, hp⟩
end Go.Proofs.YtnfhpdbbfejioaaGreatDoor
