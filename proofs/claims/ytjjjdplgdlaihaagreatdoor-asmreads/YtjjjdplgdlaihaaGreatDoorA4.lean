/- Package word's Right and Encode, walked. -/
import Derived.Test.YtjjjdplgdlaihaaGreatDoorMA
import Derived.Deep.Cut
namespace Go.Proofs.YtjjjdplgdlaihaaGreatDoor
open Go Go.RowKit

abbrev instV (o rd ra rb n : Int) : Value := .agg #[.int .i64 o, .int .i64 rd, .int .i64 ra, .int .i64 rb, .int .i64 n]

def rightB (rd ra rb n : Int) (s : Sh) : Bool := fitB rd s.rd && fitB ra s.ra && fitB rb s.rb && nfB n s

set_option maxHeartbeats 400000 in
theorem right_no (o rd ra rb n : Int) (w : World) (h : o < 1 ∨ 31 < o) :
    Calls Tryz.prog 36 #[instV o rd ra rb n] w fun e w' => e = .returned (.bool false) ∧ Below w.heap.size w w' := by
  rcases h with h | h
  · go_enter Tryz.func36, Tryz.ntmps36
    go_wp2
    go_ret
    exact ⟨rfl, (Below.refl _ _).alloc (Nat.le_refl _) _⟩
  · have h' : ¬ o < 1 := by omega
    go_enter Tryz.func36, Tryz.ntmps36
    go_wp2
    go_ret
    exact ⟨rfl, (Below.refl _ _).alloc (Nat.le_refl _) _⟩

set_option maxRecDepth 100000 in
set_option maxHeartbeats 1000000 in
theorem right_f1 (o k : Nat) (l m h rd ra rb n : Int) (cs : List Value) (s : Sh) (w : World) (h1 : 1 ≤ o) (h31 : o ≤ 31) (hk : k < 8)
    (ht : TabAt w o k l m h cs) (hc : ShIs cs s) (hA : fitB rd s.rd = false) :
    Calls Tryz.prog 36 #[instV o rd ra rb n] w fun e w' => e = .returned (.bool false) ∧ Below w.heap.size w w' := by
  have h1' : ¬ (o : Int) < 1 := by omega
  have h31' : ¬ 31 < (o : Int) := by omega
  have hlen : cs.length = 19 := hc.len
  have g0 := hc.g0
  have g1 := hc.g1
  have g2 := hc.g2
  have SZ : Hid ((Tryz.prog.info? 132).map (·.size) = some cs.length) := size61 hc
  have ONE : Hid (∀ v ∈ cs, v.oneCell' = true) := hc.one
  obtain ⟨z0, z1, hf, _, _, _, rng⟩ := ht
  have RNG : Hid (w.rangeAt 2 (k * 19) cs) := rng
  clear rng
  go_enter Tryz.func36, Tryz.ntmps36
  go_upto_region 4 with (first
    | refine wpList_load_w rfl 132 _ rfl 2 (k * 19) rfl cs _ (by exact World.rangeAt_alloc RNG.out _) Tryz.underlying132 rfl SZ.out ?_
    | refine wpList_store_new rfl 132 _ _ rfl _ _ cs rfl rfl (by simp) SZ.out (by simp [hlen]) ONE.out ?_)
  go_wp2_with (go_at_call 71; refine (registerFits_any _ _ _).mono ?_; rintro e w' ⟨rfl, rfl⟩)
  go_ret
  exact ⟨rfl, ((Below.refl _ _).alloc (Nat.le_refl _) _).alloc (by simp) _⟩

set_option maxRecDepth 100000 in
set_option maxHeartbeats 1000000 in
theorem right_f2 (o k : Nat) (l m h rd ra rb n : Int) (cs : List Value) (s : Sh) (w : World) (h1 : 1 ≤ o) (h31 : o ≤ 31) (hk : k < 8)
    (ht : TabAt w o k l m h cs) (hc : ShIs cs s) (hA : fitB rd s.rd = true) (hB : fitB ra s.ra = false) :
    Calls Tryz.prog 36 #[instV o rd ra rb n] w fun e w' => e = .returned (.bool false) ∧ Below w.heap.size w w' := by
  have h1' : ¬ (o : Int) < 1 := by omega
  have h31' : ¬ 31 < (o : Int) := by omega
  have hlen : cs.length = 19 := hc.len
  have g0 := hc.g0
  have g1 := hc.g1
  have g2 := hc.g2
  have SZ : Hid ((Tryz.prog.info? 132).map (·.size) = some cs.length) := size61 hc
  have ONE : Hid (∀ v ∈ cs, v.oneCell' = true) := hc.one
  obtain ⟨z0, z1, hf, _, _, _, rng⟩ := ht
  have RNG : Hid (w.rangeAt 2 (k * 19) cs) := rng
  clear rng
  go_enter Tryz.func36, Tryz.ntmps36
  go_upto_region 4 with (first
    | refine wpList_load_w rfl 132 _ rfl 2 (k * 19) rfl cs _ (by exact World.rangeAt_alloc RNG.out _) Tryz.underlying132 rfl SZ.out ?_
    | refine wpList_store_new rfl 132 _ _ rfl _ _ cs rfl rfl (by simp) SZ.out (by simp [hlen]) ONE.out ?_)
  go_wp2_with (go_at_call 71; refine (registerFits_any _ _ _).mono ?_; rintro e w' ⟨rfl, rfl⟩)
  go_ret
  exact ⟨rfl, ((Below.refl _ _).alloc (Nat.le_refl _) _).alloc (by simp) _⟩

set_option maxRecDepth 100000 in
set_option maxHeartbeats 1000000 in
theorem right_f3 (o k : Nat) (l m h rd ra rb n : Int) (cs : List Value) (s : Sh) (w : World) (h1 : 1 ≤ o) (h31 : o ≤ 31) (hk : k < 8)
    (ht : TabAt w o k l m h cs) (hc : ShIs cs s) (hA : fitB rd s.rd = true) (hB : fitB ra s.ra = true) (hC : fitB rb s.rb = false) :
    Calls Tryz.prog 36 #[instV o rd ra rb n] w fun e w' => e = .returned (.bool false) ∧ Below w.heap.size w w' := by
  have h1' : ¬ (o : Int) < 1 := by omega
  have h31' : ¬ 31 < (o : Int) := by omega
  have hlen : cs.length = 19 := hc.len
  have g0 := hc.g0
  have g1 := hc.g1
  have g2 := hc.g2
  have SZ : Hid ((Tryz.prog.info? 132).map (·.size) = some cs.length) := size61 hc
  have ONE : Hid (∀ v ∈ cs, v.oneCell' = true) := hc.one
  obtain ⟨z0, z1, hf, _, _, _, rng⟩ := ht
  have RNG : Hid (w.rangeAt 2 (k * 19) cs) := rng
  clear rng
  go_enter Tryz.func36, Tryz.ntmps36
  go_upto_region 4 with (first
    | refine wpList_load_w rfl 132 _ rfl 2 (k * 19) rfl cs _ (by exact World.rangeAt_alloc RNG.out _) Tryz.underlying132 rfl SZ.out ?_
    | refine wpList_store_new rfl 132 _ _ rfl _ _ cs rfl rfl (by simp) SZ.out (by simp [hlen]) ONE.out ?_)
  go_wp2_with (go_at_call 71; refine (registerFits_any _ _ _).mono ?_; rintro e w' ⟨rfl, rfl⟩)
  go_ret
  exact ⟨rfl, ((Below.refl _ _).alloc (Nat.le_refl _) _).alloc (by simp) _⟩

set_option maxRecDepth 100000 in
set_option maxHeartbeats 1000000 in
theorem right_t (o k : Nat) (l m h rd ra rb n : Int) (cs : List Value) (s : Sh) (w : World) (h1 : 1 ≤ o) (h31 : o ≤ 31) (hk : k < 8)
    (ht : TabAt w o k l m h cs) (hc : ShIs cs s) (hs : ShOk s) (hA : fitB rd s.rd = true) (hB : fitB ra s.ra = true) (hC : fitB rb s.rb = true) :
    Calls Tryz.prog 36 #[instV o rd ra rb n] w fun e w' => e = .returned (.bool (nfB n s)) ∧ Below w.heap.size w w' := by
  have h1' : ¬ (o : Int) < 1 := by omega
  have h31' : ¬ 31 < (o : Int) := by omega
  have hlen : cs.length = 19 := hc.len
  have g0 := hc.g0
  have g1 := hc.g1
  have g2 := hc.g2
  have SZ : Hid ((Tryz.prog.info? 132).map (·.size) = some cs.length) := size61 hc
  have ONE : Hid (∀ v ∈ cs, v.oneCell' = true) := hc.one
  obtain ⟨z0, z1, hf, _, _, _, rng⟩ := ht
  have RNG : Hid (w.rangeAt 2 (k * 19) cs) := rng
  clear rng
  go_enter Tryz.func36, Tryz.ntmps36
  go_upto_region 4 with (first
    | refine wpList_load_w rfl 132 _ rfl 2 (k * 19) rfl cs _ (by exact World.rangeAt_alloc RNG.out _) Tryz.underlying132 rfl SZ.out ?_
    | refine wpList_store_new rfl 132 _ _ rfl _ _ cs rfl rfl (by simp) SZ.out (by simp [hlen]) ONE.out ?_)
  clear hf RNG
  go_wp2_with (first
    | refine wpList_load_w rfl 132 _ rfl (w.heap.size + 1) 0 rfl cs _ (by exact rangeAt_new _ cs 132 _ (by simp)) Tryz.underlying132 rfl SZ.out ?_
    | (go_at_call 71; refine (registerFits_any _ _ _).mono ?_; rintro e w' ⟨rfl, rfl⟩)
    | (go_at_call 72; refine (numberFits_any n cs s _ hc hs).mono ?_; rintro e w' ⟨rfl, hb⟩))
  go_ret
  exact ⟨rfl, (((Below.refl _ _).alloc (Nat.le_refl _) _).alloc (by simp) _).trans (hb.mono (by simp; omega))⟩


theorem right_yes (o k : Nat) (l m h rd ra rb n : Int) (cs : List Value) (s : Sh) (w : World) (h1 : 1 ≤ o) (h31 : o ≤ 31) (hk : k < 8)
    (ht : TabAt w o k l m h cs) (hc : ShIs cs s) (hs : ShOk s) :
    Calls Tryz.prog 36 #[instV o rd ra rb n] w fun e w' => e = .returned (.bool (rightB rd ra rb n s)) ∧ Below w.heap.size w w' := by
  unfold rightB
  cases hA : fitB rd s.rd with
  | false => exact right_f1 o k l m h rd ra rb n cs s w h1 h31 hk ht hc hA
  | true =>
    cases hB : fitB ra s.ra with
    | false => exact right_f2 o k l m h rd ra rb n cs s w h1 h31 hk ht hc hA hB
    | true =>
      cases hC : fitB rb s.rb with
      | false => exact right_f3 o k l m h rd ra rb n cs s w h1 h31 hk ht hc hA hB hC
      | true => exact right_t o k l m h rd ra rb n cs s w h1 h31 hk ht hc hs hA hB hC
end Go.Proofs.YtjjjdplgdlaihaaGreatDoor
