/- V7 V8 -/
import Derived.Test.YtnfhpdbbfejioaaGreatDoorQ10
namespace Go.Proofs.YtnfhpdbbfejioaaGreatDoor
set_option linter.unusedVariables false
set_option linter.unusedSimpArgs false
set_option maxRecDepth 100000
set_option maxHeartbeats 4000000
open Go Go.RowKit
def isCe : Tr → Bool
 | .slice [] [] => true
 | _ => false
def stT (left : By) : Tr → By
 | .slice [.agg [.lit (.int _ c), .lit (.int _ _), .lit (.string nm), ix, v, th, el]] [g] =>
  (left ++ [32, 32]) ++
  (if c = 4 then ([105, 102] ++ [32, 40]) ++ wrT v ++ [41] ++ ([32, 123, 10] ++ stT (left ++ [32, 32]) th ++ ((left ++ [32, 32]) ++ [125])) ++ (if isCe el then [] else [32, 101, 108, 115, 101] ++ ([32, 123, 10] ++ stT (left ++ [32, 32]) el ++ ((left ++ [32, 32]) ++ [125])))
   else if c = 5 then ([119, 104, 105, 108, 101] ++ [32, 40]) ++ wrT v ++ [41] ++ ([32, 123, 10] ++ stT (left ++ [32, 32]) th ++ ((left ++ [32, 32]) ++ [125]))
   else (if c = 1 then [118, 97, 114, 32] ++ nm ++ [32, 61, 32] else if c = 2 then nm ++ [32, 61, 32] else if c = 3 then nm ++ ([91] ++ wrT ix ++ [93]) ++ [32, 61, 32] else if c = 6 then [114, 101, 116, 117, 114, 110, 32] else if c = 7 then [112, 114, 105, 110, 116, 32] else []) ++ wrT v ++ [59])
  ++ [10] ++ stT left g
 | _ => []
def blT (left : By) (g : Tr) : By := [32, 123, 10] ++ stT left g ++ (left ++ [125])
def smT (lf : By) : Tr → By
 | .agg [.lit (.int _ c), .lit (.int _ _), .lit (.string nm), ix, v, th, el] =>
  if c = 4 then ([105, 102] ++ [32, 40]) ++ wrT v ++ [41] ++ blT lf th ++ (if isCe el then [] else [32, 101, 108, 115, 101] ++ blT lf el)
  else if c = 5 then ([119, 104, 105, 108, 101] ++ [32, 40]) ++ wrT v ++ [41] ++ blT lf th
  else (if c = 1 then [118, 97, 114, 32] ++ nm ++ [32, 61, 32] else if c = 2 then nm ++ [32, 61, 32] else if c = 3 then nm ++ ([91] ++ wrT ix ++ [93]) ++ [32, 61, 32] else if c = 6 then [114, 101, 116, 117, 114, 110, 32] else if c = 7 then [112, 114, 105, 110, 116, 32] else []) ++ wrT v ++ [59]
 | _ => []
theorem stT_cons (left : By) (c a : Int) (nm : By) (ix v th el g : Tr) : stT left (.slice [st c a nm ix v th el] [g]) = (left ++ [32, 32]) ++ smT (left ++ [32, 32]) (st c a nm ix v th el) ++ [10] ++ stT left g := by
 rw [stT]
 rfl
theorem head_w {t : Tr} (IH : WrC t) (S : Nat → Prop) (B b : Nat) (s : By) (w : World) (v : Value) (wd : ByteArray) (he : EnvW B w) (hb : Bd B b s w) (hx : ExAt S w t v) (hl : s.length + wd.size + (wrT t).length + 3 ≤ 100000000000) :
  Calls Tryz.prog 99 #[.pointer (some ⟨b, 0, none⟩), .string wd, v] w (zl B b s ((wd.data.toList ++ [32, 40]) ++ wrT t ++ [41]) w) := by
 have HPo : Hid (∀ w', Bd B b (s ++ (wd.data.toList ++ [32, 40]) ++ wrT t ++ [41]) w' → FrB B b w w' → zl B b s ((wd.data.toList ++ [32, 40]) ++ wrT t ++ [41]) w (.returned (.tuple #[])) w') := fun w' h1 h2 => ⟨rfl, by simpa using h1, h2⟩
 generalize hG : zl B b s ((wd.data.toList ++ [32, 40]) ++ wrT t ++ [41]) w = G at *
 have HE : Hid (EnvW B w) := he
 have HB : Hid (Bd B b s w) := hb
 have HX : Hid (ExAt S w t v) := hx
 have HIH : Hid (WrC t) := IH
 have HL : Hid (s.length + wd.size + (wrT t).length + 3 ≤ 100000000000) := hl
 have hwd : wd.size ≤ 100000000000 := by omega
 clear hG he hb hx hl IH
 go_enter Tryz.func99, Tryz.ntmps99
 go_wp2_with (go_at_call 34; fail)
 generalize hx1 : wd ++ (⟨#[32, 40]⟩ : ByteArray) = x1
 have ht1 : x1.data.toList = wd.data.toList ++ [32, 40] := by rw [← hx1, qu]
 have hz1 : x1.size = wd.size + 2 := by rw [← hx1, je]; rfl
 refine (ws x1 HB.out HE.out.le (by rw [hz1]; have := HL.out; omega)).mono ?_
 rintro e w1 ⟨rfl, hd, hf⟩
 rw [ht1] at hd
 have HD1 : Hid (Bd B b (s ++ (wd.data.toList ++ [32, 40])) w1) := hd
 have HF1 : Hid (FrB B b w w1) := hf
 clear hd hf hx1 ht1 hz1
 go_wp2_with (go_at_call 101; fail)
 refine (HIH.out S B b _ w1 v (HE.out.go HF1.out) HD1.out ((HF1.out.keeps S HB.out).ex HX.out) (by have := HL.out; simp; have : wd.data.size = wd.size := rfl; omega)).mono ?_
 rintro e w2 ⟨rfl, hd, hf⟩
 have HD2 : Hid (Bd B b (s ++ (wd.data.toList ++ [32, 40]) ++ wrT t) w2) := hd
 have HF2 : Hid (FrB B b w w2) := HF1.out.trans hf
 clear hd hf
 go_wp2_with (go_at_call 34; fail)
 refine (ws ⟨#[41]⟩ HD2.out (HE.out.go HF2.out).le (by show _ + 1 ≤ _; have := HL.out; simp; have : wd.data.size = wd.size := rfl; omega)).mono ?_
 rintro e w3 ⟨rfl, hd, hf⟩
 have HD3 : Hid (Bd B b (s ++ (wd.data.toList ++ [32, 40]) ++ wrT t ++ [41]) w3) := hd
 have HF3 : Hid (FrB B b w w3) := HF2.out.trans hf
 clear hd hf
 go_wp2
 go_end0
 exact HPo.out w3 HD3.out HF3.out
theorem st_open {S : Nat → Prop} {w : World} {c a : Int} {nm : By} {ix v th el g : Tr} {cs : List Value} (h : StAt S w (.slice [st c a nm ix v th el] [g]) cs) :
  ∃ (vi vv : Option Addr) (vt ve : Value) (nt ne : Nat) (ts es rest : List Value), cs = [.int .i64 c, .int .i64 a, str nm, .pointer vi, .pointer vv, vt, ve] ++ rest ∧ ExAt S w ix (.pointer vi) ∧ ExAt S w v (.pointer vv) ∧ RowS S w 147 7 vt nt ts ∧ StAt S w th ts ∧ RowS S w 147 7 ve ne es ∧ StAt S w el es ∧ StAt S w g rest := by
 rw [StAt] at h
 exact h
def PbC (g : Tr) : Prop := ∀ (S : Nat → Prop) (B b : Nat) (s : By) (w : World) (lf : ByteArray) (v : Value) (n : Nat) (cs : List Value), EnvW B w → Bd B b s w → RowS S w 147 7 v n cs → StAt S w g cs → s.length + (blT lf.data.toList g).length ≤ 100000000000 → Calls Tryz.prog 36 #[.pointer (some ⟨b, 0, none⟩), v, .string lf] w (zl B b s (blT lf.data.toList g) w)
theorem ps_var {a : Int} {nm : By} {ix v th el : Tr} (IV : WrC v) (S : Nat → Prop) (B b : Nat) (s : By) (w : World) (y : ByteArray) (pi pv : Option Addr) (s5 : Option Addr) (m5 c5 : Nat) (s6 : Option Addr) (m6 c6 : Nat) (lf : ByteArray) (hy : y.data.toList = nm) (he : EnvW B w) (hb : Bd B b s w) (hxi : ExAt S w ix (.pointer pi)) (hx : ExAt S w v (.pointer pv))  (hl : s.length + ([118, 97, 114, 32] ++ nm ++ [32, 61, 32] ++ wrT v ++ [59]).length ≤ 100000000000) :
  Calls Tryz.prog 63 #[.pointer (some ⟨b, 0, none⟩), .agg #[.int .i64 1, .int .i64 a, .string y, .pointer pi, .pointer pv, .slice s5 m5 c5, .slice s6 m6 c6], .string lf] w (zl B b s ([118, 97, 114, 32] ++ nm ++ [32, 61, 32] ++ wrT v ++ [59]) w) := by
 have hyz : y.size = nm.length := by rw [← hy]; simp
 obtain ⟨W0, hW0⟩ : ∃ W0, W0 = w.alloc (.cells #[.int .i64 1, .int .i64 a, .string y, .pointer pi, .pointer pv, .slice s5 m5 c5, .slice s6 m6 c6] 147) := ⟨_, rfl⟩
 have hb0 : Below w.heap.size w W0 := by rw [hW0]; exact (Below.refl _ _).alloc (Nat.le_refl _) _
 have hf0 : FrB B b w W0 := FrB.of hb0 he.le
 have hD0 : Bd B b s W0 := hb.below hb0
 have hq0 : W0.heap[w.heap.size]? = some (.cells #[.int .i64 1, .int .i64 a, .string y, .pointer pi, .pointer pv, .slice s5 m5 c5, .slice s6 m6 c6] 147) := by rw [hW0]; exact heap_alloc_last w _
 have HPo : Hid (∀ w', Bd B b (s ++ ([118, 97, 114, 32] ++ nm ++ [32, 61, 32] ++ wrT v ++ [59])) w' → FrB B b W0 w' → zl B b s ([118, 97, 114, 32] ++ nm ++ [32, 61, 32] ++ wrT v ++ [59]) w (.returned (.tuple #[])) w') := fun w' h1 h2 => ⟨rfl, h1, hf0.trans h2⟩
 generalize hG : zl B b s ([118, 97, 114, 32] ++ nm ++ [32, 61, 32] ++ wrT v ++ [59]) w = G at *
 have HE : Hid (EnvW B W0) := he.go hf0
 have HDW0 : Hid (Bd B b s W0) := hD0
 have HFW0 : Hid (FrB B b W0 W0) := FrB.refl _ _ _
 have HXI : Hid (∀ W, FrB B b W0 W → ExAt S W ix (.pointer pi)) := fun W h => ((hf0.trans h).keeps S hb).ex hxi
 have HXV : Hid (∀ W, FrB B b W0 W → ExAt S W v (.pointer pv)) := fun W h => ((hf0.trans h).keeps S hb).ex hx
 have HK : Hid (∀ W, FrB B b W0 W → W.heap[w.heap.size]? = some (.cells #[.int .i64 1, .int .i64 a, .string y, .pointer pi, .pointer pv, .slice s5 m5 c5, .slice s6 m6 c6] 147)) := fun W h => (h.keeps (fun _ => True) hD0) _ _ 147 trivial (by decide) hq0
 have HL : Hid (s.length + ([118, 97, 114, 32] ++ nm ++ [32, 61, 32] ++ wrT v ++ [59]).length ≤ 100000000000) := hl
 have HY : Hid (y.data.toList = nm ∧ y.size = nm.length) := ⟨hy, hyz⟩
 have hys : y.size ≤ 100000000000 ∨ True := .inr trivial
 have hyb : y.size ≤ 100000000000 := by rw [hyz]; simp at hl; omega
 clear hG he hb hxi hx hl hy hyz hb0 hf0 hD0 hq0 hys
 have k0W0 := z_ (i := 0) (HK.out W0 HFW0.out) rfl
 have k2W0 := z_ (i := 2) (HK.out W0 HFW0.out) rfl
 go_enter Tryz.func63, Tryz.ntmps63
 go_wp2_with (go_at_call 34; fail)
 rw [← hW0]
 clear hW0
 generalize hx1 : (⟨#[118, 97, 114, 32]⟩ : ByteArray) ++ y ++ (⟨#[32, 61, 32]⟩ : ByteArray) = x1
 have ht1 : x1.data.toList = [118, 97, 114, 32] ++ nm ++ [32, 61, 32] := by rw [← hx1]; simp [HY.out.1]
 have hz1 : x1.size = ([118, 97, 114, 32] ++ nm ++ [32, 61, 32]).length := by rw [← ht1]; simp
 refine (ws x1 HDW0.out (HE.out.go HFW0.out).le (by rw [hz1]; have := HL.out; simp at this ⊢; omega)).mono ?_
 rintro e w1 ⟨rfl, hd, hf⟩
 rw [ht1] at hd
 have HDw1 : Hid (Bd B b (s ++ ([118, 97, 114, 32] ++ nm ++ [32, 61, 32])) w1) := (by first | exact hd | simpa using hd : Bd B b _ w1)
 have HFw1 : Hid (FrB B b W0 w1) := HFW0.out.trans hf
 clear hd hf
 clear hx1 ht1 hz1
 have k4w1 := z_ (i := 4) (HK.out w1 HFw1.out) rfl
 go_wp2_with (go_at_call 101; fail)
 refine (IV S B b _ w1 _ (HE.out.go HFw1.out) HDw1.out (HXV.out w1 HFw1.out) (by have := HL.out; simp at this ⊢; omega)).mono ?_
 rintro e w2 ⟨rfl, hd, hf⟩
 have HDw2 : Hid (Bd B b (s ++ ([118, 97, 114, 32] ++ nm ++ [32, 61, 32]) ++ (wrT v)) w2) := (by first | exact hd | simpa using hd : Bd B b _ w2)
 have HFw2 : Hid (FrB B b W0 w2) := HFw1.out.trans hf
 clear hd hf
 go_wp2_with (go_at_call 34; fail)
 refine (ws ⟨#[59]⟩ HDw2.out (HE.out.go HFw2.out).le (by show _ + 1 ≤ _; have := HL.out; simp at this ⊢; omega)).mono ?_
 rintro e w3 ⟨rfl, hd, hf⟩
 have HDw3 : Hid (Bd B b (s ++ ([118, 97, 114, 32] ++ nm ++ [32, 61, 32]) ++ (wrT v) ++ ([59])) w3) := (by first | exact hd | simpa using hd : Bd B b _ w3)
 have HFw3 : Hid (FrB B b W0 w3) := HFw2.out.trans hf
 clear hd hf
 go_wp2
 go_end0
 exact HPo.out w3 (by first | exact HDw3.out | simpa using HDw3.out) HFw3.out
theorem ps_set {a : Int} {nm : By} {ix v th el : Tr} (IV : WrC v) (S : Nat → Prop) (B b : Nat) (s : By) (w : World) (y : ByteArray) (pi pv : Option Addr) (s5 : Option Addr) (m5 c5 : Nat) (s6 : Option Addr) (m6 c6 : Nat) (lf : ByteArray) (hy : y.data.toList = nm) (he : EnvW B w) (hb : Bd B b s w) (hxi : ExAt S w ix (.pointer pi)) (hx : ExAt S w v (.pointer pv))  (hl : s.length + (nm ++ [32, 61, 32] ++ wrT v ++ [59]).length ≤ 100000000000) :
  Calls Tryz.prog 63 #[.pointer (some ⟨b, 0, none⟩), .agg #[.int .i64 2, .int .i64 a, .string y, .pointer pi, .pointer pv, .slice s5 m5 c5, .slice s6 m6 c6], .string lf] w (zl B b s (nm ++ [32, 61, 32] ++ wrT v ++ [59]) w) := by
 have hyz : y.size = nm.length := by rw [← hy]; simp
 obtain ⟨W0, hW0⟩ : ∃ W0, W0 = w.alloc (.cells #[.int .i64 2, .int .i64 a, .string y, .pointer pi, .pointer pv, .slice s5 m5 c5, .slice s6 m6 c6] 147) := ⟨_, rfl⟩
 have hb0 : Below w.heap.size w W0 := by rw [hW0]; exact (Below.refl _ _).alloc (Nat.le_refl _) _
 have hf0 : FrB B b w W0 := FrB.of hb0 he.le
 have hD0 : Bd B b s W0 := hb.below hb0
 have hq0 : W0.heap[w.heap.size]? = some (.cells #[.int .i64 2, .int .i64 a, .string y, .pointer pi, .pointer pv, .slice s5 m5 c5, .slice s6 m6 c6] 147) := by rw [hW0]; exact heap_alloc_last w _
 have HPo : Hid (∀ w', Bd B b (s ++ (nm ++ [32, 61, 32] ++ wrT v ++ [59])) w' → FrB B b W0 w' → zl B b s (nm ++ [32, 61, 32] ++ wrT v ++ [59]) w (.returned (.tuple #[])) w') := fun w' h1 h2 => ⟨rfl, h1, hf0.trans h2⟩
 generalize hG : zl B b s (nm ++ [32, 61, 32] ++ wrT v ++ [59]) w = G at *
 have HE : Hid (EnvW B W0) := he.go hf0
 have HDW0 : Hid (Bd B b s W0) := hD0
 have HFW0 : Hid (FrB B b W0 W0) := FrB.refl _ _ _
 have HXI : Hid (∀ W, FrB B b W0 W → ExAt S W ix (.pointer pi)) := fun W h => ((hf0.trans h).keeps S hb).ex hxi
 have HXV : Hid (∀ W, FrB B b W0 W → ExAt S W v (.pointer pv)) := fun W h => ((hf0.trans h).keeps S hb).ex hx
 have HK : Hid (∀ W, FrB B b W0 W → W.heap[w.heap.size]? = some (.cells #[.int .i64 2, .int .i64 a, .string y, .pointer pi, .pointer pv, .slice s5 m5 c5, .slice s6 m6 c6] 147)) := fun W h => (h.keeps (fun _ => True) hD0) _ _ 147 trivial (by decide) hq0
 have HL : Hid (s.length + (nm ++ [32, 61, 32] ++ wrT v ++ [59]).length ≤ 100000000000) := hl
 have HY : Hid (y.data.toList = nm ∧ y.size = nm.length) := ⟨hy, hyz⟩
 have hys : y.size ≤ 100000000000 ∨ True := .inr trivial
 have hyb : y.size ≤ 100000000000 := by rw [hyz]; simp at hl; omega
 clear hG he hb hxi hx hl hy hyz hb0 hf0 hD0 hq0 hys
 have k0W0 := z_ (i := 0) (HK.out W0 HFW0.out) rfl
 have k2W0 := z_ (i := 2) (HK.out W0 HFW0.out) rfl
 go_enter Tryz.func63, Tryz.ntmps63
 go_wp2_with (go_at_call 34; fail)
 rw [← hW0]
 clear hW0
 generalize hx1 : y ++ (⟨#[32, 61, 32]⟩ : ByteArray) = x1
 have ht1 : x1.data.toList = nm ++ [32, 61, 32] := by rw [← hx1]; simp [HY.out.1]
 have hz1 : x1.size = (nm ++ [32, 61, 32]).length := by rw [← ht1]; simp
 refine (ws x1 HDW0.out (HE.out.go HFW0.out).le (by rw [hz1]; have := HL.out; simp at this ⊢; omega)).mono ?_
 rintro e w1 ⟨rfl, hd, hf⟩
 rw [ht1] at hd
 have HDw1 : Hid (Bd B b (s ++ (nm ++ [32, 61, 32])) w1) := (by first | exact hd | simpa using hd : Bd B b _ w1)
 have HFw1 : Hid (FrB B b W0 w1) := HFW0.out.trans hf
 clear hd hf
 clear hx1 ht1 hz1
 have k4w1 := z_ (i := 4) (HK.out w1 HFw1.out) rfl
 go_wp2_with (go_at_call 101; fail)
 refine (IV S B b _ w1 _ (HE.out.go HFw1.out) HDw1.out (HXV.out w1 HFw1.out) (by have := HL.out; simp at this ⊢; omega)).mono ?_
 rintro e w2 ⟨rfl, hd, hf⟩
 have HDw2 : Hid (Bd B b (s ++ (nm ++ [32, 61, 32]) ++ (wrT v)) w2) := (by first | exact hd | simpa using hd : Bd B b _ w2)
 have HFw2 : Hid (FrB B b W0 w2) := HFw1.out.trans hf
 clear hd hf
 go_wp2_with (go_at_call 34; fail)
 refine (ws ⟨#[59]⟩ HDw2.out (HE.out.go HFw2.out).le (by show _ + 1 ≤ _; have := HL.out; simp at this ⊢; omega)).mono ?_
 rintro e w3 ⟨rfl, hd, hf⟩
 have HDw3 : Hid (Bd B b (s ++ (nm ++ [32, 61, 32]) ++ (wrT v) ++ ([59])) w3) := (by first | exact hd | simpa using hd : Bd B b _ w3)
 have HFw3 : Hid (FrB B b W0 w3) := HFw2.out.trans hf
 clear hd hf
 go_wp2
 go_end0
 exact HPo.out w3 (by first | exact HDw3.out | simpa using HDw3.out) HFw3.out
theorem ps_put {a : Int} {nm : By} {ix v th el : Tr} (IV : WrC v) (II : WrC ix) (S : Nat → Prop) (B b : Nat) (s : By) (w : World) (y : ByteArray) (pi pv : Option Addr) (s5 : Option Addr) (m5 c5 : Nat) (s6 : Option Addr) (m6 c6 : Nat) (lf : ByteArray) (hy : y.data.toList = nm) (he : EnvW B w) (hb : Bd B b s w) (hxi : ExAt S w ix (.pointer pi)) (hx : ExAt S w v (.pointer pv))  (hl : s.length + (nm ++ ([91] ++ wrT ix ++ [93]) ++ [32, 61, 32] ++ wrT v ++ [59]).length ≤ 100000000000) :
  Calls Tryz.prog 63 #[.pointer (some ⟨b, 0, none⟩), .agg #[.int .i64 3, .int .i64 a, .string y, .pointer pi, .pointer pv, .slice s5 m5 c5, .slice s6 m6 c6], .string lf] w (zl B b s (nm ++ ([91] ++ wrT ix ++ [93]) ++ [32, 61, 32] ++ wrT v ++ [59]) w) := by
 have hyz : y.size = nm.length := by rw [← hy]; simp
 obtain ⟨W0, hW0⟩ : ∃ W0, W0 = w.alloc (.cells #[.int .i64 3, .int .i64 a, .string y, .pointer pi, .pointer pv, .slice s5 m5 c5, .slice s6 m6 c6] 147) := ⟨_, rfl⟩
 have hb0 : Below w.heap.size w W0 := by rw [hW0]; exact (Below.refl _ _).alloc (Nat.le_refl _) _
 have hf0 : FrB B b w W0 := FrB.of hb0 he.le
 have hD0 : Bd B b s W0 := hb.below hb0
 have hq0 : W0.heap[w.heap.size]? = some (.cells #[.int .i64 3, .int .i64 a, .string y, .pointer pi, .pointer pv, .slice s5 m5 c5, .slice s6 m6 c6] 147) := by rw [hW0]; exact heap_alloc_last w _
 have HPo : Hid (∀ w', Bd B b (s ++ (nm ++ ([91] ++ wrT ix ++ [93]) ++ [32, 61, 32] ++ wrT v ++ [59])) w' → FrB B b W0 w' → zl B b s (nm ++ ([91] ++ wrT ix ++ [93]) ++ [32, 61, 32] ++ wrT v ++ [59]) w (.returned (.tuple #[])) w') := fun w' h1 h2 => ⟨rfl, h1, hf0.trans h2⟩
 generalize hG : zl B b s (nm ++ ([91] ++ wrT ix ++ [93]) ++ [32, 61, 32] ++ wrT v ++ [59]) w = G at *
 have HE : Hid (EnvW B W0) := he.go hf0
 have HDW0 : Hid (Bd B b s W0) := hD0
 have HFW0 : Hid (FrB B b W0 W0) := FrB.refl _ _ _
 have HXI : Hid (∀ W, FrB B b W0 W → ExAt S W ix (.pointer pi)) := fun W h => ((hf0.trans h).keeps S hb).ex hxi
 have HXV : Hid (∀ W, FrB B b W0 W → ExAt S W v (.pointer pv)) := fun W h => ((hf0.trans h).keeps S hb).ex hx
 have HK : Hid (∀ W, FrB B b W0 W → W.heap[w.heap.size]? = some (.cells #[.int .i64 3, .int .i64 a, .string y, .pointer pi, .pointer pv, .slice s5 m5 c5, .slice s6 m6 c6] 147)) := fun W h => (h.keeps (fun _ => True) hD0) _ _ 147 trivial (by decide) hq0
 have HL : Hid (s.length + (nm ++ ([91] ++ wrT ix ++ [93]) ++ [32, 61, 32] ++ wrT v ++ [59]).length ≤ 100000000000) := hl
 have HY : Hid (y.data.toList = nm ∧ y.size = nm.length) := ⟨hy, hyz⟩
 have hys : y.size ≤ 100000000000 ∨ True := .inr trivial
 clear hG he hb hxi hx hl hy hyz hb0 hf0 hD0 hq0 hys
 have k0W0 := z_ (i := 0) (HK.out W0 HFW0.out) rfl
 have k2W0 := z_ (i := 2) (HK.out W0 HFW0.out) rfl
 go_enter Tryz.func63, Tryz.ntmps63
 go_wp2_with (go_at_call 34; fail)
 rw [← hW0]
 clear hW0
 obtain ⟨x1, hx1⟩ : ∃ x1, x1 = y := ⟨_, rfl⟩
 rw [← hx1]
 have ht1 : x1.data.toList = nm := by rw [hx1]; exact HY.out.1
 have hz1 : x1.size = (nm).length := by rw [← ht1]; simp
 refine (ws x1 HDW0.out (HE.out.go HFW0.out).le (by rw [hz1]; have := HL.out; simp at this ⊢; omega)).mono ?_
 rintro e w1 ⟨rfl, hd, hf⟩
 rw [ht1] at hd
 have HDw1 : Hid (Bd B b (s ++ (nm)) w1) := (by first | exact hd | simpa using hd : Bd B b _ w1)
 have HFw1 : Hid (FrB B b W0 w1) := HFW0.out.trans hf
 clear hd hf
 clear hx1 ht1 hz1
 have k3w1 := z_ (i := 3) (HK.out w1 HFw1.out) rfl
 go_wp2_with (go_at_call 100; fail)
 refine (item_at II S B b _ w1 _ (HE.out.go HFw1.out) HDw1.out (HXI.out w1 HFw1.out) (by have := HL.out; simp at this ⊢; omega)).mono ?_
 rintro e w2 ⟨rfl, hd, hf⟩
 have HDw2 : Hid (Bd B b (s ++ (nm) ++ ([91] ++ wrT ix ++ [93])) w2) := (by first | exact hd | simpa using hd : Bd B b _ w2)
 have HFw2 : Hid (FrB B b W0 w2) := HFw1.out.trans hf
 clear hd hf
 go_wp2_with (go_at_call 34; fail)
 refine (ws ⟨#[32, 61, 32]⟩ HDw2.out (HE.out.go HFw2.out).le (by show _ + 3 ≤ _; have := HL.out; simp at this ⊢; omega)).mono ?_
 rintro e w3 ⟨rfl, hd, hf⟩
 have HDw3 : Hid (Bd B b (s ++ (nm) ++ ([91] ++ wrT ix ++ [93]) ++ ([32, 61, 32])) w3) := (by first | exact hd | simpa using hd : Bd B b _ w3)
 have HFw3 : Hid (FrB B b W0 w3) := HFw2.out.trans hf
 clear hd hf
 have k4w3 := z_ (i := 4) (HK.out w3 HFw3.out) rfl
 go_wp2_with (go_at_call 101; fail)
 refine (IV S B b _ w3 _ (HE.out.go HFw3.out) HDw3.out (HXV.out w3 HFw3.out) (by have := HL.out; simp at this ⊢; omega)).mono ?_
 rintro e w4 ⟨rfl, hd, hf⟩
 have HDw4 : Hid (Bd B b (s ++ (nm) ++ ([91] ++ wrT ix ++ [93]) ++ ([32, 61, 32]) ++ (wrT v)) w4) := (by first | exact hd | simpa using hd : Bd B b _ w4)
 have HFw4 : Hid (FrB B b W0 w4) := HFw3.out.trans hf
 clear hd hf
 go_wp2_with (go_at_call 34; fail)
 refine (ws ⟨#[59]⟩ HDw4.out (HE.out.go HFw4.out).le (by show _ + 1 ≤ _; have := HL.out; simp at this ⊢; omega)).mono ?_
 rintro e w5 ⟨rfl, hd, hf⟩
 have HDw5 : Hid (Bd B b (s ++ (nm) ++ ([91] ++ wrT ix ++ [93]) ++ ([32, 61, 32]) ++ (wrT v) ++ ([59])) w5) := (by first | exact hd | simpa using hd : Bd B b _ w5)
 have HFw5 : Hid (FrB B b W0 w5) := HFw4.out.trans hf
 clear hd hf
 go_wp2
 go_end0
 exact HPo.out w5 (by first | exact HDw5.out | simpa using HDw5.out) HFw5.out
theorem ps_return {a : Int} {nm : By} {ix v th el : Tr} (IV : WrC v) (S : Nat → Prop) (B b : Nat) (s : By) (w : World) (y : ByteArray) (pi pv : Option Addr) (s5 : Option Addr) (m5 c5 : Nat) (s6 : Option Addr) (m6 c6 : Nat) (lf : ByteArray) (hy : y.data.toList = nm) (he : EnvW B w) (hb : Bd B b s w) (hxi : ExAt S w ix (.pointer pi)) (hx : ExAt S w v (.pointer pv))  (hl : s.length + ([114, 101, 116, 117, 114, 110, 32] ++ wrT v ++ [59]).length ≤ 100000000000) :
  Calls Tryz.prog 63 #[.pointer (some ⟨b, 0, none⟩), .agg #[.int .i64 6, .int .i64 a, .string y, .pointer pi, .pointer pv, .slice s5 m5 c5, .slice s6 m6 c6], .string lf] w (zl B b s ([114, 101, 116, 117, 114, 110, 32] ++ wrT v ++ [59]) w) := by
 have hyz : y.size = nm.length := by rw [← hy]; simp
 obtain ⟨W0, hW0⟩ : ∃ W0, W0 = w.alloc (.cells #[.int .i64 6, .int .i64 a, .string y, .pointer pi, .pointer pv, .slice s5 m5 c5, .slice s6 m6 c6] 147) := ⟨_, rfl⟩
 have hb0 : Below w.heap.size w W0 := by rw [hW0]; exact (Below.refl _ _).alloc (Nat.le_refl _) _
 have hf0 : FrB B b w W0 := FrB.of hb0 he.le
 have hD0 : Bd B b s W0 := hb.below hb0
 have hq0 : W0.heap[w.heap.size]? = some (.cells #[.int .i64 6, .int .i64 a, .string y, .pointer pi, .pointer pv, .slice s5 m5 c5, .slice s6 m6 c6] 147) := by rw [hW0]; exact heap_alloc_last w _
 have HPo : Hid (∀ w', Bd B b (s ++ ([114, 101, 116, 117, 114, 110, 32] ++ wrT v ++ [59])) w' → FrB B b W0 w' → zl B b s ([114, 101, 116, 117, 114, 110, 32] ++ wrT v ++ [59]) w (.returned (.tuple #[])) w') := fun w' h1 h2 => ⟨rfl, h1, hf0.trans h2⟩
 generalize hG : zl B b s ([114, 101, 116, 117, 114, 110, 32] ++ wrT v ++ [59]) w = G at *
 have HE : Hid (EnvW B W0) := he.go hf0
 have HDW0 : Hid (Bd B b s W0) := hD0
 have HFW0 : Hid (FrB B b W0 W0) := FrB.refl _ _ _
 have HXI : Hid (∀ W, FrB B b W0 W → ExAt S W ix (.pointer pi)) := fun W h => ((hf0.trans h).keeps S hb).ex hxi
 have HXV : Hid (∀ W, FrB B b W0 W → ExAt S W v (.pointer pv)) := fun W h => ((hf0.trans h).keeps S hb).ex hx
 have HK : Hid (∀ W, FrB B b W0 W → W.heap[w.heap.size]? = some (.cells #[.int .i64 6, .int .i64 a, .string y, .pointer pi, .pointer pv, .slice s5 m5 c5, .slice s6 m6 c6] 147)) := fun W h => (h.keeps (fun _ => True) hD0) _ _ 147 trivial (by decide) hq0
 have HL : Hid (s.length + ([114, 101, 116, 117, 114, 110, 32] ++ wrT v ++ [59]).length ≤ 100000000000) := hl
 have HY : Hid (y.data.toList = nm ∧ y.size = nm.length) := ⟨hy, hyz⟩
 have hys : y.size ≤ 100000000000 ∨ True := .inr trivial
 clear hG he hb hxi hx hl hy hyz hb0 hf0 hD0 hq0 hys
 have k0W0 := z_ (i := 0) (HK.out W0 HFW0.out) rfl
 go_enter Tryz.func63, Tryz.ntmps63
 go_wp2_with (go_at_call 34; fail)
 rw [← hW0]
 clear hW0
 refine (ws ⟨#[114, 101, 116, 117, 114, 110, 32]⟩ HDW0.out (HE.out.go HFW0.out).le (by show _ + 7 ≤ _; have := HL.out; simp at this ⊢; omega)).mono ?_
 rintro e w1 ⟨rfl, hd, hf⟩
 have HDw1 : Hid (Bd B b (s ++ ([114, 101, 116, 117, 114, 110, 32])) w1) := (by first | exact hd | simpa using hd : Bd B b _ w1)
 have HFw1 : Hid (FrB B b W0 w1) := HFW0.out.trans hf
 clear hd hf
 have k4w1 := z_ (i := 4) (HK.out w1 HFw1.out) rfl
 go_wp2_with (go_at_call 101; fail)
 refine (IV S B b _ w1 _ (HE.out.go HFw1.out) HDw1.out (HXV.out w1 HFw1.out) (by have := HL.out; simp at this ⊢; omega)).mono ?_
 rintro e w2 ⟨rfl, hd, hf⟩
 have HDw2 : Hid (Bd B b (s ++ ([114, 101, 116, 117, 114, 110, 32]) ++ (wrT v)) w2) := (by first | exact hd | simpa using hd : Bd B b _ w2)
 have HFw2 : Hid (FrB B b W0 w2) := HFw1.out.trans hf
 clear hd hf
 go_wp2_with (go_at_call 34; fail)
 refine (ws ⟨#[59]⟩ HDw2.out (HE.out.go HFw2.out).le (by show _ + 1 ≤ _; have := HL.out; simp at this ⊢; omega)).mono ?_
 rintro e w3 ⟨rfl, hd, hf⟩
 have HDw3 : Hid (Bd B b (s ++ ([114, 101, 116, 117, 114, 110, 32]) ++ (wrT v) ++ ([59])) w3) := (by first | exact hd | simpa using hd : Bd B b _ w3)
 have HFw3 : Hid (FrB B b W0 w3) := HFw2.out.trans hf
 clear hd hf
 go_wp2
 go_end0
 exact HPo.out w3 (by first | exact HDw3.out | simpa using HDw3.out) HFw3.out
theorem ps_print {a : Int} {nm : By} {ix v th el : Tr} (IV : WrC v) (S : Nat → Prop) (B b : Nat) (s : By) (w : World) (y : ByteArray) (pi pv : Option Addr) (s5 : Option Addr) (m5 c5 : Nat) (s6 : Option Addr) (m6 c6 : Nat) (lf : ByteArray) (hy : y.data.toList = nm) (he : EnvW B w) (hb : Bd B b s w) (hxi : ExAt S w ix (.pointer pi)) (hx : ExAt S w v (.pointer pv))  (hl : s.length + ([112, 114, 105, 110, 116, 32] ++ wrT v ++ [59]).length ≤ 100000000000) :
  Calls Tryz.prog 63 #[.pointer (some ⟨b, 0, none⟩), .agg #[.int .i64 7, .int .i64 a, .string y, .pointer pi, .pointer pv, .slice s5 m5 c5, .slice s6 m6 c6], .string lf] w (zl B b s ([112, 114, 105, 110, 116, 32] ++ wrT v ++ [59]) w) := by
 have hyz : y.size = nm.length := by rw [← hy]; simp
 obtain ⟨W0, hW0⟩ : ∃ W0, W0 = w.alloc (.cells #[.int .i64 7, .int .i64 a, .string y, .pointer pi, .pointer pv, .slice s5 m5 c5, .slice s6 m6 c6] 147) := ⟨_, rfl⟩
 have hb0 : Below w.heap.size w W0 := by rw [hW0]; exact (Below.refl _ _).alloc (Nat.le_refl _) _
 have hf0 : FrB B b w W0 := FrB.of hb0 he.le
 have hD0 : Bd B b s W0 := hb.below hb0
 have hq0 : W0.heap[w.heap.size]? = some (.cells #[.int .i64 7, .int .i64 a, .string y, .pointer pi, .pointer pv, .slice s5 m5 c5, .slice s6 m6 c6] 147) := by rw [hW0]; exact heap_alloc_last w _
 have HPo : Hid (∀ w', Bd B b (s ++ ([112, 114, 105, 110, 116, 32] ++ wrT v ++ [59])) w' → FrB B b W0 w' → zl B b s ([112, 114, 105, 110, 116, 32] ++ wrT v ++ [59]) w (.returned (.tuple #[])) w') := fun w' h1 h2 => ⟨rfl, h1, hf0.trans h2⟩
 generalize hG : zl B b s ([112, 114, 105, 110, 116, 32] ++ wrT v ++ [59]) w = G at *
 have HE : Hid (EnvW B W0) := he.go hf0
 have HDW0 : Hid (Bd B b s W0) := hD0
 have HFW0 : Hid (FrB B b W0 W0) := FrB.refl _ _ _
 have HXI : Hid (∀ W, FrB B b W0 W → ExAt S W ix (.pointer pi)) := fun W h => ((hf0.trans h).keeps S hb).ex hxi
 have HXV : Hid (∀ W, FrB B b W0 W → ExAt S W v (.pointer pv)) := fun W h => ((hf0.trans h).keeps S hb).ex hx
 have HK : Hid (∀ W, FrB B b W0 W → W.heap[w.heap.size]? = some (.cells #[.int .i64 7, .int .i64 a, .string y, .pointer pi, .pointer pv, .slice s5 m5 c5, .slice s6 m6 c6] 147)) := fun W h => (h.keeps (fun _ => True) hD0) _ _ 147 trivial (by decide) hq0
 have HL : Hid (s.length + ([112, 114, 105, 110, 116, 32] ++ wrT v ++ [59]).length ≤ 100000000000) := hl
 have HY : Hid (y.data.toList = nm ∧ y.size = nm.length) := ⟨hy, hyz⟩
 have hys : y.size ≤ 100000000000 ∨ True := .inr trivial
 clear hG he hb hxi hx hl hy hyz hb0 hf0 hD0 hq0 hys
 have k0W0 := z_ (i := 0) (HK.out W0 HFW0.out) rfl
 go_enter Tryz.func63, Tryz.ntmps63
 go_wp2_with (go_at_call 34; fail)
 rw [← hW0]
 clear hW0
 refine (ws ⟨#[112, 114, 105, 110, 116, 32]⟩ HDW0.out (HE.out.go HFW0.out).le (by show _ + 6 ≤ _; have := HL.out; simp at this ⊢; omega)).mono ?_
 rintro e w1 ⟨rfl, hd, hf⟩
 have HDw1 : Hid (Bd B b (s ++ ([112, 114, 105, 110, 116, 32])) w1) := (by first | exact hd | simpa using hd : Bd B b _ w1)
 have HFw1 : Hid (FrB B b W0 w1) := HFW0.out.trans hf
 clear hd hf
 have k4w1 := z_ (i := 4) (HK.out w1 HFw1.out) rfl
 go_wp2_with (go_at_call 101; fail)
 refine (IV S B b _ w1 _ (HE.out.go HFw1.out) HDw1.out (HXV.out w1 HFw1.out) (by have := HL.out; simp at this ⊢; omega)).mono ?_
 rintro e w2 ⟨rfl, hd, hf⟩
 have HDw2 : Hid (Bd B b (s ++ ([112, 114, 105, 110, 116, 32]) ++ (wrT v)) w2) := (by first | exact hd | simpa using hd : Bd B b _ w2)
 have HFw2 : Hid (FrB B b W0 w2) := HFw1.out.trans hf
 clear hd hf
 go_wp2_with (go_at_call 34; fail)
 refine (ws ⟨#[59]⟩ HDw2.out (HE.out.go HFw2.out).le (by show _ + 1 ≤ _; have := HL.out; simp at this ⊢; omega)).mono ?_
 rintro e w3 ⟨rfl, hd, hf⟩
 have HDw3 : Hid (Bd B b (s ++ ([112, 114, 105, 110, 116, 32]) ++ (wrT v) ++ ([59])) w3) := (by first | exact hd | simpa using hd : Bd B b _ w3)
 have HFw3 : Hid (FrB B b W0 w3) := HFw2.out.trans hf
 clear hd hf
 go_wp2
 go_end0
 exact HPo.out w3 (by first | exact HDw3.out | simpa using HDw3.out) HFw3.out
theorem ps_do {a : Int} {nm : By} {ix v th el : Tr} (IV : WrC v) (S : Nat → Prop) (B b : Nat) (s : By) (w : World) (y : ByteArray) (pi pv : Option Addr) (s5 : Option Addr) (m5 c5 : Nat) (s6 : Option Addr) (m6 c6 : Nat) (lf : ByteArray) (hy : y.data.toList = nm) (he : EnvW B w) (hb : Bd B b s w) (hxi : ExAt S w ix (.pointer pi)) (hx : ExAt S w v (.pointer pv))  (hl : s.length + (wrT v ++ [59]).length ≤ 100000000000) :
  Calls Tryz.prog 63 #[.pointer (some ⟨b, 0, none⟩), .agg #[.int .i64 8, .int .i64 a, .string y, .pointer pi, .pointer pv, .slice s5 m5 c5, .slice s6 m6 c6], .string lf] w (zl B b s (wrT v ++ [59]) w) := by
 have hyz : y.size = nm.length := by rw [← hy]; simp
 obtain ⟨W0, hW0⟩ : ∃ W0, W0 = w.alloc (.cells #[.int .i64 8, .int .i64 a, .string y, .pointer pi, .pointer pv, .slice s5 m5 c5, .slice s6 m6 c6] 147) := ⟨_, rfl⟩
 have hb0 : Below w.heap.size w W0 := by rw [hW0]; exact (Below.refl _ _).alloc (Nat.le_refl _) _
 have hf0 : FrB B b w W0 := FrB.of hb0 he.le
 have hD0 : Bd B b s W0 := hb.below hb0
 have hq0 : W0.heap[w.heap.size]? = some (.cells #[.int .i64 8, .int .i64 a, .string y, .pointer pi, .pointer pv, .slice s5 m5 c5, .slice s6 m6 c6] 147) := by rw [hW0]; exact heap_alloc_last w _
 have HPo : Hid (∀ w', Bd B b (s ++ (wrT v ++ [59])) w' → FrB B b W0 w' → zl B b s (wrT v ++ [59]) w (.returned (.tuple #[])) w') := fun w' h1 h2 => ⟨rfl, h1, hf0.trans h2⟩
 generalize hG : zl B b s (wrT v ++ [59]) w = G at *
 have HE : Hid (EnvW B W0) := he.go hf0
 have HDW0 : Hid (Bd B b s W0) := hD0
 have HFW0 : Hid (FrB B b W0 W0) := FrB.refl _ _ _
 have HXI : Hid (∀ W, FrB B b W0 W → ExAt S W ix (.pointer pi)) := fun W h => ((hf0.trans h).keeps S hb).ex hxi
 have HXV : Hid (∀ W, FrB B b W0 W → ExAt S W v (.pointer pv)) := fun W h => ((hf0.trans h).keeps S hb).ex hx
 have HK : Hid (∀ W, FrB B b W0 W → W.heap[w.heap.size]? = some (.cells #[.int .i64 8, .int .i64 a, .string y, .pointer pi, .pointer pv, .slice s5 m5 c5, .slice s6 m6 c6] 147)) := fun W h => (h.keeps (fun _ => True) hD0) _ _ 147 trivial (by decide) hq0
 have HL : Hid (s.length + (wrT v ++ [59]).length ≤ 100000000000) := hl
 have HY : Hid (y.data.toList = nm ∧ y.size = nm.length) := ⟨hy, hyz⟩
 have hys : y.size ≤ 100000000000 ∨ True := .inr trivial
 clear hG he hb hxi hx hl hy hyz hb0 hf0 hD0 hq0 hys
 have k0W0 := z_ (i := 0) (HK.out W0 HFW0.out) rfl
 have k4W0 := z_ (i := 4) (HK.out W0 HFW0.out) rfl
 go_enter Tryz.func63, Tryz.ntmps63
 go_wp2_with (go_at_call 101; fail)
 rw [← hW0]
 clear hW0
 refine (IV S B b _ W0 _ (HE.out.go HFW0.out) HDW0.out (HXV.out W0 HFW0.out) (by have := HL.out; simp at this ⊢; omega)).mono ?_
 rintro e w1 ⟨rfl, hd, hf⟩
 have HDw1 : Hid (Bd B b (s ++ (wrT v)) w1) := (by first | exact hd | simpa using hd : Bd B b _ w1)
 have HFw1 : Hid (FrB B b W0 w1) := HFW0.out.trans hf
 clear hd hf
 go_wp2_with (go_at_call 34; fail)
 refine (ws ⟨#[59]⟩ HDw1.out (HE.out.go HFw1.out).le (by show _ + 1 ≤ _; have := HL.out; simp at this ⊢; omega)).mono ?_
 rintro e w2 ⟨rfl, hd, hf⟩
 have HDw2 : Hid (Bd B b (s ++ (wrT v) ++ ([59])) w2) := (by first | exact hd | simpa using hd : Bd B b _ w2)
 have HFw2 : Hid (FrB B b W0 w2) := HFw1.out.trans hf
 clear hd hf
 go_wp2
 go_end0
 exact HPo.out w2 (by first | exact HDw2.out | simpa using HDw2.out) HFw2.out
theorem ps_while {a : Int} {nm : By} {ix v th el : Tr} (IV : WrC v) (IT : PbC th) (S : Nat → Prop) (B b : Nat) (s : By) (w : World) (y : ByteArray) (pi pv : Option Addr) (s5 : Option Addr) (m5 c5 : Nat) (s6 : Option Addr) (m6 c6 : Nat) (lf : ByteArray) (hy : y.data.toList = nm) (he : EnvW B w) (hb : Bd B b s w) (hxi : ExAt S w ix (.pointer pi)) (hx : ExAt S w v (.pointer pv)) {nt : Nat} {ts : List Value} (hrt : RowS S w 147 7 (.slice s5 m5 c5) nt ts) (hst : StAt S w th ts) (hl : s.length + (([119, 104, 105, 108, 101] ++ [32, 40]) ++ wrT v ++ [41] ++ blT lf.data.toList th).length ≤ 100000000000) :
  Calls Tryz.prog 63 #[.pointer (some ⟨b, 0, none⟩), .agg #[.int .i64 5, .int .i64 a, .string y, .pointer pi, .pointer pv, .slice s5 m5 c5, .slice s6 m6 c6], .string lf] w (zl B b s (([119, 104, 105, 108, 101] ++ [32, 40]) ++ wrT v ++ [41] ++ blT lf.data.toList th) w) := by
 have hyz : y.size = nm.length := by rw [← hy]; simp
 obtain ⟨W0, hW0⟩ : ∃ W0, W0 = w.alloc (.cells #[.int .i64 5, .int .i64 a, .string y, .pointer pi, .pointer pv, .slice s5 m5 c5, .slice s6 m6 c6] 147) := ⟨_, rfl⟩
 have hb0 : Below w.heap.size w W0 := by rw [hW0]; exact (Below.refl _ _).alloc (Nat.le_refl _) _
 have hf0 : FrB B b w W0 := FrB.of hb0 he.le
 have hD0 : Bd B b s W0 := hb.below hb0
 have hq0 : W0.heap[w.heap.size]? = some (.cells #[.int .i64 5, .int .i64 a, .string y, .pointer pi, .pointer pv, .slice s5 m5 c5, .slice s6 m6 c6] 147) := by rw [hW0]; exact heap_alloc_last w _
 have HPo : Hid (∀ w', Bd B b (s ++ (([119, 104, 105, 108, 101] ++ [32, 40]) ++ wrT v ++ [41] ++ blT lf.data.toList th)) w' → FrB B b W0 w' → zl B b s (([119, 104, 105, 108, 101] ++ [32, 40]) ++ wrT v ++ [41] ++ blT lf.data.toList th) w (.returned (.tuple #[])) w') := fun w' h1 h2 => ⟨rfl, h1, hf0.trans h2⟩
 generalize hG : zl B b s (([119, 104, 105, 108, 101] ++ [32, 40]) ++ wrT v ++ [41] ++ blT lf.data.toList th) w = G at *
 have HE : Hid (EnvW B W0) := he.go hf0
 have HDW0 : Hid (Bd B b s W0) := hD0
 have HFW0 : Hid (FrB B b W0 W0) := FrB.refl _ _ _
 have HXI : Hid (∀ W, FrB B b W0 W → ExAt S W ix (.pointer pi)) := fun W h => ((hf0.trans h).keeps S hb).ex hxi
 have HXV : Hid (∀ W, FrB B b W0 W → ExAt S W v (.pointer pv)) := fun W h => ((hf0.trans h).keeps S hb).ex hx
 have HK : Hid (∀ W, FrB B b W0 W → W.heap[w.heap.size]? = some (.cells #[.int .i64 5, .int .i64 a, .string y, .pointer pi, .pointer pv, .slice s5 m5 c5, .slice s6 m6 c6] 147)) := fun W h => (h.keeps (fun _ => True) hD0) _ _ 147 trivial (by decide) hq0
 have HL : Hid (s.length + (([119, 104, 105, 108, 101] ++ [32, 40]) ++ wrT v ++ [41] ++ blT lf.data.toList th).length ≤ 100000000000) := hl
 have HY : Hid (y.data.toList = nm ∧ y.size = nm.length) := ⟨hy, hyz⟩
 have hys : y.size ≤ 100000000000 ∨ True := .inr trivial
 have HT : Hid (∀ W, FrB B b W0 W → RowS S W 147 7 (.slice s5 m5 c5) nt ts ∧ StAt S W th ts) := fun W h => ⟨hrt.kept ((hf0.trans h).keeps S hb) (by decide), StAt.kept ((hf0.trans h).keeps S hb) _ _ hst⟩
 clear hrt hst
 clear hG he hb hxi hx hl hy hyz hb0 hf0 hD0 hq0 hys
 have k0W0 := z_ (i := 0) (HK.out W0 HFW0.out) rfl
 have k4W0 := z_ (i := 4) (HK.out W0 HFW0.out) rfl
 go_enter Tryz.func63, Tryz.ntmps63
 go_wp2_with (go_at_call 99; fail)
 rw [← hW0]
 clear hW0
 refine (head_w IV S B b _ W0 _ ⟨#[119, 104, 105, 108, 101]⟩ (HE.out.go HFW0.out) HDW0.out (HXV.out W0 HFW0.out) (by show s.length + 5 + _ + 3 ≤ _; have := HL.out; simp at this ⊢; omega)).mono ?_
 rintro e w1 ⟨rfl, hd, hf⟩
 have HDw1 : Hid (Bd B b (s ++ (([119, 104, 105, 108, 101] ++ [32, 40]) ++ wrT v ++ [41])) w1) := (by first | exact hd | simpa using hd : Bd B b _ w1)
 have HFw1 : Hid (FrB B b W0 w1) := HFW0.out.trans hf
 clear hd hf
 have k5w1 := z_ (i := 5) (HK.out w1 HFw1.out) rfl
 go_wp2_with (go_at_call 36; fail)
 refine (IT S B b _ w1 lf _ _ _ (HE.out.go HFw1.out) HDw1.out (HT.out w1 HFw1.out).1 (HT.out w1 HFw1.out).2 (by have := HL.out; simp at this ⊢; omega)).mono ?_
 rintro e w2 ⟨rfl, hd, hf⟩
 have HDw2 : Hid (Bd B b (s ++ (([119, 104, 105, 108, 101] ++ [32, 40]) ++ wrT v ++ [41]) ++ (blT lf.data.toList th)) w2) := (by first | exact hd | simpa using hd : Bd B b _ w2)
 have HFw2 : Hid (FrB B b W0 w2) := HFw1.out.trans hf
 clear hd hf
 go_wp2
 try simp only [Exit.inBlock, Exit.then]
 refine bodyPost_ret (results_none rfl _ _ _) rfl ?_
 exact HPo.out w2 (by first | exact HDw2.out | simpa using HDw2.out) HFw2.out
theorem ps_if {a : Int} {nm : By} {ix v th el : Tr} (IV : WrC v) (IT : PbC th) (S : Nat → Prop) (B b : Nat) (s : By) (w : World) (y : ByteArray) (pi pv : Option Addr) (s5 : Option Addr) (m5 c5 : Nat) (s6 : Option Addr) (m6 c6 : Nat) (lf : ByteArray) (hy : y.data.toList = nm) (he : EnvW B w) (hb : Bd B b s w) (hxi : ExAt S w ix (.pointer pi)) (hx : ExAt S w v (.pointer pv)) {nt : Nat} {ts : List Value} (hrt : RowS S w 147 7 (.slice s5 m5 c5) nt ts) (hst : StAt S w th ts) (hm : m6 = 0) (hl : s.length + (([105, 102] ++ [32, 40]) ++ wrT v ++ [41] ++ blT lf.data.toList th).length ≤ 100000000000) :
  Calls Tryz.prog 63 #[.pointer (some ⟨b, 0, none⟩), .agg #[.int .i64 4, .int .i64 a, .string y, .pointer pi, .pointer pv, .slice s5 m5 c5, .slice s6 m6 c6], .string lf] w (zl B b s (([105, 102] ++ [32, 40]) ++ wrT v ++ [41] ++ blT lf.data.toList th) w) := by
 have hyz : y.size = nm.length := by rw [← hy]; simp
 obtain ⟨W0, hW0⟩ : ∃ W0, W0 = w.alloc (.cells #[.int .i64 4, .int .i64 a, .string y, .pointer pi, .pointer pv, .slice s5 m5 c5, .slice s6 m6 c6] 147) := ⟨_, rfl⟩
 have hb0 : Below w.heap.size w W0 := by rw [hW0]; exact (Below.refl _ _).alloc (Nat.le_refl _) _
 have hf0 : FrB B b w W0 := FrB.of hb0 he.le
 have hD0 : Bd B b s W0 := hb.below hb0
 have hq0 : W0.heap[w.heap.size]? = some (.cells #[.int .i64 4, .int .i64 a, .string y, .pointer pi, .pointer pv, .slice s5 m5 c5, .slice s6 m6 c6] 147) := by rw [hW0]; exact heap_alloc_last w _
 have HPo : Hid (∀ w', Bd B b (s ++ (([105, 102] ++ [32, 40]) ++ wrT v ++ [41] ++ blT lf.data.toList th)) w' → FrB B b W0 w' → zl B b s (([105, 102] ++ [32, 40]) ++ wrT v ++ [41] ++ blT lf.data.toList th) w (.returned (.tuple #[])) w') := fun w' h1 h2 => ⟨rfl, h1, hf0.trans h2⟩
 generalize hG : zl B b s (([105, 102] ++ [32, 40]) ++ wrT v ++ [41] ++ blT lf.data.toList th) w = G at *
 have HE : Hid (EnvW B W0) := he.go hf0
 have HDW0 : Hid (Bd B b s W0) := hD0
 have HFW0 : Hid (FrB B b W0 W0) := FrB.refl _ _ _
 have HXI : Hid (∀ W, FrB B b W0 W → ExAt S W ix (.pointer pi)) := fun W h => ((hf0.trans h).keeps S hb).ex hxi
 have HXV : Hid (∀ W, FrB B b W0 W → ExAt S W v (.pointer pv)) := fun W h => ((hf0.trans h).keeps S hb).ex hx
 have HK : Hid (∀ W, FrB B b W0 W → W.heap[w.heap.size]? = some (.cells #[.int .i64 4, .int .i64 a, .string y, .pointer pi, .pointer pv, .slice s5 m5 c5, .slice s6 m6 c6] 147)) := fun W h => (h.keeps (fun _ => True) hD0) _ _ 147 trivial (by decide) hq0
 have HL : Hid (s.length + (([105, 102] ++ [32, 40]) ++ wrT v ++ [41] ++ blT lf.data.toList th).length ≤ 100000000000) := hl
 have HY : Hid (y.data.toList = nm ∧ y.size = nm.length) := ⟨hy, hyz⟩
 have hys : y.size ≤ 100000000000 ∨ True := .inr trivial
 have HT : Hid (∀ W, FrB B b W0 W → RowS S W 147 7 (.slice s5 m5 c5) nt ts ∧ StAt S W th ts) := fun W h => ⟨hrt.kept ((hf0.trans h).keeps S hb) (by decide), StAt.kept ((hf0.trans h).keeps S hb) _ _ hst⟩
 clear hrt hst
 subst hm
 clear hG he hb hxi hx hl hy hyz hb0 hf0 hD0 hq0 hys
 have k0W0 := z_ (i := 0) (HK.out W0 HFW0.out) rfl
 have k4W0 := z_ (i := 4) (HK.out W0 HFW0.out) rfl
 go_enter Tryz.func63, Tryz.ntmps63
 go_wp2_with (go_at_call 99; fail)
 rw [← hW0]
 clear hW0
 refine (head_w IV S B b _ W0 _ ⟨#[105, 102]⟩ (HE.out.go HFW0.out) HDW0.out (HXV.out W0 HFW0.out) (by show s.length + 2 + _ + 3 ≤ _; have := HL.out; simp at this ⊢; omega)).mono ?_
 rintro e w1 ⟨rfl, hd, hf⟩
 have HDw1 : Hid (Bd B b (s ++ (([105, 102] ++ [32, 40]) ++ wrT v ++ [41])) w1) := (by first | exact hd | simpa using hd : Bd B b _ w1)
 have HFw1 : Hid (FrB B b W0 w1) := HFW0.out.trans hf
 clear hd hf
 have k5w1 := z_ (i := 5) (HK.out w1 HFw1.out) rfl
 go_wp2_with (go_at_call 36; fail)
 refine (IT S B b _ w1 lf _ _ _ (HE.out.go HFw1.out) HDw1.out (HT.out w1 HFw1.out).1 (HT.out w1 HFw1.out).2 (by have := HL.out; simp at this ⊢; omega)).mono ?_
 rintro e w2 ⟨rfl, hd, hf⟩
 have HDw2 : Hid (Bd B b (s ++ (([105, 102] ++ [32, 40]) ++ wrT v ++ [41]) ++ (blT lf.data.toList th)) w2) := (by first | exact hd | simpa using hd : Bd B b _ w2)
 have HFw2 : Hid (FrB B b W0 w2) := HFw1.out.trans hf
 clear hd hf
 have k6w2 := z_ (i := 6) (HK.out w2 HFw2.out) rfl
 go_wp2
 try simp only [Exit.inBlock, Exit.then]
 refine bodyPost_ret (results_none rfl _ _ _) rfl ?_
 exact HPo.out w2 (by first | exact HDw2.out | simpa using HDw2.out) HFw2.out
theorem ps_else {a : Int} {nm : By} {ix v th el : Tr} (IV : WrC v) (IT : PbC th) (IE : PbC el) (S : Nat → Prop) (B b : Nat) (s : By) (w : World) (y : ByteArray) (pi pv : Option Addr) (s5 : Option Addr) (m5 c5 : Nat) (s6 : Option Addr) (m6 c6 : Nat) (lf : ByteArray) (hy : y.data.toList = nm) (he : EnvW B w) (hb : Bd B b s w) (hxi : ExAt S w ix (.pointer pi)) (hx : ExAt S w v (.pointer pv)) {nt : Nat} {ts : List Value} (hrt : RowS S w 147 7 (.slice s5 m5 c5) nt ts) (hst : StAt S w th ts) {ne : Nat} {es : List Value} (hre : RowS S w 147 7 (.slice s6 m6 c6) ne es) (hse : StAt S w el es) (hm : 0 < m6) (hl : s.length + (([105, 102] ++ [32, 40]) ++ wrT v ++ [41] ++ blT lf.data.toList th ++ ([32, 101, 108, 115, 101] ++ blT lf.data.toList el)).length ≤ 100000000000) :
  Calls Tryz.prog 63 #[.pointer (some ⟨b, 0, none⟩), .agg #[.int .i64 4, .int .i64 a, .string y, .pointer pi, .pointer pv, .slice s5 m5 c5, .slice s6 m6 c6], .string lf] w (zl B b s (([105, 102] ++ [32, 40]) ++ wrT v ++ [41] ++ blT lf.data.toList th ++ ([32, 101, 108, 115, 101] ++ blT lf.data.toList el)) w) := by
 have hyz : y.size = nm.length := by rw [← hy]; simp
 obtain ⟨W0, hW0⟩ : ∃ W0, W0 = w.alloc (.cells #[.int .i64 4, .int .i64 a, .string y, .pointer pi, .pointer pv, .slice s5 m5 c5, .slice s6 m6 c6] 147) := ⟨_, rfl⟩
 have hb0 : Below w.heap.size w W0 := by rw [hW0]; exact (Below.refl _ _).alloc (Nat.le_refl _) _
 have hf0 : FrB B b w W0 := FrB.of hb0 he.le
 have hD0 : Bd B b s W0 := hb.below hb0
 have hq0 : W0.heap[w.heap.size]? = some (.cells #[.int .i64 4, .int .i64 a, .string y, .pointer pi, .pointer pv, .slice s5 m5 c5, .slice s6 m6 c6] 147) := by rw [hW0]; exact heap_alloc_last w _
 have HPo : Hid (∀ w', Bd B b (s ++ (([105, 102] ++ [32, 40]) ++ wrT v ++ [41] ++ blT lf.data.toList th ++ ([32, 101, 108, 115, 101] ++ blT lf.data.toList el))) w' → FrB B b W0 w' → zl B b s (([105, 102] ++ [32, 40]) ++ wrT v ++ [41] ++ blT lf.data.toList th ++ ([32, 101, 108, 115, 101] ++ blT lf.data.toList el)) w (.returned (.tuple #[])) w') := fun w' h1 h2 => ⟨rfl, h1, hf0.trans h2⟩
 generalize hG : zl B b s (([105, 102] ++ [32, 40]) ++ wrT v ++ [41] ++ blT lf.data.toList th ++ ([32, 101, 108, 115, 101] ++ blT lf.data.toList el)) w = G at *
 have HE : Hid (EnvW B W0) := he.go hf0
 have HDW0 : Hid (Bd B b s W0) := hD0
 have HFW0 : Hid (FrB B b W0 W0) := FrB.refl _ _ _
 have HXI : Hid (∀ W, FrB B b W0 W → ExAt S W ix (.pointer pi)) := fun W h => ((hf0.trans h).keeps S hb).ex hxi
 have HXV : Hid (∀ W, FrB B b W0 W → ExAt S W v (.pointer pv)) := fun W h => ((hf0.trans h).keeps S hb).ex hx
 have HK : Hid (∀ W, FrB B b W0 W → W.heap[w.heap.size]? = some (.cells #[.int .i64 4, .int .i64 a, .string y, .pointer pi, .pointer pv, .slice s5 m5 c5, .slice s6 m6 c6] 147)) := fun W h => (h.keeps (fun _ => True) hD0) _ _ 147 trivial (by decide) hq0
 have HL : Hid (s.length + (([105, 102] ++ [32, 40]) ++ wrT v ++ [41] ++ blT lf.data.toList th ++ ([32, 101, 108, 115, 101] ++ blT lf.data.toList el)).length ≤ 100000000000) := hl
 have HY : Hid (y.data.toList = nm ∧ y.size = nm.length) := ⟨hy, hyz⟩
 have hys : y.size ≤ 100000000000 ∨ True := .inr trivial
 have HT : Hid (∀ W, FrB B b W0 W → RowS S W 147 7 (.slice s5 m5 c5) nt ts ∧ StAt S W th ts) := fun W h => ⟨hrt.kept ((hf0.trans h).keeps S hb) (by decide), StAt.kept ((hf0.trans h).keeps S hb) _ _ hst⟩
 clear hrt hst
 have HEl : Hid (∀ W, FrB B b W0 W → RowS S W 147 7 (.slice s6 m6 c6) ne es ∧ StAt S W el es) := fun W h => ⟨hre.kept ((hf0.trans h).keeps S hb) (by decide), StAt.kept ((hf0.trans h).keeps S hb) _ _ hse⟩
 clear hre hse
 clear hG he hb hxi hx hl hy hyz hb0 hf0 hD0 hq0 hys
 have k0W0 := z_ (i := 0) (HK.out W0 HFW0.out) rfl
 have k4W0 := z_ (i := 4) (HK.out W0 HFW0.out) rfl
 go_enter Tryz.func63, Tryz.ntmps63
 go_wp2_with (go_at_call 99; fail)
 rw [← hW0]
 clear hW0
 refine (head_w IV S B b _ W0 _ ⟨#[105, 102]⟩ (HE.out.go HFW0.out) HDW0.out (HXV.out W0 HFW0.out) (by show s.length + 2 + _ + 3 ≤ _; have := HL.out; simp at this ⊢; omega)).mono ?_
 rintro e w1 ⟨rfl, hd, hf⟩
 have HDw1 : Hid (Bd B b (s ++ (([105, 102] ++ [32, 40]) ++ wrT v ++ [41])) w1) := (by first | exact hd | simpa using hd : Bd B b _ w1)
 have HFw1 : Hid (FrB B b W0 w1) := HFW0.out.trans hf
 clear hd hf
 have k5w1 := z_ (i := 5) (HK.out w1 HFw1.out) rfl
 go_wp2_with (go_at_call 36; fail)
 refine (IT S B b _ w1 lf _ _ _ (HE.out.go HFw1.out) HDw1.out (HT.out w1 HFw1.out).1 (HT.out w1 HFw1.out).2 (by have := HL.out; simp at this ⊢; omega)).mono ?_
 rintro e w2 ⟨rfl, hd, hf⟩
 have HDw2 : Hid (Bd B b (s ++ (([105, 102] ++ [32, 40]) ++ wrT v ++ [41]) ++ (blT lf.data.toList th)) w2) := (by first | exact hd | simpa using hd : Bd B b _ w2)
 have HFw2 : Hid (FrB B b W0 w2) := HFw1.out.trans hf
 clear hd hf
 have k6w2 := z_ (i := 6) (HK.out w2 HFw2.out) rfl
 go_wp2_with (go_at_call 34; fail)
 refine (ws ⟨#[32, 101, 108, 115, 101]⟩ HDw2.out (HE.out.go HFw2.out).le (by show _ + 5 ≤ _; have := HL.out; simp at this ⊢; omega)).mono ?_
 rintro e w3 ⟨rfl, hd, hf⟩
 have HDw3 : Hid (Bd B b (s ++ (([105, 102] ++ [32, 40]) ++ wrT v ++ [41]) ++ (blT lf.data.toList th) ++ ([32, 101, 108, 115, 101])) w3) := (by first | exact hd | simpa using hd : Bd B b _ w3)
 have HFw3 : Hid (FrB B b W0 w3) := HFw2.out.trans hf
 clear hd hf
 have k6w3 := z_ (i := 6) (HK.out w3 HFw3.out) rfl
 go_wp2_with (go_at_call 36; fail)
 refine (IE S B b _ w3 lf _ _ _ (HE.out.go HFw3.out) HDw3.out (HEl.out w3 HFw3.out).1 (HEl.out w3 HFw3.out).2 (by have := HL.out; simp at this ⊢; omega)).mono ?_
 rintro e w4 ⟨rfl, hd, hf⟩
 have HDw4 : Hid (Bd B b (s ++ (([105, 102] ++ [32, 40]) ++ wrT v ++ [41]) ++ (blT lf.data.toList th) ++ ([32, 101, 108, 115, 101]) ++ (blT lf.data.toList el)) w4) := (by first | exact hd | simpa using hd : Bd B b _ w4)
 have HFw4 : Hid (FrB B b W0 w4) := HFw3.out.trans hf
 clear hd hf
 go_wp2
 try simp only [Exit.inBlock, Exit.then]
 refine bodyPost_ret (results_none rfl _ _ _) rfl ?_
 exact HPo.out w4 (by first | exact HDw4.out | simpa using HDw4.out) HFw4.out
end Go.Proofs.YtnfhpdbbfejioaaGreatDoor
