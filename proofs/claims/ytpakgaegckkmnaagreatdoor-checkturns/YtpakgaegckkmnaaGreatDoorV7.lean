/- Plain: statements, written; printHead walked. -/
import Derived.Test.YtpakgaegckkmnaaGreatDoorV3
namespace Go.Proofs.YtpakgaegckkmnaaGreatDoor
set_option linter.unusedVariables false
set_option linter.unusedSimpArgs false
open Go Go.RowKit

/-- Statements, one behind the other; a statement is a chain of one. (left: what stands ahead.) -/
def isCe : Tr → Bool
  | .slice [] [] => true
  | _ => false
def stT (left : By) : Tr → By
  | .slice [.agg [.lit (.int _ c), .lit (.int _ _), .lit (.string nm), ix, v, th, el]] [g] =>
    (left ++ [32, 32]) ++
    (if c = 4 then ([105, 102] ++ [32, 40]) ++ wrT v ++ [41] ++ ([32, 123, 10] ++ stT (left ++ [32, 32]) th ++ ((left ++ [32, 32]) ++ [125])) ++ (if isCe el then [] else [32, 101, 108, 115, 101] ++ ([32, 123, 10] ++ stT (left ++ [32, 32]) el ++ ((left ++ [32, 32]) ++ [125])))
     else if c = 5 then ([119, 104, 105, 108, 101] ++ [32, 40]) ++ wrT v ++ [41] ++ ([32, 123, 10] ++ stT (left ++ [32, 32]) th ++ ((left ++ [32, 32]) ++ [125]))
     else (if c = 1 then [118, 97, 114, 32] ++ nm ++ [32, 61, 32] else if c = 2 then nm ++ [32, 61, 32] else if c = 3 then nm ++ ([91] ++ wrT ix ++ [93]) ++ [32, 61, 32] else if c = 6 then [114, 101, 116, 117, 114, 110, 32] else if c = 7 then [112, 114, 105, 110, 116, 32] else []) ++ wrT v ++ [59])
    ++ [10] ++ stT left g
  | _ => []
/-- A block, written. -/
def blT (left : By) (g : Tr) : By := [32, 123, 10] ++ stT left g ++ (left ++ [125])
/-- A statement, written. -/
def smT (lf : By) : Tr → By
  | .agg [.lit (.int _ c), .lit (.int _ _), .lit (.string nm), ix, v, th, el] =>
    if c = 4 then ([105, 102] ++ [32, 40]) ++ wrT v ++ [41] ++ blT lf th ++ (if isCe el then [] else [32, 101, 108, 115, 101] ++ blT lf el)
    else if c = 5 then ([119, 104, 105, 108, 101] ++ [32, 40]) ++ wrT v ++ [41] ++ blT lf th
    else (if c = 1 then [118, 97, 114, 32] ++ nm ++ [32, 61, 32] else if c = 2 then nm ++ [32, 61, 32] else if c = 3 then nm ++ ([91] ++ wrT ix ++ [93]) ++ [32, 61, 32] else if c = 6 then [114, 101, 116, 117, 114, 110, 32] else if c = 7 then [112, 114, 105, 110, 116, 32] else []) ++ wrT v ++ [59]
  | _ => []
theorem stT_cons (left : By) (c a : Int) (nm : By) (ix v th el g : Tr) : stT left (.slice [st c a nm ix v th el] [g]) = (left ++ [32, 32]) ++ smT (left ++ [32, 32]) (st c a nm ix v th el) ++ [10] ++ stT left g := by
  rw [stT]
  rfl

set_option maxRecDepth 100000 in
set_option maxHeartbeats 4000000 in
theorem head_w {t : Tr} (IH : WrC t) (S : Nat → Prop) (B b : Nat) (s : By) (w : World) (v : Value) (wd : ByteArray) (he : EnvW B w) (hb : Bd B b s w) (hx : ExAt S w t v) (hl : s.length + wd.size + (wrT t).length + 3 ≤ 100000000000) :
    Calls Tryz.prog 50 #[.pointer (some ⟨b, 0, none⟩), .string wd, v] w (WPost B b s ((wd.data.toList ++ [32, 40]) ++ wrT t ++ [41]) w) := by
  have HPo : Hid (∀ w', Bd B b (s ++ (wd.data.toList ++ [32, 40]) ++ wrT t ++ [41]) w' → FrB B b w w' → WPost B b s ((wd.data.toList ++ [32, 40]) ++ wrT t ++ [41]) w (.returned (.tuple #[])) w') := fun w' h1 h2 => ⟨rfl, by simpa using h1, h2⟩
  generalize hG : WPost B b s ((wd.data.toList ++ [32, 40]) ++ wrT t ++ [41]) w = G at *
  have HE : Hid (EnvW B w) := he
  have HB : Hid (Bd B b s w) := hb
  have HX : Hid (ExAt S w t v) := hx
  have HIH : Hid (WrC t) := IH
  have HL : Hid (s.length + wd.size + (wrT t).length + 3 ≤ 100000000000) := hl
  have hwd : wd.size ≤ 100000000000 := by omega
  clear hG he hb hx hl IH
  go_enter Tryz.func50, Tryz.ntmps50
  go_wp2_with (go_at_call 17; fail)
  generalize hx1 : wd ++ (⟨#[32, 40]⟩ : ByteArray) = x1
  have ht1 : x1.data.toList = wd.data.toList ++ [32, 40] := by rw [← hx1, app_toList]
  have hz1 : x1.size = wd.size + 2 := by rw [← hx1, app_size]; rfl
  refine (ws x1 HB.out HE.out.le (by rw [hz1]; have := HL.out; omega)).mono ?_
  rintro e w1 ⟨rfl, hd, hf⟩
  rw [ht1] at hd
  have HD1 : Hid (Bd B b (s ++ (wd.data.toList ++ [32, 40])) w1) := hd
  have HF1 : Hid (FrB B b w w1) := hf
  clear hd hf hx1 ht1 hz1
  go_wp2_with (go_at_call 52; fail)
  refine (HIH.out S B b _ w1 v (HE.out.go HF1.out) HD1.out ((HF1.out.keeps S HB.out).ex HX.out) (by have := HL.out; simp; have : wd.data.size = wd.size := rfl; omega)).mono ?_
  rintro e w2 ⟨rfl, hd, hf⟩
  have HD2 : Hid (Bd B b (s ++ (wd.data.toList ++ [32, 40]) ++ wrT t) w2) := hd
  have HF2 : Hid (FrB B b w w2) := HF1.out.trans hf
  clear hd hf
  go_wp2_with (go_at_call 17; fail)
  refine (ws ⟨#[41]⟩ HD2.out (HE.out.go HF2.out).le (by show _ + 1 ≤ _; have := HL.out; simp; have : wd.data.size = wd.size := rfl; omega)).mono ?_
  rintro e w3 ⟨rfl, hd, hf⟩
  have HD3 : Hid (Bd B b (s ++ (wd.data.toList ++ [32, 40]) ++ wrT t ++ [41]) w3) := hd
  have HF3 : Hid (FrB B b w w3) := HF2.out.trans hf
  clear hd hf
  go_wp2
  go_end0
  exact HPo.out w3 HD3.out HF3.out

/-- The cells of a statement. -/
theorem st_open {S : Nat → Prop} {w : World} {c a : Int} {nm : By} {ix v th el g : Tr} {cs : List Value} (h : StAt S w (.slice [st c a nm ix v th el] [g]) cs) :
    ∃ (vi vv : Option Addr) (vt ve : Value) (nt ne : Nat) (ts es rest : List Value), cs = [.int .i64 c, .int .i64 a, str nm, .pointer vi, .pointer vv, vt, ve] ++ rest ∧ ExAt S w ix (.pointer vi) ∧ ExAt S w v (.pointer vv) ∧ RowS S w 86 7 vt nt ts ∧ StAt S w th ts ∧ RowS S w 86 7 ve ne es ∧ StAt S w el es ∧ StAt S w g rest := by
  rw [StAt] at h
  exact h

end Go.Proofs.YtpakgaegckkmnaaGreatDoor
