/- CA -/
import Derived.Test.YtnfhpdbbfejioaaGreatDoorQ17
namespace Go.Proofs.YtnfhpdbbfejioaaGreatDoor
set_option linter.unusedVariables false
set_option linter.unusedSimpArgs false
set_option maxRecDepth 100000
set_option maxHeartbeats 4000000
open Go Go.RowKit
abbrev X (α : Type) := Except (Int × Int) α
abbrev Nm := List (By × Int)
def bx {α β : Type} (x : X α) (f : α → X β) : X β :=
 match x with
 | .error e => .error e
 | .ok a => f a
theorem zP {α β : Type} {x : X α} {f : α → X β} {r : β} (h : bx x f = .ok r) : ∃ a, x = .ok a ∧ f a = .ok r := by
 unfold bx at h
 split at h
 ·cases h
 ·exact ⟨_, rfl, h⟩
def placeE : Tr → Int
 | .agg [_, .lit (.int _ a), _, _, _, _, _, _] => a
 | _ => 0
def ja (ns : Nm) (nm : By) : Option Int := (ns.find? (fun x => x.1 == nm)).map (·.2)
def isT (t k a : Int) : X Unit := if t = k then .ok () else .error (1, a)
def ck (lk : By → Option Nm) (ns : Nm) : Tr → Nm → X Int
 | .agg [.lit (.int _ c), .lit (.int _ a), .lit (.int _ _), .lit (.string nm), .lit (.string _), l, r, g], _ =>
  if c = 2 then (match ja ns nm with | some k => .ok k | none => .error (7, a))
  else if c = 3 then bx (ck lk ns l []) fun t => bx (isT t 1 (placeE l)) fun _ => bx (ck lk ns r []) fun u => bx (isT u 1 (placeE r)) fun _ => .ok 1
  else if c = 4 then bx (ck lk ns l []) fun t => bx (isT t 1 (placeE l)) fun _ => .ok 1
  else if c = 5 then (match lk nm with | none => .error (7, a) | some ps => if chl g ≠ ps.length then .error (2, a) else bx (ck lk ns g ps) fun _ => .ok 1)
  else if c = 6 then bx (ck lk ns l []) fun t => bx (isT t 1 (placeE l)) fun _ => .ok 2
  else if c = 7 then bx (ck lk ns l []) fun t => bx (isT t 2 (placeE l)) fun _ => .ok 1
  else if c = 8 then bx (ck lk ns l []) fun t => bx (isT t 2 (placeE l)) fun _ => bx (ck lk ns r []) fun u => bx (isT u 1 (placeE r)) fun _ => .ok 1
  else .ok 1
 | .slice [x] [g], p :: ps => bx (ck lk ns x []) fun t => bx (isT t p.2 (placeE x)) fun _ => ck lk ns g ps
 | _, _ => .ok 0
def mu (lk : By → Option Nm) (ns : Nm) (x : Tr) (k : Int) : X Unit := bx (ck lk ns x []) fun t => isT t k (placeE x)
def addV (s : Nm × Nat) (v : By × Int) (a : Int) : X (Nm × Nat) := if (ja s.1 v.1).isSome then .error (9, a) else if s.2 = 12 then .error (12, a) else .ok (s.1 ++ [v], s.2 + 1)
def cks (lk : By → Option Nm) : Tr → Nm × Nat → X (Nm × Nat)
 | .slice [.agg [.lit (.int _ c), .lit (.int _ a), .lit (.string nm), ix, v, th, el]] [g], s =>
  bx (if c = 1 then bx (ck lk s.1 v []) fun t => addV s (nm, t) a
    else if c = 2 then (match ja s.1 nm with | none => .error (7, a) | some k => bx (mu lk s.1 v k) fun _ => .ok s)
    else if c = 3 then (match ja s.1 nm with | none => .error (7, a) | some k => if k ≠ 2 then .error (1, a) else bx (mu lk s.1 ix 1) fun _ => bx (mu lk s.1 v 1) fun _ => .ok s)
    else bx (mu lk s.1 v 1) fun _ => bx (cks lk th s) fun s1 => bx (cks lk el (s.1, s1.2)) fun s2 => .ok (s.1, s2.2)) fun s' => cks lk g s'
 | _, s => .ok s
def addsV (a : Int) : Nm → Nm × Nat → X (Nm × Nat)
 | [], s => .ok s
 | p :: ps, s => bx (addV s p a) fun s' => addsV a ps s'
def ckF (lk : By → Option Nm) (F : Fun) : X Unit := bx (addsV F.at' F.ps ([], 0)) fun s => bx (cks lk F.body s) fun _ => .ok ()
def ckFs (lk : By → Option Nm) : List Fun → X Unit
 | [] => .ok ()
 | F :: L => bx (ckF lk F) fun _ => ckFs lk L
def lkL (L : List Fun) (nm : By) : Option Nm := (L.find? (fun F => F.nm == nm)).map (·.ps)
def jk : List By → List Fun → X Unit
 | _, [] => .ok ()
 | ns, F :: L => if ns.contains F.nm then .error (9, F.at') else jk (F.nm :: ns) L
def mainB : By := [109, 97, 105, 110]
def chk (L : List Fun) : X Bool := bx (jk [] L) fun _ => bx (ckFs (lkL L) L) fun _ => .ok (match lkL L mainB with | some [] => true | _ => false)
theorem twice_ok : ∀ (L : List Fun) (ns : List By), jk ns L = .ok () ↔ (L.map (·.nm)).Nodup ∧ ∀ F ∈ L, ns.contains F.nm = false
 | [], ns => by simp [jk]
 | F :: L, ns => by
  rw [jk]
  by_cases h : ns.contains F.nm = true
  ·rw [if_pos h]
   refine ⟨fun e => (by cases e), fun ⟨_, h2⟩ => ?_⟩
   have := h2 F (by simp)
   rw [h] at this
   cases this
  ·rw [if_neg h, twice_ok L (F.nm :: ns)]
   simp only [List.map_cons, List.nodup_cons, List.mem_cons, forall_eq_or_imp, List.contains_cons, Bool.or_eq_false_iff]
   constructor
   ·rintro ⟨h1, h2⟩
    refine ⟨⟨fun hm => ?_, h1⟩, by simpa using h, fun G hG => (h2 G hG).2⟩
    obtain ⟨G, hG, e⟩ := List.mem_map.1 hm
    have := (h2 G hG).1
    rw [e] at this
    simp at this
   ·rintro ⟨⟨h1, h2⟩, h3, h4⟩
    refine ⟨h2, fun G hG => ⟨?_, h4 G hG⟩⟩
    simp only [beq_eq_false_iff_ne, ne_eq]
    exact fun e => h1 (List.mem_map.2 ⟨G, hG, e⟩)
theorem fs_ok (lk : By → Option Nm) : ∀ L : List Fun, ckFs lk L = .ok () ↔ ∀ F ∈ L, ckF lk F = .ok ()
 | [] => by simp [ckFs]
 | F :: L => by
  rw [ckFs]
  constructor
  ·intro h
   obtain ⟨a, h1, h2⟩ := zP h
   intro G hG
   rcases List.mem_cons.1 hG with rfl | hG
   ·exact h1
   ·exact (fs_ok lk L).1 h2 G hG
  ·intro h
   rw [h F (by simp)]
   exact (fs_ok lk L).2 (fun G hG => h G (by simp [hG]))
end Go.Proofs.YtnfhpdbbfejioaaGreatDoor
