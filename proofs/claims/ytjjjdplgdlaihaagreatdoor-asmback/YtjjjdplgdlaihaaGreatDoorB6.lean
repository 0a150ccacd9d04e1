/- Package asm's take, walked, kind by kind. -/
import Derived.Test.YtjjjdplgdlaihaaGreatDoorB5
namespace Go.Proofs.YtjjjdplgdlaihaaGreatDoor
open Go Go.RowKit

theorem off_put {w w2 : World} {g : Nat} (hb : Below w.heap.size w w2) (i : Nat) (v : Value) : Off (· = g) w (w2.setCell ⟨g, i, none⟩ v) := (Off.of_below (S := (· = g)) hb).setCell (p := ⟨g, i, none⟩) (fun _ => rfl) v
theorem Env.off {w w' : World} {g : Nat} (h : Env w) (hg : 11 ≤ g) (hl : g < w.heap.size) (ho : Off (· = g) w w') : Env w' := h.keep (ho.below (by omega) (fun i hi e => by omega))

/-- What take leaves: a draft, perhaps another one, and nothing else has turned. -/
def Took (w : World) (g : Nat) (ln : Int) (r : Option Dr) (e : Ending) (w' : World) : Prop :=
  ∃ d', DrAt w' g d' ln ∧ Off (· = g) w w' ∧ (match r with | some x => e = .returned (.bool true) ∧ d' = x | none => e = .returned (.bool false))

set_option maxHeartbeats 2000000 in
theorem tk_100 (w : World) (g : Nat) (d : Dr) (ln : Int) (p : ByteArray) (h : DrAt w g d ln) (he : Env w) (hs : p.size < 4294967281) :
    Calls Tryz.prog 63 #[.pointer (some ⟨g, 0, none⟩), .int .u8 100, .string p] w fun e w' => Took w g ln (takeV 100 p.data.toList d) e w' := by
  have et : takeV 100 p.data.toList d = (rgsV p.data.toList).map fun r => { d with d := r } := by unfold takeV; rw [if_pos rfl]
  rw [et]
  cases hv : rgsV p.data.toList with
  | some v =>
    have HR : Hid (Calls Tryz.prog 90 #[.string p, .pointer (some ⟨g, 1, none⟩)] w fun e w' => e = .returned (.bool true) ∧ DrAt w' g { d with d := v } ln ∧ Off (· = g) w w') :=
      (reg_yes p ⟨g, 1, none⟩ _ v w he (by omega) hv h.c1 (h.fz _)).mono fun e w' ⟨a, w2, b1, b2⟩ => ⟨a, by rw [b2]; exact (h.below b1).setD v, by rw [b2]; exact off_put b1 _ _⟩
    clear h he hs hv et
    go_enter Tryz.func63, Tryz.ntmps63
    go_wp2_with (go_at_call 90; refine HR.out.mono ?_; rintro e w' ⟨rfl, hd, ho⟩; have HD : Hid (DrAt w' g { d with d := v } ln) := hd; have HO : Hid (Off (· = g) w w') := ho; clear hd ho)
    go_ret
    exact ⟨_, HD.out, HO.out, rfl, rfl⟩
  | none =>
    have HR : Hid (Calls Tryz.prog 90 #[.string p, .pointer (some ⟨g, 1, none⟩)] w fun e w' => e = .returned (.bool false) ∧ DrAt w' g d ln ∧ Off (· = g) w w') :=
      (reg_no p ⟨g, 1, none⟩ w he (by omega) hv).mono fun e w' ⟨a, b⟩ => ⟨a, h.below b, Off.of_below b⟩
    clear h he hs hv et
    go_enter Tryz.func63, Tryz.ntmps63
    go_wp2_with (go_at_call 90; refine HR.out.mono ?_; rintro e w' ⟨rfl, hd, ho⟩; have HD : Hid (DrAt w' g d ln) := hd; have HO : Hid (Off (· = g) w w') := ho; clear hd ho)
    go_ret
    exact ⟨_, HD.out, HO.out, rfl⟩

set_option maxHeartbeats 2000000 in
theorem tk_97 (w : World) (g : Nat) (d : Dr) (ln : Int) (p : ByteArray) (h : DrAt w g d ln) (he : Env w) (hs : p.size < 4294967281) :
    Calls Tryz.prog 63 #[.pointer (some ⟨g, 0, none⟩), .int .u8 97, .string p] w fun e w' => Took w g ln (takeV 97 p.data.toList d) e w' := by
  have et : takeV 97 p.data.toList d = (rgsV p.data.toList).map fun r => { d with a := r } := by unfold takeV; rw [if_neg (by decide), if_pos rfl]
  rw [et]
  cases hv : rgsV p.data.toList with
  | some v =>
    have HR : Hid (Calls Tryz.prog 90 #[.string p, .pointer (some ⟨g, 2, none⟩)] w fun e w' => e = .returned (.bool true) ∧ DrAt w' g { d with a := v } ln ∧ Off (· = g) w w') :=
      (reg_yes p ⟨g, 2, none⟩ _ v w he (by omega) hv h.c2 (h.fz _)).mono fun e w' ⟨a, w2, b1, b2⟩ => ⟨a, by rw [b2]; exact (h.below b1).setA v, by rw [b2]; exact off_put b1 _ _⟩
    clear h he hs hv et
    go_enter Tryz.func63, Tryz.ntmps63
    go_wp2_with (go_at_call 90; refine HR.out.mono ?_; rintro e w' ⟨rfl, hd, ho⟩; have HD : Hid (DrAt w' g { d with a := v } ln) := hd; have HO : Hid (Off (· = g) w w') := ho; clear hd ho)
    go_ret
    exact ⟨_, HD.out, HO.out, rfl, rfl⟩
  | none =>
    have HR : Hid (Calls Tryz.prog 90 #[.string p, .pointer (some ⟨g, 2, none⟩)] w fun e w' => e = .returned (.bool false) ∧ DrAt w' g d ln ∧ Off (· = g) w w') :=
      (reg_no p ⟨g, 2, none⟩ w he (by omega) hv).mono fun e w' ⟨a, b⟩ => ⟨a, h.below b, Off.of_below b⟩
    clear h he hs hv et
    go_enter Tryz.func63, Tryz.ntmps63
    go_wp2_with (go_at_call 90; refine HR.out.mono ?_; rintro e w' ⟨rfl, hd, ho⟩; have HD : Hid (DrAt w' g d ln) := hd; have HO : Hid (Off (· = g) w w') := ho; clear hd ho)
    go_ret
    exact ⟨_, HD.out, HO.out, rfl⟩

set_option maxHeartbeats 2000000 in
theorem tk_98 (w : World) (g : Nat) (d : Dr) (ln : Int) (p : ByteArray) (h : DrAt w g d ln) (he : Env w) (hs : p.size < 4294967281) :
    Calls Tryz.prog 63 #[.pointer (some ⟨g, 0, none⟩), .int .u8 98, .string p] w fun e w' => Took w g ln (takeV 98 p.data.toList d) e w' := by
  have et : takeV 98 p.data.toList d = (rgsV p.data.toList).map fun r => { d with b := r } := by unfold takeV; rw [if_neg (by decide), if_neg (by decide), if_pos rfl]
  rw [et]
  cases hv : rgsV p.data.toList with
  | some v =>
    have HR : Hid (Calls Tryz.prog 90 #[.string p, .pointer (some ⟨g, 3, none⟩)] w fun e w' => e = .returned (.bool true) ∧ DrAt w' g { d with b := v } ln ∧ Off (· = g) w w') :=
      (reg_yes p ⟨g, 3, none⟩ _ v w he (by omega) hv h.c3 (h.fz _)).mono fun e w' ⟨a, w2, b1, b2⟩ => ⟨a, by rw [b2]; exact (h.below b1).setB v, by rw [b2]; exact off_put b1 _ _⟩
    clear h he hs hv et
    go_enter Tryz.func63, Tryz.ntmps63
    go_wp2_with (go_at_call 90; refine HR.out.mono ?_; rintro e w' ⟨rfl, hd, ho⟩; have HD : Hid (DrAt w' g { d with b := v } ln) := hd; have HO : Hid (Off (· = g) w w') := ho; clear hd ho)
    go_ret
    exact ⟨_, HD.out, HO.out, rfl, rfl⟩
  | none =>
    have HR : Hid (Calls Tryz.prog 90 #[.string p, .pointer (some ⟨g, 3, none⟩)] w fun e w' => e = .returned (.bool false) ∧ DrAt w' g d ln ∧ Off (· = g) w w') :=
      (reg_no p ⟨g, 3, none⟩ w he (by omega) hv).mono fun e w' ⟨a, b⟩ => ⟨a, h.below b, Off.of_below b⟩
    clear h he hs hv et
    go_enter Tryz.func63, Tryz.ntmps63
    go_wp2_with (go_at_call 90; refine HR.out.mono ?_; rintro e w' ⟨rfl, hd, ho⟩; have HD : Hid (DrAt w' g d ln) := hd; have HO : Hid (Off (· = g) w w') := ho; clear hd ho)
    go_ret
    exact ⟨_, HD.out, HO.out, rfl⟩

set_option maxHeartbeats 2000000 in
theorem tk_110 (w : World) (g : Nat) (d : Dr) (ln : Int) (p : ByteArray) (h : DrAt w g d ln) (he : Env w) (hs : p.size < 4294967281) :
    Calls Tryz.prog 63 #[.pointer (some ⟨g, 0, none⟩), .int .u8 110, .string p] w fun e w' => Took w g ln (takeV 110 p.data.toList d) e w' := by
  have et : takeV 110 p.data.toList d = (numV p.data.toList).map fun n => { d with n := n } := by unfold takeV; rw [if_neg (by decide), if_neg (by decide), if_neg (by decide), if_neg (by decide), if_neg (by simp)]
  rw [et]
  · skip
    cases hv : numV p.data.toList with
    | some v =>
      have HR : Hid (Calls Tryz.prog 91 #[.string p, .pointer (some ⟨g, 4, none⟩)] w fun e w' => e = .returned (.bool true) ∧ DrAt w' g { d with n := v } ln ∧ Off (· = g) w w') :=
        (num_yes p ⟨g, 4, none⟩ _ v w he (by omega) hv h.c4 (h.fz _)).mono fun e w' ⟨a, w2, b1, b2⟩ => ⟨a, by rw [b2]; exact (h.below b1).setN v, by rw [b2]; exact off_put b1 _ _⟩
      clear h he hs hv et
      go_enter Tryz.func63, Tryz.ntmps63
      go_wp2_with (first | (go_at_call 91; refine HR.out.mono ?_; rintro e w' ⟨rfl, hd, ho⟩; have HD : Hid (DrAt w' g { d with n := v } ln) := hd; have HO : Hid (Off (· = g) w w') := ho; clear hd ho) | go_in)
      go_ret
      exact ⟨_, HD.out, HO.out, rfl, rfl⟩
    | none =>
      have HR : Hid (Calls Tryz.prog 91 #[.string p, .pointer (some ⟨g, 4, none⟩)] w fun e w' => e = .returned (.bool false) ∧ DrAt w' g d ln ∧ Off (· = g) w w') :=
        (num_no p ⟨g, 4, none⟩ w he (by omega) hv).mono fun e w' ⟨a, b⟩ => ⟨a, h.below b, Off.of_below b⟩
      clear h he hs hv et
      go_enter Tryz.func63, Tryz.ntmps63
      go_wp2_with (first | (go_at_call 91; refine HR.out.mono ?_; rintro e w' ⟨rfl, hd, ho⟩; have HD : Hid (DrAt w' g d ln) := hd; have HO : Hid (Off (· = g) w w') := ho; clear hd ho) | go_in)
      go_ret
      exact ⟨_, HD.out, HO.out, rfl⟩

set_option maxHeartbeats 2000000 in
theorem tk_58 (w : World) (g : Nat) (d : Dr) (ln : Int) (p : ByteArray) (h : DrAt w g d ln) (he : Env w) (hs : p.size < 4294967281) :
    Calls Tryz.prog 63 #[.pointer (some ⟨g, 0, none⟩), .int .u8 58, .string p] w fun e w' => Took w g ln (takeV 58 p.data.toList d) e w' := by
  have HN : Hid (∀ w, Calls Tryz.prog 9 #[.string p] w fun e w' => e = .returned (.bool (nameV p.data.toList)) ∧ w' = w) := fun w => name_any p w (by omega)
  cases hnm : nameV p.data.toList with
  | true =>
    have et : takeV 58 p.data.toList d = some { d with pl := p.data.toList } := by unfold takeV; rw [if_neg (by decide), if_neg (by decide), if_neg (by decide), if_neg (by decide), if_pos ⟨rfl, hnm⟩]
    rw [et]
    rw [hnm] at HN
    have c5 := h.c5
    have f5 := h.fz 5
    have HD : Hid (DrAt (w.setCell ⟨g, 5, none⟩ (.string p)) g { d with pl := p.data.toList } ln) := h.setP p.data.toList
    clear h he hs hnm et
    go_enter Tryz.func63, Tryz.ntmps63
    go_wp2_with (go_at_call 9; refine (HN.out _).mono ?_; rintro e w ⟨rfl, rfl⟩)
    go_ret
    exact ⟨_, HD.out, off_g _ _, rfl, rfl⟩
  | false =>
    have et : takeV 58 p.data.toList d = (numV p.data.toList).map fun n => { d with n := n } := by unfold takeV; rw [if_neg (by decide), if_neg (by decide), if_neg (by decide), if_neg (by decide), if_neg (by simp [hnm])]
    rw [et]
    rw [hnm] at HN
    clear hnm
    cases hv : numV p.data.toList with
    | some v =>
      have HR : Hid (Calls Tryz.prog 91 #[.string p, .pointer (some ⟨g, 4, none⟩)] w fun e w' => e = .returned (.bool true) ∧ DrAt w' g { d with n := v } ln ∧ Off (· = g) w w') :=
        (num_yes p ⟨g, 4, none⟩ _ v w he (by omega) hv h.c4 (h.fz _)).mono fun e w' ⟨a, w2, b1, b2⟩ => ⟨a, by rw [b2]; exact (h.below b1).setN v, by rw [b2]; exact off_put b1 _ _⟩
      clear h he hs hv et
      go_enter Tryz.func63, Tryz.ntmps63
      go_wp2_with (first | (go_at_call 91; refine HR.out.mono ?_; rintro e w' ⟨rfl, hd, ho⟩; have HD : Hid (DrAt w' g { d with n := v } ln) := hd; have HO : Hid (Off (· = g) w w') := ho; clear hd ho) | (go_at_call 9; refine (HN.out _).mono ?_; rintro e w ⟨rfl, rfl⟩) | go_in)
      go_ret
      exact ⟨_, HD.out, HO.out, rfl, rfl⟩
    | none =>
      have HR : Hid (Calls Tryz.prog 91 #[.string p, .pointer (some ⟨g, 4, none⟩)] w fun e w' => e = .returned (.bool false) ∧ DrAt w' g d ln ∧ Off (· = g) w w') :=
        (num_no p ⟨g, 4, none⟩ w he (by omega) hv).mono fun e w' ⟨a, b⟩ => ⟨a, h.below b, Off.of_below b⟩
      clear h he hs hv et
      go_enter Tryz.func63, Tryz.ntmps63
      go_wp2_with (first | (go_at_call 91; refine HR.out.mono ?_; rintro e w' ⟨rfl, hd, ho⟩; have HD : Hid (DrAt w' g d ln) := hd; have HO : Hid (Off (· = g) w w') := ho; clear hd ho) | (go_at_call 9; refine (HN.out _).mono ?_; rintro e w ⟨rfl, rfl⟩) | go_in)
      go_ret
      exact ⟨_, HD.out, HO.out, rfl⟩
end Go.Proofs.YtjjjdplgdlaihaaGreatDoor
