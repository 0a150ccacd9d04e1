/- An instruction's parts, read one by one, are it. -/
import Derived.Test.YtjjjdplgdlaihaaGreatDoorN4
namespace Go.Proofs.YtjjjdplgdlaihaaGreatDoor
open Go

def hasN (ks : By) : Bool := ks.any fun k => k == 40 || k == 58 || k == 110
theorem fold_set (d : Dr) : ∀ (ks : By) (e : Dr), (∀ k ∈ ks, kindOk k = true) → ks.foldl (setV d) e = ⟨e.o, if ks.contains 100 then d.d else e.d, if ks.contains 97 || ks.contains 40 then d.a else e.a, if ks.contains 98 then d.b else e.b, if hasN ks then d.n else e.n, e.pl⟩
  | [], e, _ => by simp [hasN]
  | k :: ks, e, h => by
    have hk := h k (by simp)
    rw [List.foldl_cons, fold_set d ks _ (fun x hx => h x (by simp [hx]))]
    simp only [kindOk, Bool.or_eq_true, beq_iff_eq] at hk
    rcases hk with ((((rfl | rfl) | rfl) | rfl) | rfl) | rfl
    · simp only [setV, hasN, List.any_cons, List.contains_cons]
      simp
    · simp only [setV, hasN, List.any_cons, List.contains_cons]
      simp
    · simp only [setV, hasN, List.any_cons, List.contains_cons]
      simp
    · simp only [setV, hasN, List.any_cons, List.contains_cons]
      simp
    · simp only [setV, hasN, List.any_cons, List.contains_cons]
      simp
    · simp only [setV, hasN, List.any_cons, List.contains_cons]
      simp

/-- An instruction whose parts that are not named are 0 is read back. -/
theorem wfd_of (d : Dr) (o1 : 1 ≤ d.o) (o2 : d.o ≤ 31) (hd : 0 ≤ d.d ∧ d.d < 32) (ha : 0 ≤ d.a ∧ d.a < 32) (hb : 0 ≤ d.b ∧ d.b < 32) (hn : -9223372036854775808 ≤ d.n ∧ d.n ≤ 9223372036854775807) (hp : d.pl = [])
    (zd : (opsL.getD d.o.toNat ([], [])).2.contains 100 = false → d.d = 0) (za : ((opsL.getD d.o.toNat ([], [])).2.contains 97 || (opsL.getD d.o.toNat ([], [])).2.contains 40) = false → d.a = 0) (zb : (opsL.getD d.o.toNat ([], [])).2.contains 98 = false → d.b = 0) (zn : hasN (opsL.getD d.o.toNat ([], [])).2 = false → d.n = 0) : Wfd d := by
  obtain ⟨p1, p2, p3, p4⟩ := ops_ok d.o.toNat (by omega) (by omega)
  refine ⟨o1, o2, ⟨hd, ha, hb, hn⟩, ?_⟩
  rw [fold_set d _ _ (fun k hk => List.all_eq_true.1 p4 k hk)]
  generalize (opsL.getD d.o.toNat ([], [])).2 = ks at *
  obtain ⟨o, dd, a, b, n, pl⟩ := d
  simp only at hp zd za zb zn ⊢
  subst hp
  congr 1
  · cases h : ks.contains 100 with
    | true => rfl
    | false => exact (zd h).symm
  · cases h : ks.contains 97 || ks.contains 40 with
    | true => rfl
    | false => exact (za h).symm
  · cases h : ks.contains 98 with
    | true => rfl
    | false => exact (zb h).symm
  · cases h : hasN ks with
    | true => rfl
    | false => exact (zn h).symm
end Go.Proofs.YtjjjdplgdlaihaaGreatDoor
