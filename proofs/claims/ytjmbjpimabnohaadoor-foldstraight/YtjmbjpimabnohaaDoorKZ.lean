/- HC -/
import Derived.Test.YtjmbjpimabnohaaDoorK41
namespace Go.Proofs.YtjmbjpimabnohaaDoor
open Go Mid
theorem straightAny : StraightAny := fun w v0 v1 v2 L0 L1 L2 h0 hI h1 h2 hff hfm hmk => by
  obtain ⟨q0, c0, rfl, h0'⟩ := id h0
  obtain ⟨q1, c1, rfl, h1'⟩ := id h1
  obtain ⟨q2, c2, rfl, h2'⟩ := id h2
  exact straight_any w q0 q1 q2 c0 c1 c2 L0 L1 L2 h0 hI h1 h2 hff hfm hmk
theorem foldStraight_holds : Rows.FoldStraightCardSaid := foldStraight_holds_of straightAny
end Go.Proofs.YtjmbjpimabnohaaDoor
