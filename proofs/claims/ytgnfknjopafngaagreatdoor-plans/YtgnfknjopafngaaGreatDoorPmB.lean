import Derived.Test.YtgnfknjopafngaaGreatDoorPmA
/-
  Plans: THE CLOSED FACTS OF ITS ROW, one by one.
-/
namespace Go.Proofs.YtgnfknjopafngaaGreatDoor
namespace PlansProof
theorem fact1 : (Rows.plansRow.inPlace == Tryz.prog.inPlace 4) = true := by kernel_rfl
theorem fact2 : (Rows.plansRow.unfollowed == Tryz.prog.unfollowed 4) = true := by kernel_rfl
theorem fact3 : (Rows.plansRow.recurses == Tryz.prog.recurses 4) = true := by kernel_rfl
theorem fact4 : (Rows.plansRow.named == Tryz.prog.varsNamed 4) = true := by kernel_rfl
theorem closed : joinedFacts Tryz.prog 4 Tryz.f4 Rows.plansSpec Rows.plansRow = true := by
  unfold joinedFacts
  rw [fact1, fact2, fact3, fact4]
  kernel_rfl
end PlansProof
end Go.Proofs.YtgnfknjopafngaaGreatDoor
