/-
  Ordered: THE WALK.
-/
import Derived.Test.YtgnfknjopafngaaDoorVerWalks4
namespace Go.Proofs.YtgnfknjopafngaaDoor
open Go.RowKit

set_option maxHeartbeats 1000000 in
theorem ordered_long (a b c : ByteArray) (w : World) (_ha : a.size ≤ maxLen) (_hb : b.size ≤ maxLen) (_hc : c.size ≤ maxLen) (hl : 4096 < (a.size : Int) + b.size + c.size) (hm : (a.size : Int) + b.size + c.size ≤ 9223372036854775807) :
    Calls Tryd.prog 4 #[.string a, .string b, .string c] w fun e w' => e = .returned (.bool true) ∧ Below w.heap.size w w' := by
  go_enter Tryd.func4, Tryd.ntmps4
  go_wp2
  go_ret
  exact ⟨rfl, Below.refl _ _⟩

set_option maxHeartbeats 2000000 in
theorem ordered_short (a b c : ByteArray) (w : World) (hl : (a.size : Int) + b.size + c.size ≤ 4096) :
    Calls Tryd.prog 4 #[.string a, .string b, .string c] w fun e w' => e = .returned (.bool true) ∧ Below w.heap.size w w' := by
  have k1 : verB ⟨#[49, 46, 57]⟩ ⟨#[49, 46, 49, 48]⟩ = -1 := M.verC_19_110
  have k2 : verB ⟨#[50]⟩ ⟨#[49, 126]⟩ = 1 := M.verC_2_1
  have ko : verB a a = 0 := M.verC_self _
  have bx : -1 ≤ verB a b ∧ verB a b ≤ 1 := M.verC_bd _ _
  have bz : -1 ≤ verB b c ∧ verB b c ≤ 1 := M.verC_bd _ _
  have bv : -1 ≤ verB a c ∧ verB a c ≤ 1 := M.verC_bd _ _
  have ny : verB b a = - verB a b := M.verC_neg _ _
  have tr : verB a b ≤ 0 → verB b c ≤ 0 → verB a c ≤ 0 ∧ (verB a c = 0 ↔ verB a b = 0 ∧ verB b c = 0) := M.verC_trans _ _ _
  have cases7 : (verB a b = 1 ∧ verB b a = -1) ∨ (verB a b = 0 ∧ verB b a = 0 ∧ verB b c = 1) ∨ (verB a b = -1 ∧ verB b a = 1 ∧ verB b c = 1) ∨
      (verB a b = 0 ∧ verB b a = 0 ∧ verB b c = 0 ∧ verB a c = 0) ∨ (verB a b = 0 ∧ verB b a = 0 ∧ verB b c = -1 ∧ verB a c = -1) ∨
      (verB a b = -1 ∧ verB b a = 1 ∧ verB b c = 0 ∧ verB a c = -1) ∨ (verB a b = -1 ∧ verB b a = 1 ∧ verB b c = -1 ∧ verB a c = -1) := by
    generalize verB a b = x at *
    generalize verB b c = z at *
    generalize verB a c = v at *
    generalize verB b a = y at *
    omega
  clear bx bz bv ny tr
  rcases cases7 with ⟨h1, h2⟩ | ⟨h1, h2, h3⟩ | ⟨h1, h2, h3⟩ | ⟨h1, h2, h3, h4⟩ | ⟨h1, h2, h3, h4⟩ | ⟨h1, h2, h3, h4⟩ | ⟨h1, h2, h3, h4⟩
  all_goals
    go_enter Tryd.func4, Tryd.ntmps4
    go_wp2_with (go_at_call 5; refine (plain_c _ _ _ (by unfold maxLen; first | omega | decide) (by unfold maxLen; first | omega | decide)).mono ?_; rintro e w' ⟨rfl, n, rfl⟩)
    go_ret
    exact ⟨rfl, by repeat (first | exact Below.refl _ _ | refine below_drewN ?_ _)⟩

theorem ordered_walk (a b c : ByteArray) (w : World) (ha : a.size ≤ maxLen) (hb : b.size ≤ maxLen) (hc : c.size ≤ maxLen) (hm : (a.size : Int) + b.size + c.size ≤ 9223372036854775807) :
    Calls Tryd.prog 4 #[.string a, .string b, .string c] w fun e w' => e = .returned (.bool true) ∧ Below w.heap.size w w' := by
  by_cases hl : (a.size : Int) + b.size + c.size ≤ 4096
  · exact ordered_short a b c w hl
  · exact ordered_long a b c w ha hb hc (by omega) hm
end Go.Proofs.YtgnfknjopafngaaDoor
