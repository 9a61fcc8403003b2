import Derived.Test.YtemigajobcdcbaaGreatDoorFmS
import Derived.Test.YtemigajobcdcbaaGreatDoorFmQ
import Derived.Test.YtemigajobcdcbaaGreatDoorFmT
/-
  THE CODE, WALKED: parcels.Read; Forms, PROVED.
-/
namespace Go.Proofs.YtemigajobcdcbaaGreatDoor
open Go.RowKit

set_option maxRecDepth 100000 in
set_option maxHeartbeats 2000000 in
theorem ownRead : FormsProof.OwnRead := by
  intro s w hs hR
  have hM : MaxIs w := hR.2
  have cP := pRead_any s w hM hs
  cases hr : M.readS s.data.toList with
  | inl n =>
    have HR : Hid (readB s = .inl n) := hr
    replace cP : Calls Tryz.prog 55 #[.string s] w fun e w' => ∃ fb, e = .returned (.tuple #[.agg #[.string ⟨#[]⟩, .string ⟨#[]⟩, .slice none 0 0, .slice none 0 0, .slice none 0 0], .iface 112 (.pointer (some ⟨fb, 0, none⟩))]) ∧ FaultAt w' fb 1 0 n ⟨#[]⟩ ∧ Below w.heap.size w w' := cP.mono fun e w' h => by
      obtain ⟨h1, h2⟩ := h
      rw [hr] at h2
      obtain ⟨fb, h3, h4⟩ := h2
      exact ⟨fb, h3, h4, h1⟩
    clear hr hR hM
    go_enter Tryz.func34, Tryz.ntmps34
    go_wp2_with fail
    refine cP.mono ?_
    rintro e w1 ⟨fb, rfl, hF, hB⟩
    go_wp2
    go_ret2
    have hlt := hF.lt
    exact ⟨hB.alloc hB.size _, .inl ⟨n, fb, HR.out, rfl, (World.cell?_alloc_past _ _ _ hlt).trans hF.c0, (World.cell?_alloc_past _ _ _ hlt).trans hF.c1, (World.cell?_alloc_past _ _ _ hlt).trans hF.c2, (World.cell?_alloc_past _ _ _ hlt).trans hF.c3⟩⟩
  | inr p =>
    have HR : Hid (readB s = .inr p) := hr
    have hsh := readS_short hr
    replace cP : Calls Tryz.prog 55 #[.string s] w fun e w' => ∃ an cn ab cb af cf, e = .returned (.tuple #[.agg #[.string ⟨p.name.toArray⟩, .string ⟨p.ver.toArray⟩, .slice an p.needs.length cn, .slice ab p.bars.length cb, .slice af p.files.length cf], .nilIface]) ∧ PkVal w' p (.agg #[.string ⟨p.name.toArray⟩, .string ⟨p.ver.toArray⟩, .slice an p.needs.length cn, .slice ab p.bars.length cb, .slice af p.files.length cf]) ∧ Below w.heap.size w w' := cP.mono fun e w' h => by
      obtain ⟨h1, h2⟩ := h
      rw [hr] at h2
      obtain ⟨v, h3, h4⟩ := h2
      have h5 := h4
      obtain ⟨nv, bv, fv, rfl, g1, g2, g3⟩ := h5
      obtain ⟨an, cn, rfl⟩ := g1.form
      obtain ⟨ab, cb, rfl⟩ := g2.form
      obtain ⟨af, cf, rfl⟩ := g3.form
      exact ⟨an, cn, ab, cb, af, cf, h3, h4.val, h1⟩
    clear hr hR hM
    go_enter Tryz.func34, Tryz.ntmps34
    go_wp2_with fail
    refine cP.mono ?_
    rintro e w1 ⟨an, cn, ab, cb, af, cf, rfl, hV, hB⟩
    have cO := fun wx (hb : Below w1.heap.size w1 wx) => oneForm_any p _ wx (hV.below hb) hsh
    clear hV
    go_wp2_with fail
    refine (cO _ ((Below.refl _ w1).alloc (Nat.le_refl _) _)).mono ?_
    rintro e w2 ⟨T, rfl, hT, hB2⟩
    go_wp2
    go_ret2
    exact ⟨bt hB (bt ((Below.refl _ w1).alloc (Nat.le_refl _) _) hB2), .inr ⟨p, T, HR.out, rfl, hT⟩⟩

/-- Forms: every text: a package in its one form, or the line that is none. -/
theorem forms_card : Rows.FormsCardSaid := forms_card_of ownRead
end Go.Proofs.YtemigajobcdcbaaGreatDoor
