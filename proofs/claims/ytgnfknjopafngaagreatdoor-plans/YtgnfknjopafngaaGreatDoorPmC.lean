import Derived.Test.YtgnfknjopafngaaGreatDoorPmA
import Derived.Test.YtgnfknjopafngaaGreatDoorPmB
import Derived.Test.YtgnfknjopafngaaGreatDoorPlZ
import Derived.Carry
/-
  Plans: THE ROW AND ITS TIED CARD.
-/
namespace Go.Proofs.YtgnfknjopafngaaGreatDoor
namespace PlansProof
open Go.ChangeShapes Go.WideShapes Go.ChangeAt Go.RowKit
open LaidKit

set_option maxRecDepth 100000 in
theorem lifted (os : Os) (started : os.Started) (H : Type) (enc : TypeId × Value → H) :
    ReturnsInHanded {} Tryz.checked os 4 .any (fun w args => (Rows.plansSpec.pre enc Tryz.prog Tryz.f4 Rows.plansRow.domain false w args ∧ laidMetH Tryz.prog Rows.plansRow.laid w) ∧ sizedMet enc Tryz.prog Tryz.f4 (OpenSpec.ofChange Rows.plansSpec) false w args)
      (Rows.plansSpec.post enc Tryz.prog Tryz.f4 false true false false) := by
  refine returnsInHanded_of_calls (C := Tryz.checked) own started (by kernel_rfl)
    (ChangeSpec.witness_shaped (enc := enc) (C := Tryz.checked) (os := os) (X := fun w _ => laidMetH Tryz.prog Rows.plansRow.laid w) false ((witH (World.holding Tryz.prog os ⟨#[], #[], []⟩)).layVars Tryz.prog dataL) #[.slice none 0 0] 8 (wit_os os)
      (World.shaped_of_ZipB (by kernel_rfl) (by kernel_rfl)) (by kernel_rfl) (by kernel_rfl) (by kernel_rfl) (wit_met os _)) ?_
  intro w0 tape inp _ hsh _ hok hpre _
  obtain ⟨_, _, _, fn', hfn', _, _, _, _, hval0'⟩ := hok
  obtain rfl : fn' = Tryz.f4 := Option.some.inj (hfn'.symm.trans Tryz.func4)
  obtain ⟨⟨⟨ds, gs, before, hw, _⟩, hx⟩, hz⟩ := hpre
  have hW := DataW.Whole.of_heap (w' := w0.forCall tape inp) (by rfl) hw
  have hsz := hz.weights hw
  have hL : laidMetH Tryz.prog L (w0.forCall tape inp) := laidMetH.of_heap (by rfl) hx
  have hI := maxLen_int hsh
  suffices hc : Calls Tryz.prog 4 inp.args (w0.forCall tape inp) fun e W' => ∃ v, e = .returned v ∧ Rows.plansSpec.post enc Tryz.prog Tryz.f4 false true false false (w0.forCall tape inp) inp.args v W' by
    refine hc.mono fun e W' ⟨v, he, hp⟩ => ?_
    subst he
    exact ChangeSpec.post_blind hp
  clear hz hx hw hsh
  revert hval0' hW hsz hL hI
  generalize inp.args = args
  generalize w0.forCall tape inp = W
  intro hval0 hW hsz hL hI
  have hval : ∀ (j : Nat) t v, Tryz.f4.params[j]? = some t → args[j]? = some v → Value.okWide Tryz.prog W .any w0.heap.size t v := hval0
  have hW' := hW
  obtain ⟨p, q, hA0, hV, rfl, _, _⟩ := hW
  have hA : DataW.TrodAll enc Tryz.prog W 0 (fun _ => true) true Tryz.f4.params.toList args.toList ds p := hA0
  rw [Tryz.params4] at hA hval hsz
  obtain ⟨v0, d0, rfl, rfl, h0⟩ := trodAll_one hA
  obtain ⟨rfl, rfl⟩ := trodVars_none hV
  have h0k := h0
  obtain ⟨ops, hops, hob⟩ := open_ops (okWide_slice Tryz.underlying37 (hval 0 37 v0 rfl rfl)) h0 (weights_of hsz (j := 0) rfl rfl)
  have hr := reachBytes_lt
  have hE : Ready W := ⟨laid_err hL, hI⟩
  have hlt : ∀ x ∈ p, x.block < W.heap.size := fun x hx => hW'.lt x (by simpa using hx)
  refine (plans_law v0 ops W hops (fun o ho => by have := hob o ho; omega) hE).mono fun e W' ⟨he, hb'⟩ => ?_
  subst he
  exact ⟨_, rfl, _, _, _, [], _, [], hW', trodAll_mk1 (shut_bool Tryz.underlying4 _), trodAll_mk1 (Below.trod laidOut (by kernel_rfl) (of_decide_eq_true (by kernel_rfl)) h0k hb' hlt), rfl, hb'.frame _, fun h => by cases h⟩

theorem said : Rows.PlansSaid :=
  OpenClaim.holds_of_wide 4 Tryz.f4 rfl rfl rfl rfl rfl rfl rfl ⟨rfl, rfl, rfl, rfl, rfl⟩ rfl rfl rfl rfl rfl (by kernel_rfl) Tryz.func4 closed
    (of_decide_eq_true (by kernel_rfl)) (by unfold Func.isWrapper; first | (rw [if_pos (by decide +kernel)]; kernel_rfl) | (rw [if_neg (by decide +kernel)]; exact ⟨rfl, rfl⟩))
    (fun os started H enc _ => lifted os started H enc)

theorem plain (f : FuncId) (fn : Func) (hf : Tryz.pinned.checked.prog.funcNamed "parcels/parcelslaw.Plans" = some f) (hfn : Tryz.pinned.checked.prog.funcs[f]? = some fn) :
    true = Tryz.pinned.checked.prog.looks [] ∧ ∀ (j : Nat) t, fn.params[j]? = some t → Tryz.pinned.checked.prog.wantsStandIn t = false := by
  obtain rfl : f = 4 := Option.some.inj ((show Tryz.prog.funcNamed "parcels/parcelslaw.Plans" = some 4 by kernel_rfl).symm.trans hf) |>.symm
  obtain rfl : fn = Tryz.f4 := (Option.some.inj (Tryz.func4.symm.trans hfn)).symm
  refine ⟨by kernel_rfl, fun j t ht => ?_⟩
  rw [Tryz.params4] at ht
  have hm : t ∈ [37] := by simpa using Array.mem_of_getElem? ht
  obtain rfl : t = 37 := by simpa using hm
  exact (show Tryz.prog.wantsStandIn 37 = false by kernel_rfl)
end PlansProof

/-- Plans: every Plan on an empty store: the order, or the error. -/
theorem plans_card : Rows.PlansCardSaid :=
  Claim7.holds_tied_plain_at .later [] _ _ _ _ PlansProof.said (fun _ h => by cases h) (by kernel_rfl) (fun _ h => by cases h) plans_row_tie rfl ⟨rfl, rfl⟩ (by kernel_rfl) rfl PlansProof.plain (by kernel_rfl)
end Go.Proofs.YtgnfknjopafngaaGreatDoor
