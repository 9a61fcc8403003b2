import Derived.ProofKit
import Derived.OpenShut
import Derived.Lay
import Derived.LaidOnce
import Derived.LaidLaws
import Derived.LaidHandle
import Derived.Shelf.Vars
import Derived.ChangeVars
import Derived.SizedLaws
import Derived.SevenTiedAt
import Derived.Test.YtgnfknjopafngaaGreatDoorKfo
import Derived.Test.YtgnfknjopafngaaGreatDoorCards
import Derived.Test.YtgnfknjopafngaaGreatDoorTie
import Derived.Test.YtgnfknjopafngaaGreatDoorKfr
import Derived.Test.YtgnfknjopafngaaGreatDoorKfp
namespace Go.Proofs.YtgnfknjopafngaaGreatDoor
namespace FormsProof
open Go.ChangeShapes Go.WideShapes Go.ChangeAt Go.RowKit
open Go.ChangeMaps (open_string shut_string)
theorem own : ownKnob Tryz.prog.godebug = none := by kernel_rfl
theorem et : Tryz.prog.globalNamed "errors.errorType" = some 0 := by kernel_rfl
theorem rt : (Tryz.prog.cutTypes.find? (·.1 == "internal/reflectlite.rtype")).map (·.2) = some 221 := by kernel_rfl
theorem oneRow : ((List.range 381).filter fun t => Tryz.prog.rowNamed t [101, 114, 114, 111, 114]) = [67] := by kernel_rfl
theorem size : Tryz.prog.types.size = 381 := by kernel_rfl
theorem hlist : (Rows.formsRow.laid.filter fun x => x.2.handleName?.isSome) = [("errors.errorType", Rows.laid_errors_errorType)] := by kernel_rfl
theorem laid_err {W : World} (h : laidMetH Tryz.prog Rows.formsRow.laid W) : ErrLaid W := by
  unfold laidMetH at h
  rw [hlist] at h
  obtain ⟨name, u, ty, e1, e2, e3, e4, e5⟩ := h.2 _ (List.mem_singleton.2 rfl)
  have en : name = [101, 114, 114, 111, 114] := (Option.some.inj e1).symm
  subst en
  obtain rfl := Option.some.inj (rt.symm.trans e2)
  have hm : ty ∈ (List.range 381).filter fun t => Tryz.prog.rowNamed t [101, 114, 114, 111, 114] := List.mem_filter.2 ⟨List.mem_range.2 (by rw [← size]; exact e3), e4⟩
  rw [oneRow] at hm
  obtain rfl := List.mem_singleton.1 hm
  have hh : typeHandle Tryz.prog 67 = .pointer (some ⟨4, 67, none⟩) := by kernel_rfl
  rw [hh] at e5
  have h0 := World.var?_cell et e5 0
  show W.cell? ⟨0, 0, none⟩ = _
  simpa using h0
def dataL : List (String × DataW Unit) := Rows.formsRow.laid.filter fun x => x.2.handleName?.isNone
def setH : Obj → Obj
  | .cells _ t frozen => .cells #[.iface 221 (.agg #[.pointer (some ⟨4, 67, none⟩)])] t frozen
  | o => o
def witH (w0 : World) : World := { w0 with heap := w0.heap.modify 0 setH }
theorem wit_os (os : Os) : ((witH (World.holding Tryz.prog os ⟨#[], #[], []⟩)).layVars Tryz.prog dataL).os = os := (World.layVars_os _ _ _).trans rfl
theorem wit_data (os : Os) : laidMet Tryz.prog dataL ((witH (World.holding Tryz.prog os ⟨#[], #[], []⟩)).layVars Tryz.prog dataL) := by
  have e1 : (dataL.filter fun x => (dataL.map (·.1)).contains x.1) = dataL := List.filter_eq_self.2 fun x hx => List.contains_iff_mem.2 (List.mem_map.2 ⟨x, hx, rfl⟩)
  have e2 : (dataL.filter fun x => !(dataL.map (·.1)).contains x.1) = [] := List.filter_eq_nil_iff.2 fun x hx => by rw [List.contains_iff_mem.2 (List.mem_map.2 ⟨x, hx, rfl⟩)]; simp
  exact laidMet_layVars (w0 := witH (World.holding Tryz.prog os ⟨#[], #[], []⟩)) (dataL.map (·.1)) [] (by rw [e1]) (by rw [e1]; kernel_rfl) (by rw [e1]; kernel_rfl) (by rw [e2]; exact LaidIn.none)
theorem wit_met (os : Os) (args : Array Value) : laidMetH Tryz.prog Rows.formsRow.laid (((witH (World.holding Tryz.prog os ⟨#[], #[], []⟩)).layVars Tryz.prog dataL).forCall (fun _ _ => 0) ⟨#[], args, []⟩).memory :=
  laidMetH_of_parts ((wit_data os).of_heap (by simp [World.memory, World.forCall, Input.heap])) (by kernel_rfl)
theorem maxLen_int {W : World} (h : W.ShapedOpen Tryz.prog) : ∃ m, W.cell? ⟨1, 0, none⟩ = some (.int .i64 m) :=
  Go.Proofs.cell_of_shapedOpen_int (zero := #[.int .i64 0]) (t := 3) h (of_decide_eq_true (by kernel_rfl)) (by kernel_rfl) rfl (by kernel_rfl) (by kernel_rfl) Tryz.underlying3
def OwnRead : Prop := ∀ (s : ByteArray) (w : World), s.size ≤ 8192 → Ready w → Calls Tryz.prog 34 #[.string s] w (OwnPost s w)
set_option maxRecDepth 100000 in
theorem lifted (hR : OwnRead) (os : Os) (started : os.Started) (H : Type) (enc : TypeId × Value → H) :
    ReturnsInHanded {} Tryz.checked os 3 .any (fun w args => (Rows.formsSpec.pre enc Tryz.prog Tryz.f3 Rows.formsRow.domain false w args ∧ laidMetH Tryz.prog Rows.formsRow.laid w) ∧ sizedMet enc Tryz.prog Tryz.f3 (OpenSpec.ofChange Rows.formsSpec) false w args)
      (Rows.formsSpec.post enc Tryz.prog Tryz.f3 false true false false) := by
  refine returnsInHanded_of_calls (C := Tryz.checked) own started (by kernel_rfl)
    (ChangeSpec.witness_shaped (enc := enc) (C := Tryz.checked) (os := os) (X := fun w _ => laidMetH Tryz.prog Rows.formsRow.laid w) false ((witH (World.holding Tryz.prog os ⟨#[], #[], []⟩)).layVars Tryz.prog dataL) #[.string ⟨#[]⟩] 8 (wit_os os)
      (World.shaped_of_ZipB (by kernel_rfl) (by kernel_rfl)) (by kernel_rfl) (by kernel_rfl) (by kernel_rfl) (wit_met os _)) ?_
  intro w0 tape inp _ hsh _ hok hpre _
  obtain ⟨_, _, _, fn', hfn', _, _, _, _, hval0'⟩ := hok
  obtain rfl : fn' = Tryz.f3 := Option.some.inj (hfn'.symm.trans Tryz.func3)
  obtain ⟨⟨⟨ds, gs, before, hw, _⟩, hx⟩, hz⟩ := hpre
  have hW := DataW.Whole.of_heap (w' := w0.forCall tape inp) (by rfl) hw
  have hsz := hz.weights hw
  have hL : laidMetH Tryz.prog Rows.formsRow.laid (w0.forCall tape inp) := laidMetH.of_heap (by rfl) hx
  have hI := maxLen_int hsh
  suffices hc : Calls Tryz.prog 3 inp.args (w0.forCall tape inp) fun e W' => ∃ v, e = .returned v ∧ Rows.formsSpec.post enc Tryz.prog Tryz.f3 false true false false (w0.forCall tape inp) inp.args v W' by
    refine hc.mono fun e W' ⟨v, he, hp⟩ => ?_
    subst he
    exact ChangeSpec.post_blind hp
  clear hz hx hw hsh
  revert hval0' hW hsz hL hI
  generalize inp.args = args
  generalize w0.forCall tape inp = W
  intro hval0 hW hsz hL hI
  have hval : ∀ (j : Nat) t v, Tryz.f3.params[j]? = some t → args[j]? = some v → Value.okWide Tryz.prog W .any w0.heap.size t v := hval0
  have hW' := hW
  obtain ⟨p, q, hA0, hV, rfl, _, _⟩ := hW
  have hA : DataW.TrodAll enc Tryz.prog W 0 (fun _ => true) true Tryz.f3.params.toList args.toList ds p := hA0
  rw [Tryz.params3] at hA hval hsz
  obtain ⟨v0, d0, rfl, rfl, h0⟩ := trodAll_one hA
  obtain ⟨rfl, rfl⟩ := trodVars_none hV
  obtain ⟨a, rfl, rfl, rfl, ha⟩ := open_string Tryz.underlying9 (hval 0 9 v0 rfl rfl) h0
  have sa : a.data.toList.length ≤ reachBytes := sized_string hsz (j := 0) (t := 9) rfl rfl
  have hr := reachBytes_lt
  rw [Array.length_toList, ByteArray.size_data] at sa
  have hE : Ready W := ⟨laid_err hL, hI⟩
  refine (forms_law a W (fun h8 => plain_read a W hE fun w hw => hR a w h8 hw) (by omega)).mono fun e W' ⟨he, hb'⟩ => ?_
  subst he
  exact ⟨_, rfl, _, _, _, [], [], [], hW', trodAll_mk1 (shut_bool Tryz.underlying4 _), trodAll_mk1 (shut_string Tryz.underlying9 ha), rfl, hb'.frame _, fun h => by cases h⟩
theorem said (hR : OwnRead) : Rows.FormsSaid :=
  OpenClaim.holds_of_wide 3 Tryz.f3 rfl rfl rfl rfl rfl rfl rfl ⟨rfl, rfl, rfl, rfl, rfl⟩ rfl rfl rfl rfl rfl (by kernel_rfl) Tryz.func3 (by kernel_rfl)
    (of_decide_eq_true (by kernel_rfl)) (by unfold Func.isWrapper; first | (rw [if_pos (by decide +kernel)]; kernel_rfl) | (rw [if_neg (by decide +kernel)]; exact ⟨rfl, rfl⟩))
    (fun os started H enc _ => lifted hR os started H enc)
theorem plain (f : FuncId) (fn : Func) (hf : Tryz.pinned.checked.prog.funcNamed "parcels/parcelslaw.Forms" = some f) (hfn : Tryz.pinned.checked.prog.funcs[f]? = some fn) :
    true = Tryz.pinned.checked.prog.looks [] ∧ ∀ (j : Nat) t, fn.params[j]? = some t → Tryz.pinned.checked.prog.wantsStandIn t = false := by
  obtain rfl : f = 3 := Option.some.inj ((show Tryz.prog.funcNamed "parcels/parcelslaw.Forms" = some 3 by kernel_rfl).symm.trans hf) |>.symm
  obtain rfl : fn = Tryz.f3 := (Option.some.inj (Tryz.func3.symm.trans hfn)).symm
  refine ⟨by kernel_rfl, fun j t ht => ?_⟩
  rw [Tryz.params3] at ht
  have hm : t ∈ [9] := by simpa using Array.mem_of_getElem? ht
  obtain rfl : t = 9 := by simpa using hm
  exact (show Tryz.prog.wantsStandIn 9 = false by kernel_rfl)
end FormsProof
theorem forms_card_of (hR : FormsProof.OwnRead) : Rows.FormsCardSaid :=
  Claim7.holds_tied_plain_at .later [] _ _ _ _ (FormsProof.said hR) (fun _ h => by cases h) (by kernel_rfl) (fun _ h => by cases h) forms_row_tie rfl ⟨rfl, rfl⟩ (by kernel_rfl) rfl FormsProof.plain (by kernel_rfl)
end Go.Proofs.YtgnfknjopafngaaGreatDoor
namespace Go.Proofs.YtgnfknjopafngaaGreatDoor
open Go.RowKit
set_option maxRecDepth 100000 in
set_option maxHeartbeats 2000000 in
theorem ownRead : FormsProof.OwnRead := by
  intro s w hs hR
  have hM : MaxIs w := hR.2
  have cP := pRead_any s w hM hs
  cases hr : M.readS s.data.toList with
  | inl n =>
    have HR : Hid (readB s = .inl n) := hr
    replace cP : Calls Tryz.prog 55 #[.string s] w fun e w' => ∃ fb, e = .returned (.tuple #[.agg #[.string ⟨#[]⟩, .string ⟨#[]⟩, .slice none 0 0, .slice none 0 0, .slice none 0 0], .iface 112 (.pointer (some ⟨fb, 0, none⟩))]) ∧ FaultAt w' fb 1 0 n ⟨#[]⟩ ∧ Below w.heap.size w w' := cP.mono fun e w' h => by
      obtain ⟨h1, h2⟩ := h
      rw [hr] at h2
      obtain ⟨fb, h3, h4⟩ := h2
      exact ⟨fb, h3, h4, h1⟩
    clear hr hR hM
    go_enter Tryz.func34, Tryz.ntmps34
    go_wp2_with fail
    refine cP.mono ?_
    rintro e w1 ⟨fb, rfl, hF, hB⟩
    go_wp2
    go_ret2
    have hlt := hF.lt
    exact ⟨hB.alloc hB.size _, .inl ⟨n, fb, HR.out, rfl, (World.cell?_alloc_past _ _ _ hlt).trans hF.c0, (World.cell?_alloc_past _ _ _ hlt).trans hF.c1, (World.cell?_alloc_past _ _ _ hlt).trans hF.c2, (World.cell?_alloc_past _ _ _ hlt).trans hF.c3⟩⟩
  | inr p =>
    have HR : Hid (readB s = .inr p) := hr
    have hsh := readS_short hr
    replace cP : Calls Tryz.prog 55 #[.string s] w fun e w' => ∃ an cn ab cb af cf, e = .returned (.tuple #[.agg #[.string ⟨p.name.toArray⟩, .string ⟨p.ver.toArray⟩, .slice an p.needs.length cn, .slice ab p.bars.length cb, .slice af p.files.length cf], .nilIface]) ∧ PkVal w' p (.agg #[.string ⟨p.name.toArray⟩, .string ⟨p.ver.toArray⟩, .slice an p.needs.length cn, .slice ab p.bars.length cb, .slice af p.files.length cf]) ∧ Below w.heap.size w w' := cP.mono fun e w' h => by
      obtain ⟨h1, h2⟩ := h
      rw [hr] at h2
      obtain ⟨v, h3, h4⟩ := h2
      have h5 := h4
      obtain ⟨nv, bv, fv, rfl, g1, g2, g3⟩ := h5
      obtain ⟨an, cn, rfl⟩ := g1.form
      obtain ⟨ab, cb, rfl⟩ := g2.form
      obtain ⟨af, cf, rfl⟩ := g3.form
      exact ⟨an, cn, ab, cb, af, cf, h3, h4.val, h1⟩
    clear hr hR hM
    go_enter Tryz.func34, Tryz.ntmps34
    go_wp2_with fail
    refine cP.mono ?_
    rintro e w1 ⟨an, cn, ab, cb, af, cf, rfl, hV, hB⟩
    have cO := fun wx (hb : Below w1.heap.size w1 wx) => oneForm_any p _ wx (hV.belowL hb) hsh
    clear hV
    go_wp2_with fail
    refine (cO _ ((Below.refl _ w1).alloc (Nat.le_refl _) _)).mono ?_
    rintro e w2 ⟨T, rfl, hT, hB2⟩
    go_wp2
    go_ret2
    exact ⟨bt hB (bt ((Below.refl _ w1).alloc (Nat.le_refl _) _) hB2), .inr ⟨p, T, HR.out, rfl, hT⟩⟩
theorem forms_card : Rows.FormsCardSaid := forms_card_of ownRead
end Go.Proofs.YtgnfknjopafngaaGreatDoor
