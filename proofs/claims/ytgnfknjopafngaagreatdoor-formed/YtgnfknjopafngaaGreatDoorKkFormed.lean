import Derived.Test.YtgnfknjopafngaaGreatDoorKkap
import Derived.Test.YtgnfknjopafngaaGreatDoorKkar
import Derived.Carry
namespace Go.Proofs.YtgnfknjopafngaaGreatDoor
open Go.RowKit Go.Maps
set_option maxRecDepth 100000 in
set_option maxHeartbeats 8000000 in
theorem formed_law (s : ByteArray) (w : World) (hs : s.size ≤ 1000000000000000000) (hR : Ready w) : Calls Tryz.prog 6 #[.string s] w fun e w' => e = .returned (.bool true) ∧ Below w.heap.size w w' := by
  by_cases h4 : s.size ≤ 4096
  · have cA := anchored_any w hR
    have cR := fun wx (hb : Below w.heap.size w wx) => xRead_any s wx (by omega) (hR.below hb)
    have HR : Hid (Ready w) := hR
    clear hR
    cases hr : readB s with
    | inl n =>
      replace cR : ∀ wx, Below w.heap.size w wx → Calls Tryz.prog 13 #[.string s] wx fun e w' => e = .returned (.tuple #[.string ⟨#[]⟩, .agg #[.int .i64 1, .int .i64 0, .int .i64 n, .string ⟨#[]⟩]]) ∧ Below wx.heap.size wx w' := fun wx hb => (cR wx hb).mono fun e w' h => by
        obtain ⟨T, N, a, b, c, rfl, h1, h2, _⟩ := h
        obtain ⟨rfl, rfl, rfl, rfl, rfl⟩ := h2 n hr
        exact ⟨rfl, h1⟩
      clear hr
      go_enter Tryz.func6, Tryz.ntmps6
      go_wp2_with (first
        | (go_at_call 18; refine cA.mono ?_; rintro e w1 ⟨rfl, hB1⟩)
        | (go_at_call 13; refine (cR _ hB1).mono ?_; rintro e w2 ⟨rfl, hB2⟩))
      go_ret
      exact ⟨rfl, (bt hB1 hB2).alloc (bt hB1 hB2).size _⟩
    | inr p =>
      have hb : M.Back p := (M.read_print hr).2.1
      have hrp : ReadP p := readP hr
      obtain ⟨T, hT⟩ : ∃ T : ByteArray, T = ⟨(M.printS p).toArray⟩ := ⟨_, rfl⟩
      have hTd : T.data.toList = M.printS p := by rw [hT]
      have hTs : T.size = (M.printS p).length := by rw [← hTd]; exact (len_data T).symm
      have hle : T.size ≤ s.size := by
        have := (M.read_print hr).1
        rw [hTs, ← len_data s]
        exact this
      have hne : T.toList.isEmpty = false := printS_ne p T hTd
      have h300 : T.size ≤ 300 := by rw [hTs]; exact hrp.len
      have hrT : readB T = .inr p := by unfold readB; rw [hTd]; exact hb
      have cR2 : ∀ wx, Below w.heap.size w wx → Calls Tryz.prog 13 #[.string T] wx fun e w' => ∃ b c N, e = .returned (.tuple #[.string T, .agg #[.int .i64 (0 : Nat), .int .i64 b, .int .i64 c, .string N]]) ∧ Below wx.heap.size wx w' := fun wx hbw => (xRead_any T wx (by omega) (HR.out.below hbw)).mono fun e w' h => by
        obtain ⟨T', N, a, b, c, rfl, h1, _, h2⟩ := h
        obtain ⟨rfl, h3⟩ := h2 p hrT
        have e1 : T' = T := bytes_same (h3.trans hTd.symm)
        exact ⟨b, c, N, by rw [e1], h1⟩
      replace cR : ∀ wx, Below w.heap.size w wx → Calls Tryz.prog 13 #[.string s] wx fun e w' => ∃ b c N, e = .returned (.tuple #[.string T, .agg #[.int .i64 (0 : Nat), .int .i64 b, .int .i64 c, .string N]]) ∧ Below wx.heap.size wx w' := fun wx hbw => (cR wx hbw).mono fun e w' h => by
        obtain ⟨T', N, a, b, c, rfl, h1, _, h2⟩ := h
        obtain ⟨rfl, h3⟩ := h2 p hr
        have e1 : T' = T := bytes_same (h3.trans hTd.symm)
        exact ⟨b, c, N, by rw [e1], h1⟩
      clear hr hrT hTd hT hb hrp hTs
      go_enter Tryz.func6, Tryz.ntmps6
      go_wp2_with (first
        | (go_at_call 18; refine cA.mono ?_; rintro e w1 ⟨rfl, hB1⟩)
        | (go_at_call 13; first
            | (refine (cR _ hB1).mono ?_; rintro e w2 ⟨b2, c2, N2, rfl, hB2⟩; clear cR; have hB3 := (bt hB1 hB2).alloc (bt hB1 hB2).size (.cells #[.int .i64 (0 : Nat), .int .i64 b2, .int .i64 c2, .string N2] 23))
            | (refine (cR2 _ hB3).mono ?_; rintro e w4 ⟨b4, c4, N4, rfl, hB4⟩)))
      go_ret
      exact ⟨rfl, (bt hB3 hB4).alloc (bt hB3 hB4).size _⟩
  · have h5 : 4096 < s.size := by omega
    go_enter Tryz.func6, Tryz.ntmps6
    go_wp2
    go_ret
    exact ⟨rfl, Below.refl _ _⟩
end Go.Proofs.YtgnfknjopafngaaGreatDoor
namespace Go.Proofs.YtgnfknjopafngaaGreatDoor
namespace FormedProof
theorem fact1 : (Rows.formedRow.inPlace == Tryz.prog.inPlace 6) = true := by kernel_rfl
theorem fact2 : (Rows.formedRow.unfollowed == Tryz.prog.unfollowed 6) = true := by kernel_rfl
theorem fact3 : (Rows.formedRow.recurses == Tryz.prog.recurses 6) = true := by kernel_rfl
theorem fact4 : (Rows.formedRow.named == Tryz.prog.varsNamed 6) = true := by kernel_rfl
theorem closed : joinedFacts Tryz.prog 6 Tryz.f6 Rows.formedSpec Rows.formedRow = true := by
  unfold joinedFacts
  rw [fact1, fact2, fact3, fact4]
  kernel_rfl
end FormedProof
end Go.Proofs.YtgnfknjopafngaaGreatDoor
namespace Go.Proofs.YtgnfknjopafngaaGreatDoor
namespace FormedProof
open Go.ChangeShapes Go.WideShapes Go.ChangeAt Go.RowKit
open LaidKit
open Go.ChangeMaps (open_string shut_string)
set_option maxRecDepth 100000 in
theorem lifted (os : Os) (started : os.Started) (H : Type) (enc : TypeId × Value → H) :
    ReturnsInHanded {} Tryz.checked os 6 .any (fun w args => (Rows.formedSpec.pre enc Tryz.prog Tryz.f6 Rows.formedRow.domain false w args ∧ laidMetH Tryz.prog Rows.formedRow.laid w) ∧ sizedMet enc Tryz.prog Tryz.f6 (OpenSpec.ofChange Rows.formedSpec) false w args)
      (Rows.formedSpec.post enc Tryz.prog Tryz.f6 false true false false) := by
  refine returnsInHanded_of_calls (C := Tryz.checked) own started (by kernel_rfl)
    (ChangeSpec.witness_shaped (enc := enc) (C := Tryz.checked) (os := os) (X := fun w _ => laidMetH Tryz.prog Rows.formedRow.laid w) false ((witH (World.holding Tryz.prog os ⟨#[], #[], []⟩)).layVars Tryz.prog dataL) #[.string ⟨#[]⟩] 8 (wit_os os)
      (World.shaped_of_ZipB (by kernel_rfl) (by kernel_rfl)) (by kernel_rfl) (by kernel_rfl) (by kernel_rfl) (wit_met os _)) ?_
  intro w0 tape inp _ hsh _ hok hpre _
  obtain ⟨_, _, _, fn', hfn', _, _, _, _, hval0'⟩ := hok
  obtain rfl : fn' = Tryz.f6 := Option.some.inj (hfn'.symm.trans Tryz.func6)
  obtain ⟨⟨⟨ds, gs, before, hw, _⟩, hx⟩, hz⟩ := hpre
  have hW := DataW.Whole.of_heap (w' := w0.forCall tape inp) (by rfl) hw
  have hsz := hz.weights hw
  have hL : laidMetH Tryz.prog L (w0.forCall tape inp) := laidMetH.of_heap (by rfl) hx
  have hI := maxLen_int hsh
  suffices hc : Calls Tryz.prog 6 inp.args (w0.forCall tape inp) fun e W' => ∃ v, e = .returned v ∧ Rows.formedSpec.post enc Tryz.prog Tryz.f6 false true false false (w0.forCall tape inp) inp.args v W' by
    refine hc.mono fun e W' ⟨v, he, hp⟩ => ?_
    subst he
    exact ChangeSpec.post_blind hp
  clear hz hx hw hsh
  revert hval0' hW hsz hL hI
  generalize inp.args = args
  generalize w0.forCall tape inp = W
  intro hval0 hW hsz hL hI
  have hval : ∀ (j : Nat) t v, Tryz.f6.params[j]? = some t → args[j]? = some v → Value.okWide Tryz.prog W .any w0.heap.size t v := hval0
  have hW' := hW
  obtain ⟨p, q, hA0, hV, rfl, _, _⟩ := hW
  have hA : DataW.TrodAll enc Tryz.prog W 0 (fun _ => true) true Tryz.f6.params.toList args.toList ds p := hA0
  rw [Tryz.params6] at hA hval hsz
  obtain ⟨v0, d0, rfl, rfl, h0⟩ := trodAll_one hA
  obtain ⟨rfl, rfl⟩ := trodVars_none hV
  obtain ⟨a, rfl, rfl, rfl, ha⟩ := open_string Tryz.underlying9 (hval 0 9 v0 rfl rfl) h0
  have sa : a.data.toList.length ≤ reachBytes := sized_string hsz (j := 0) (t := 9) rfl rfl
  have hr := reachBytes_lt
  rw [Array.length_toList, ByteArray.size_data] at sa
  have hE : Ready W := ⟨laid_err hL, hI⟩
  refine (formed_law a W (by omega) hE).mono fun e W' ⟨he, hb'⟩ => ?_
  subst he
  exact ⟨_, rfl, _, _, _, [], [], [], hW', trodAll_mk1 (shut_bool Tryz.underlying4 _), trodAll_mk1 (shut_string Tryz.underlying9 ha), rfl, hb'.frame _, fun h => by cases h⟩
theorem said : Rows.FormedSaid :=
  OpenClaim.holds_of_wide 6 Tryz.f6 rfl rfl rfl rfl rfl rfl rfl ⟨rfl, rfl, rfl, rfl, rfl⟩ rfl rfl rfl rfl rfl (by kernel_rfl) Tryz.func6 closed
    (of_decide_eq_true (by kernel_rfl)) (by unfold Func.isWrapper; first | (rw [if_pos (by decide +kernel)]; kernel_rfl) | (rw [if_neg (by decide +kernel)]; exact ⟨rfl, rfl⟩))
    (fun os started H enc _ => lifted os started H enc)
theorem plain (f : FuncId) (fn : Func) (hf : Tryz.pinned.checked.prog.funcNamed "parcels/parcelskeep.Formed" = some f) (hfn : Tryz.pinned.checked.prog.funcs[f]? = some fn) :
    true = Tryz.pinned.checked.prog.looks [] ∧ ∀ (j : Nat) t, fn.params[j]? = some t → Tryz.pinned.checked.prog.wantsStandIn t = false := by
  obtain rfl : f = 6 := Option.some.inj ((show Tryz.prog.funcNamed "parcels/parcelskeep.Formed" = some 6 by kernel_rfl).symm.trans hf) |>.symm
  obtain rfl : fn = Tryz.f6 := (Option.some.inj (Tryz.func6.symm.trans hfn)).symm
  refine ⟨by kernel_rfl, fun j t ht => ?_⟩
  rw [Tryz.params6] at ht
  have hm : t ∈ [9] := by simpa using Array.mem_of_getElem? ht
  obtain rfl : t = 9 := by simpa using hm
  exact (show Tryz.prog.wantsStandIn 9 = false by kernel_rfl)
end FormedProof
theorem formed_card : Rows.FormedCardSaid :=
  Claim7.holds_tied_plain_at .later [] _ _ _ _ FormedProof.said (fun _ h => by cases h) (by kernel_rfl) (fun _ h => by cases h) formed_row_tie rfl ⟨rfl, rfl⟩ (by kernel_rfl) rfl FormedProof.plain (by kernel_rfl)
end Go.Proofs.YtgnfknjopafngaaGreatDoor
