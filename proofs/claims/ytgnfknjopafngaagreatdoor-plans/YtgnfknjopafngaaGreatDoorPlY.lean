import Derived.Test.YtgnfknjopafngaaGreatDoorPlW
import Derived.Test.YtgnfknjopafngaaGreatDoorPlX
import Derived.Test.YtgnfknjopafngaaGreatDoorPlV
import Derived.Laws.Cover3
/-
  THE LAW, WALKED: a plan is asked for.
-/
namespace Go.Proofs.YtgnfknjopafngaaGreatDoor
open Go.RowKit Go.Maps

theorem PksIn.none (w : World) : PksIn w (.slice .none 0 0) [] := .inl ⟨rfl, _, _, rfl⟩

/-- What both sides answer to a plan. -/
theorem plan_pair (there : List M.Pk) (texts : List ByteArray) (hr : ∀ p ∈ there, ReadP p) (ha : M.Apart there) : ∃ (names : List ByteArray) (fk fw fl : Int) (fn : ByteArray),
    (∀ w e w', PlannedPost there texts w e w' → ∃ a n c ao co, e = .returned (.tuple #[.slice a n c, .slice ao names.length co, .agg #[.int .i64 fk, .int .i64 fw, .int .i64 fl, .string fn]]) ∧ StrsIn w' (.slice ao names.length co) names ∧ Below w.heap.size w w') ∧
    (∀ w e w', PlainPost (M.plannedS there (texts.map fun t => t.data.toList)) w e w' → ∃ ao co, e = .returned (.tuple #[.slice ao names.length co, .agg #[.int .i64 fk, .int .i64 fw, .int .i64 fl, .string fn]]) ∧ StrsIn w' (.slice ao names.length co) names ∧ Below w.heap.size w w') ∧ names.length ≤ texts.length := by
  cases hp : M.plannedS there (texts.map fun t => t.data.toList) with
  | inl f =>
    refine ⟨[], f.kind, f.which, f.line, ⟨f.name.toArray⟩, ?_, ?_, Nat.zero_le _⟩
    · rintro w e w' ⟨hB, hm⟩
      rw [hp] at hm
      exact ⟨_, _, _, _, _, hm, StrsIn.none w', hB⟩
    · rintro w e w' ⟨hB, hm⟩
      exact ⟨_, _, hm, StrsIn.none w', hB⟩
  | inr q =>
    obtain ⟨all, names⟩ := q
    obtain ⟨_, _, _, _, _, hl⟩ := M.planned_ok hp (fun p h => (hr p h).back) ha
    have e0 : (names.map fun n => (⟨n.toArray⟩ : ByteArray)).length = names.length := List.length_map ..
    refine ⟨names.map fun n => (⟨n.toArray⟩ : ByteArray), 0, 0, 0, ⟨#[]⟩, ?_, ?_, by rw [e0, hl, List.length_map]; exact Nat.le_refl _⟩
    · rintro w e w' ⟨hB, hm⟩
      rw [hp] at hm
      obtain ⟨av, ov, rfl, h1, h2⟩ := hm
      obtain ⟨a, c, rfl⟩ := h1.form
      have h3 : StrsIn w' ov (names.map fun n => (⟨n.toArray⟩ : ByteArray)) := by
        unfold StrsIn
        rw [← nm_strs, e0]
        exact h2
      obtain ⟨ao, co, rfl⟩ := h3.form
      exact ⟨_, _, _, _, _, rfl, h3, hB⟩
    · rintro w e w' ⟨hB, hm⟩
      obtain ⟨v, rfl, h3⟩ := hm
      obtain ⟨ao, co, rfl⟩ := h3.form
      exact ⟨_, _, rfl, h3, hB⟩

set_option maxRecDepth 100000 in
set_option maxHeartbeats 8000000 in
theorem step_plan (x d s k b : Nat) (W w : World) (hv : Value) (hand : List ByteArray) (A B : Int) (S : ByteArray) (hP : PBase W x d s k b) (h : HandAt W w x hv hand) (hn : hand.length ≤ 10000) (hs : ∀ t ∈ hand, t.size ≤ 8192) :
    Calls Tryz.prog 41 #[.pointer (some ⟨W.heap.size, 0, none⟩), .agg #[.int .i64 5, .int .i64 A, .int .i64 B, .string S]] w (StepPost W x hand) := by
  generalize hA : w.alloc (.cells #[.int .i64 5, .int .i64 A, .int .i64 B, .string S] 81) = A0
  have hB0 : Below w.heap.size w A0 := by rw [← hA]; exact (Below.refl _ w).alloc (Nat.le_refl _) _
  have hb0 : A0.heap[w.heap.size]? = some (.cells #[.int .i64 5, .int .i64 A, .int .i64 B, .string S] 81 (0, 0)) := by rw [← hA]; exact heap_alloc_new w _
  have o0 : A0.cell? ⟨w.heap.size, 0, none⟩ = some (.int .i64 5) := (cell_of_row A0 _ 0 _ _ (0, 0) hb0).trans rfl
  have h0 := h.next hB0
  have hP0 := hP.below h0.below
  have c0 : A0.cell? ⟨W.heap.size, 0, none⟩ = some (.pointer (some ⟨x, 0, none⟩)) := (cell_of_row A0 _ 0 _ _ (0, 0) h0.blk).trans rfl
  have c5 : A0.cell? ⟨W.heap.size, 5, none⟩ = some hv := (cell_of_row A0 _ 5 _ _ (0, 0) h0.blk).trans rfl
  have cL := lost_any x d false A0 ((cell_of_row A0 _ 0 _ _ (0, 0) hP0.sess).trans rfl) hP0.dead
  obtain ⟨v1, w1, hr1, hs1, hB1⟩ := append_strs 43 (W.heap.size + 1) hv hand h0.own (by omega)
  obtain ⟨ah, ch, eh⟩ := own_form h0.own
  subst eh
  obtain ⟨a1, c1, e1⟩ := hs1.form
  subst e1
  have HR : Hid ((Builtin.append_ #[43, 43] 43 #[.slice none 0 0, .slice ah hand.length ch]).run Tryz.prog A0 = .ok (.slice a1 hand.length c1) w1) := hr1
  have o1 : w1.cell? ⟨w.heap.size, 0, none⟩ = some (.int .i64 5) := (hB1.cell (p := ⟨w.heap.size, 0, none⟩) (World.block_lt_of_cell? _ _ o0)).trans o0
  have h1 := h0.next hB1
  have d2 : w1.cell? ⟨W.heap.size, 2, none⟩ = some (.slice none 0 0) := (cell_of_row w1 _ 2 _ _ (0, 0) h1.blk).trans rfl
  have HS1 : Hid (StrsIn w1 (.slice a1 hand.length c1) hand) := hs1
  have H1 : Hid (HandAt W w1 x (.slice ah hand.length ch) hand) := h1
  have HP : Hid (PBase W x d s k b) := hP
  have HS : Hid (∀ t ∈ hand, t.size ≤ 8192) := hs
  have cP := planned_any (.slice none 0 0) (.slice a1 hand.length c1) [] hand w1 (PksIn.none w1) hs1 (by simp) (by omega) (fun t ht => Nat.le_trans (hs t ht) (by omega)) (fun p hp => by cases hp)
  clear hb0 hr1 hs1 h h0 h1 hP hP0 hB0 hs
  go_enter Tryz.func41, Tryz.ntmps41
  go_wp2_with (first
    | (go_at_call 32; refine cL.mono ?_; rintro e w' ⟨rfl, rfl⟩)
    | (at_builtin; refine wpList_append_eq rfl (.const (.slice none 0 0)) (.tmp 66) 43 rfl _ _ _ _ rfl rfl HR.out ?_))
  refine cP.mono ?_
  intro e w2 hq2
  obtain ⟨names, fk, fw, fl, fn, g1, g2, g3⟩ := plan_pair [] hand (fun p hp => by cases hp) M.apart_nil
  obtain ⟨pa, pn, pc, po, pco, rfl, hw2, hB2⟩ := g1 _ _ _ hq2
  clear cP cL c0 c5 o0 d2 o1 g1 hq2
  have H2 : Hid (HandAt W w2 x (.slice ah hand.length ch) hand) := H1.out.next hB2
  have HS2 : Hid (StrsIn w2 (.slice a1 hand.length c1) hand) := HS1.out.below hB2
  have cX : ∀ wx, Below w2.heap.size w2 wx → Calls Tryz.prog 26 #[.pointer (some ⟨x, 0, none⟩), .slice a1 hand.length c1] wx fun e w' => ∃ ao co, e = .returned (.tuple #[.slice ao names.length co, .agg #[.int .i64 fk, .int .i64 fw, .int .i64 fl, .string fn]]) ∧ StrsIn w' (.slice ao names.length co) names ∧ Below wx.heap.size wx w' := fun wx hb =>
    have hPx := HP.out.below (bt H2.out.below hb)
    (xPlan_any x d s k b [] _ hand wx hPx.ready hPx.sess hPx.store hPx.set (HS2.out.below hb) hn HS.out (by simp) (fun p hp => by cases hp)).mono (g2 wx)
  have hnl : names.length ≤ 1000000 := by omega
  generalize hA2 : w2.alloc (.cells #[.int .i64 fk, .int .i64 fw, .int .i64 fl, .string fn] 34) = A2
  have hBA2 : Below w2.heap.size w2 A2 := by rw [← hA2]; exact (Below.refl _ w2).alloc (Nat.le_refl _) _
  have hf2 : A2.heap[w2.heap.size]? = some (.cells #[.int .i64 fk, .int .i64 fw, .int .i64 fl, .string fn] 34 (0, 0)) := by rw [← hA2]; exact heap_alloc_new w2 _
  have hl2 := (Array.getElem?_eq_some_iff.1 hf2).1
  have c0 : A2.cell? ⟨W.heap.size, 0, none⟩ = some (.pointer (some ⟨x, 0, none⟩)) := (cell_of_row A2 _ 0 _ _ (0, 0) (H2.out.next hBA2).blk).trans rfl
  have HF2 : Hid (A2.heap[w2.heap.size]? = some (.cells #[.int .i64 fk, .int .i64 fw, .int .i64 fl, .string fn] 34 (0, 0))) := hf2
  have HW2 : Hid (StrsIn w2 (.slice po names.length pco) names) := hw2
  clear hw2 hf2 g2 HR
  go_wp2_with fail
  refine (cX _ hBA2).mono ?_
  rintro e w3 ⟨qo, qco, rfl, hw3, hB3⟩
  clear cX
  generalize hA3 : w3.alloc (.cells #[.int .i64 fk, .int .i64 fw, .int .i64 fl, .string fn] 23) = A3
  have hBA3 : Below w3.heap.size w3 A3 := by rw [← hA3]; exact (Below.refl _ w3).alloc (Nat.le_refl _) _
  have hf3 : A3.heap[w3.heap.size]? = some (.cells #[.int .i64 fk, .int .i64 fw, .int .i64 fl, .string fn] 23 (0, 0)) := by rw [← hA3]; exact heap_alloc_new w3 _
  have cS := same_true (.slice qo names.length qco) (.slice po names.length pco) names A3 (hw3.below hBA3) (((HW2.out.below hBA2).below hB3).below hBA3) hnl
  have HF3 : Hid (A3.heap[w3.heap.size]? = some (.cells #[.int .i64 fk, .int .i64 fw, .int .i64 fl, .string fn] 23 (0, 0)) ∧ A3.heap[w2.heap.size]? = some (.cells #[.int .i64 fk, .int .i64 fw, .int .i64 fl, .string fn] 34 (0, 0))) :=
    ⟨hf3, (hBA3.block _ (Nat.lt_of_lt_of_le hl2 hB3.size)).trans ((hB3.block _ hl2).trans HF2.out)⟩
  have H3 : Hid (HandAt W A3 x (.slice ah hand.length ch) hand) := ((H2.out.next hBA2).next hB3).next hBA3
  have hl3 := (Array.getElem?_eq_some_iff.1 hf3).1
  have hl4 := (Array.getElem?_eq_some_iff.1 HF3.out.2).1
  clear hw3 hf3 c0
  go_wp2_with fail
  refine cS.mono ?_
  rintro e w4 ⟨rfl, hB4⟩
  clear cS
  have i4 : w4.heap[w3.heap.size]? = some (.cells #[.int .i64 fk, .int .i64 fw, .int .i64 fl, .string fn] 23 (0, 0)) := (hB4.block _ hl3).trans HF3.out.1
  have j4 : w4.heap[w2.heap.size]? = some (.cells #[.int .i64 fk, .int .i64 fw, .int .i64 fl, .string fn] 34 (0, 0)) := (hB4.block _ hl4).trans HF3.out.2
  have i40 : w4.cell? ⟨w3.heap.size, 0, none⟩ = some (.int .i64 fk) := (cell_of_row w4 _ 0 _ _ (0, 0) i4).trans rfl
  have i41 : w4.cell? ⟨w3.heap.size, 1, none⟩ = some (.int .i64 fw) := (cell_of_row w4 _ 1 _ _ (0, 0) i4).trans rfl
  have i42 : w4.cell? ⟨w3.heap.size, 2, none⟩ = some (.int .i64 fl) := (cell_of_row w4 _ 2 _ _ (0, 0) i4).trans rfl
  have i43 : w4.cell? ⟨w3.heap.size, 3, none⟩ = some (.string fn) := (cell_of_row w4 _ 3 _ _ (0, 0) i4).trans rfl
  have j40 : w4.cell? ⟨w2.heap.size, 0, none⟩ = some (.int .i64 fk) := (cell_of_row w4 _ 0 _ _ (0, 0) j4).trans rfl
  have j41 : w4.cell? ⟨w2.heap.size, 1, none⟩ = some (.int .i64 fw) := (cell_of_row w4 _ 1 _ _ (0, 0) j4).trans rfl
  have j42 : w4.cell? ⟨w2.heap.size, 2, none⟩ = some (.int .i64 fl) := (cell_of_row w4 _ 2 _ _ (0, 0) j4).trans rfl
  have j43 : w4.cell? ⟨w2.heap.size, 3, none⟩ = some (.string fn) := (cell_of_row w4 _ 3 _ _ (0, 0) j4).trans rfl
  have cF := sameFault_any fk fw fl fn w4
  have H4 : Hid (HandAt W w4 x (.slice ah hand.length ch) hand) := H3.out.next hB4
  clear i4 j4
  go_wp2_with fail
  refine cF.mono ?_
  rintro e w5 ⟨rfl, hB5⟩
  clear cF
  go_wp2
  go_ret
  exact ⟨rfl, _, H4.out.next hB5⟩
end Go.Proofs.YtgnfknjopafngaaGreatDoor
/-
  THE LAW, WALKED: plays, over what a step keeps.
-/
namespace Go.Proofs.YtgnfknjopafngaaGreatDoor
open Go.RowKit Go.Maps

/-- A row of kinds. -/
def KsIn (w : World) (v : Value) (kl : List Int) : Prop := ∃ g, v = .slice (some ⟨g, 0, none⟩) kl.length kl.length ∧ ∀ j (hj : j < kl.length), w.cell? ⟨g, j, none⟩ = some (.int .i64 kl[j])
def allowed (kl : List Int) (k : Int) : Bool := decide (k = 1) || decide (k = 2) || kl.any (fun x => decide (k = x))
def opV (o : OpD) : Value := .agg #[.int .i64 o.kind, .int .i64 o.a, .int .i64 o.b, .string o.s]
theorem any_take_or {kl : List Int} {k : Int} {j : Nat} (hj : j < kl.length) : (kl.take (j + 1)).any (fun x => decide (k = x)) = ((kl.take j).any (fun x => decide (k = x)) || decide (k = kl[j])) := by
  rw [List.take_succ_eq_append_getElem hj, List.any_append]
  simp
theorem eql_nil (g n c : Nat) (w : World) : (binOp .eql 39 (.slice (some ⟨g, 0, none⟩) n c) (.slice none 0 0)).run Tryz.prog w = .ok (.bool false) w := by
  simp only [binOp]
  simp [run_equal_slice_nil w _ _ _ n c Tryz.underlying39]
def baseB (k : Int) : Bool := decide (k = 1) || decide (k = 2)

set_option maxRecDepth 100000 in
set_option maxHeartbeats 16000000 in
theorem plays_any (sectors : Int) (ov kv : Value) (ops : List OpD) (kl : List Int) (w : World) (NewPost : Nat → World → Prop) (Inv : Nat → Nat → World → Prop)
    (ho : OpsIn w ov ops) (hos : ∀ o ∈ ops, o.s.size ≤ 1000000000000000000) (hk : KsIn w kv kl) (hkl : 0 < kl.length) (hkm : kl.length ≤ 100)
    (hNew : ∀ w1, Below w.heap.size w w1 → Calls Tryz.prog 20 #[.int .i64 sectors] w1 fun e w' => ∃ x, e = .returned (.tuple #[.pointer (some ⟨x, 0, none⟩), okV]) ∧ NewPost x w')
    (hStart : ∀ x w1 W0, NewPost x w1 → Below w1.heap.size w1 W0 → ops.length + bytesOf ops ≤ 8192 → Inv W0.heap.size 0 (W0.alloc (.cells #[.pointer (some ⟨x, 0, none⟩), .int .i64 (sectorsN sectors), .slice none 0 0, .slice none 0 0, .bool false, .slice none 0 0] 79)))
    (hIn : ∀ wb k W, Inv wb k W → OpsIn W ov ops ∧ KsIn W kv kl ∧ Below w.heap.size w W)
    (hStep : ∀ wb k W (h : k < ops.length), ops.length + bytesOf ops ≤ 8192 → Inv wb k W → allowed kl ops[k].kind = true → Calls Tryz.prog 41 #[.pointer (some ⟨wb, 0, none⟩), opV ops[k]] W fun e W' => e = .returned (.bool true) ∧ Inv wb (k + 1) W')
    (hSkip : ∀ wb k W (h : k < ops.length), Inv wb k W → allowed kl ops[k].kind = false → Inv wb (k + 1) W)
    (hFin : (kl[kl.length - 1]'(by omega) = 10 ∧ ∀ wb W, Inv wb ops.length W → Calls Tryz.prog 42 #[.pointer (some ⟨wb, 0, none⟩), .int .i64 (-1), .int .i64 (-1)] W fun e W' => e = .returned (.bool true) ∧ Below w.heap.size w W') ∨
      (kl[kl.length - 1]'(by omega) ≠ 10 ∧ kl.length = 1) ∨
      (kl[kl.length - 1]'(by omega) ≠ 10 ∧ kl.length ≠ 1 ∧ ∀ wb W, Inv wb ops.length W → Calls Tryz.prog 43 #[.pointer (some ⟨wb, 0, none⟩)] W fun e W' => e = .returned (.bool true) ∧ Below w.heap.size w W')) :
    Calls Tryz.prog 17 #[.int .i64 sectors, ov, kv] w fun e W' => e = .returned (.bool true) ∧ Below w.heap.size w W' := by
  have cS := small_any ov ops w ho hos
  obtain ⟨ao, co, eo, hoc1, hoc2, _⟩ := ho
  subst eo
  obtain ⟨gk, ek, -⟩ := hk
  subst ek
  have hkm2 : (kl.length : Int) ≤ 100 := by omega
  have hol : ops.length ≤ 9223372036854775807 := by unfold maxLen at hoc2; omega
  by_cases hs : ops.length + bytesOf ops ≤ 8192
  · have HNew : Hid (∀ w1, Below w.heap.size w w1 → Calls Tryz.prog 20 #[.int .i64 sectors] w1 fun e w' => ∃ x, e = .returned (.tuple #[.pointer (some ⟨x, 0, none⟩), okV]) ∧ NewPost x w') := hNew
    rw [show decide (ops.length + bytesOf ops ≤ 8192) = true by simpa using hs] at cS
    have HS : Hid (ops.length + bytesOf ops ≤ 8192) := hs
    have hol8 : ops.length ≤ 8192 := by omega
    have cC := fun wx => sectors_any sectors wx
    have hsec := sectorsN_le sectors
    clear hs hNew
    go_enter Tryz.func17, Tryz.ntmps17
    go_wp2_with (first
      | (go_at_call 39; refine cS.mono ?_; rintro e w1 ⟨rfl, hB1⟩)
      | (go_at_call 20; refine (HNew.out _ hB1).mono ?_; rintro e w2 ⟨x, rfl, hN⟩; have HN : Hid (NewPost x w2) := hN; clear hN)
      | (go_at_call 40; refine (cC _).mono ?_; rintro e w3 ⟨rfl, rfl⟩))
    have hN0 := HN.out
    have HI0 := hStart x w2 (w2.alloc (.cells #[.int .i64 0, .int .i64 0, .int .i64 0, .string ⟨#[]⟩] 23)) hN0 ((Below.refl _ w2).alloc (Nat.le_refl _) _) HS.out
    rw [World.size_alloc] at HI0
    have HI : Hid (Inv (w2.heap.size + 1) 0 ((w2.alloc (.cells #[.int .i64 0, .int .i64 0, .int .i64 0, .string ⟨#[]⟩] 23)).alloc (.cells #[.pointer (some ⟨x, 0, none⟩), .int .i64 (sectorsN sectors), .slice none 0 0, .slice none 0 0, .bool false, .slice none 0 0] 79))) := HI0
    have HIn : Hid (∀ wb k W, Inv wb k W → OpsIn W (.slice ao ops.length co) ops ∧ KsIn W (.slice (some ⟨gk, 0, none⟩) kl.length kl.length) kl ∧ Below w.heap.size w W) := hIn
    have HSt : Hid (∀ wb k W (h : k < ops.length), ops.length + bytesOf ops ≤ 8192 → Inv wb k W → allowed kl ops[k].kind = true → Calls Tryz.prog 41 #[.pointer (some ⟨wb, 0, none⟩), opV ops[k]] W fun e W' => e = .returned (.bool true) ∧ Inv wb (k + 1) W') := hStep
    have HSk : Hid (∀ wb k W (h : k < ops.length), Inv wb k W → allowed kl ops[k].kind = false → Inv wb (k + 1) W) := hSkip
    clear hN0 HI0 hIn hStep hSkip hStart cS cC HN hos hB1 HNew
    go_loopw [12, 13, 14, 15, 16] (fun i _ _ _ _ wr => ∃ k : Nat, i = .int .i64 k ∧ k ≤ ops.length ∧ Hid (Inv (w2.heap.size + 1) k wr)) (fun i _ _ _ _ _ => ops.length - (intOf i).toNat)
    case atStart => exact ⟨0, rfl, Nat.zero_le _, HI⟩
    case round =>
      obtain ⟨k, rfl, hkn, HK⟩ := hrel
      obtain ⟨W0, hW0⟩ : ∃ W, W = wr := ⟨_, rfl⟩
      subst hW0
      obtain ⟨hOI, ⟨gk', ekv, hkc⟩, hBW⟩ := HIn.out _ _ _ HK.out
      have HBW : Hid (Below w.heap.size w W0) := hBW
      clear hBW
      injection ekv with e1
      injection e1 with e1
      injection e1 with e1
      subst e1
      have hnil := eql_nil
      have HKc : Hid (∀ j (hj : j < kl.length), W0.cell? ⟨gk, j, none⟩ = some (.int .i64 kl[j])) := hkc
      by_cases hlt : k < ops.length
      · obtain ⟨a2, c2, e2, _, _, hoc⟩ := hOI
        injection e2 with e2 _ e3
        subst e2 e3
        obtain ⟨go, off, rfl, hgo, hcell⟩ := hoc (by omega)
        obtain ⟨p0, p1, p2, p3⟩ := hcell k hlt
        have HSt2 := HSt.out (w2.heap.size + 1) k W0 hlt HS.out HK.out
        have HSk2 := HSk.out (w2.heap.size + 1) k W0 hlt HK.out
        unfold opV at HSt2
        generalize ops[k].kind = K at p0 HSt2 HSk2
        generalize ops[k].a = OA at p1 HSt2
        generalize ops[k].b = OB at p2 HSt2
        generalize ops[k].s = OS at p3 HSt2
        have HT : Hid (allowed kl K = true → Calls Tryz.prog 41 #[.pointer (some ⟨w2.heap.size + 1, 0, none⟩), .agg #[.int .i64 K, .int .i64 OA, .int .i64 OB, .string OS]] W0 fun e W' => e = .returned (.bool true) ∧ Inv (w2.heap.size + 1) (k + 1) W') := HSt2
        have HF : Hid (allowed kl K = false → Inv (w2.heap.size + 1) (k + 1) W0) := HSk2
        have hm1 : (k : Int) < (ops.length : Int) := by omega
        clear hcell hoc HSt2 HSk2 hkc hgo
        obtain ⟨b, hb, hbk⟩ : ∃ b : Bool, allowed kl K = (b || kl.any (fun x => decide (K = x))) ∧ ((b = true ∧ K = 1) ∨ (b = true ∧ K = 2 ∧ K ≠ 1) ∨ (b = false ∧ K ≠ 1 ∧ K ≠ 2)) := by
          by_cases h1 : K = 1
          · exact ⟨true, by unfold allowed; simp [h1], .inl ⟨rfl, h1⟩⟩
          · by_cases h2 : K = 2
            · exact ⟨true, by unfold allowed; simp [h2], .inr (.inl ⟨rfl, h2, h1⟩)⟩
            · exact ⟨false, by unfold allowed; simp [h1, h2], .inr (.inr ⟨rfl, h1, h2⟩)⟩
        have HB : Hid (allowed kl K = (b || kl.any (fun x => decide (K = x)))) := hb
        clear hb
        rcases hbk with ⟨rfl, rfl⟩ | ⟨rfl, rfl, hk1⟩ | ⟨rfl, hk1, hk2⟩
        · have HA : Hid (allowed kl 1 = true) := by show _ = _; rw [HB.out]; rfl
          have cT := HT.out HA.out
          clear HF HT HB HA
          go_wp2
          go_loopw [14, 15] (fun t j wr => ∃ i : Nat, j = .int .i64 i ∧ i ≤ kl.length ∧ t = .bool true ∧ W0 = wr) (fun _ j _ => kl.length - (intOf j).toNat)
          case atStart => exact ⟨0, rfl, Nat.zero_le _, rfl, rfl⟩
          case round =>
            obtain ⟨i, rfl, hi, rfl, rfl⟩ := hrel
            by_cases hil : i < kl.length
            · go_wp2
              go_roundw
              case rel => exact ⟨i + 1, by go_num, by omega, by first | rfl | trivial, by first | rfl | trivial⟩
              case measure => simp [intOf]; omega
            · go_wp2_with fail
              refine cT.mono ?_
              rintro e W1 ⟨rfl, hI1⟩
              have HI1 : Hid (Inv (w2.heap.size + 1) (k + 1) W1) := hI1
              clear hI1 cT
              go_wp2
              go_roundw
              case rel => exact ⟨k + 1, by go_num, by omega, HI1⟩
              case measure => simp [intOf]; omega
        · have HA : Hid (allowed kl 2 = true) := by show _ = _; rw [HB.out]; rfl
          have cT := HT.out HA.out
          clear HF HT HB HA
          go_wp2
          go_loopw [14, 15] (fun t j wr => ∃ i : Nat, j = .int .i64 i ∧ i ≤ kl.length ∧ t = .bool true ∧ W0 = wr) (fun _ j _ => kl.length - (intOf j).toNat)
          case atStart => exact ⟨0, rfl, Nat.zero_le _, rfl, rfl⟩
          case round =>
            obtain ⟨i, rfl, hi, rfl, rfl⟩ := hrel
            by_cases hil : i < kl.length
            · go_wp2
              go_roundw
              case rel => exact ⟨i + 1, by go_num, by omega, by first | rfl | trivial, by first | rfl | trivial⟩
              case measure => simp [intOf]; omega
            · go_wp2_with fail
              refine cT.mono ?_
              rintro e W1 ⟨rfl, hI1⟩
              have HI1 : Hid (Inv (w2.heap.size + 1) (k + 1) W1) := hI1
              clear hI1 cT
              go_wp2
              go_roundw
              case rel => exact ⟨k + 1, by go_num, by omega, HI1⟩
              case measure => simp [intOf]; omega
        · rw [Bool.false_or] at HB
          have hq1 : (K == 1) = false := by simpa using hk1
          have hq2 : (K == 2) = false := by simpa using hk2
          go_wp2
          go_loopw [14, 15] (fun t j wr => ∃ i : Nat, j = .int .i64 i ∧ i ≤ kl.length ∧ (∃ t0 : Bool, t = .bool t0 ∧ Hid (t0 = (kl.take i).any (fun x => decide (K = x)))) ∧ W0 = wr) (fun _ j _ => kl.length - (intOf j).toNat)
          case atStart => exact ⟨0, rfl, Nat.zero_le _, ⟨false, rfl, by show _ = _; simp⟩, rfl⟩
          case round =>
            obtain ⟨i, rfl, hi, ⟨t0, rfl, HT0⟩, rfl⟩ := hrel
            by_cases hil : i < kl.length
            · have pk := HKc.out i hil
              have HT1 : Hid ((kl.take (i + 1)).any (fun x => decide (K = x)) = (t0 || decide (K = kl[i]))) := by show _ = _; rw [any_take_or hil, HT0.out]
              generalize kl[i] = Y at pk HT1
              clear HT0
              cases t0 with
              | true =>
                go_wp2
                go_roundw
                case rel => exact ⟨i + 1, by go_num, by omega, ⟨true, rfl, by show _ = _; rw [HT1.out]; rfl⟩, by first | rfl | trivial⟩
                case measure => simp [intOf]; omega
              | false =>
                by_cases hKY : K = Y
                · have hd : decide (K = Y) = true := by simpa using hKY
                  have HT2 : Hid (true = (kl.take (i + 1)).any (fun x => decide (K = x))) := by show _ = _; rw [HT1.out, hd]; rfl
                  clear HT1 hd
                  go_wp2
                  go_roundw
                  case rel => exact ⟨i + 1, by go_num, by omega, ⟨true, rfl, HT2⟩, by first | rfl | trivial⟩
                  case measure => simp [intOf]; omega
                · have hd : decide (K = Y) = false := by simpa using hKY
                  have hq3 : (K == Y) = false := by simpa using hKY
                  have HT2 : Hid (false = (kl.take (i + 1)).any (fun x => decide (K = x))) := by show _ = _; rw [HT1.out, hd]; rfl
                  clear HT1
                  go_wp2
                  go_roundw
                  case rel => exact ⟨i + 1, by go_num, by omega, ⟨false, rfl, HT2⟩, by first | rfl | trivial⟩
                  case measure => simp [intOf]; omega
            · have hii : i = kl.length := by omega
              have HT2 : Hid (allowed kl K = t0) := by
                show _ = _
                rw [HB.out, HT0.out, hii, List.take_length]
              clear HT0 HB hii
              cases t0 with
              | true =>
                have cT := HT.out HT2.out
                clear HT HF HT2
                go_wp2_with fail
                refine cT.mono ?_
                rintro e W1 ⟨rfl, hI1⟩
                have HI1 : Hid (Inv (w2.heap.size + 1) (k + 1) W1) := hI1
                clear hI1 cT
                go_wp2
                go_roundw
                case rel => exact ⟨k + 1, by go_num, by omega, HI1⟩
                case measure => simp [intOf]; omega
              | false =>
                have HI1 : Hid (Inv (w2.heap.size + 1) (k + 1) W0) := HF.out HT2.out
                clear HT HF HT2
                go_wp2
                go_roundw
                case rel => exact ⟨k + 1, by go_num, by omega, HI1⟩
                case measure => simp [intOf]; omega
      · have hkk : k = ops.length := by omega
        subst hkk
        have pl := HKc.out (kl.length - 1) (by omega)
        obtain ⟨Y, hY, hF⟩ : ∃ Y, kl[kl.length - 1]'(by omega) = Y ∧ ((Y = 10 ∧ Calls Tryz.prog 42 #[.pointer (some ⟨w2.heap.size + 1, 0, none⟩), .int .i64 (-1), .int .i64 (-1)] W0 fun e W' => e = .returned (.bool true) ∧ Below w.heap.size w W') ∨ (Y ≠ 10 ∧ kl.length = 1) ∨ (Y ≠ 10 ∧ kl.length ≠ 1 ∧ Calls Tryz.prog 43 #[.pointer (some ⟨w2.heap.size + 1, 0, none⟩)] W0 fun e W' => e = .returned (.bool true) ∧ Below w.heap.size w W')) := by
          refine ⟨_, rfl, ?_⟩
          rcases hFin with ⟨h10, hc⟩ | ⟨h10, h1⟩ | ⟨h10, h1, hc⟩
          · exact .inl ⟨h10, hc _ _ HK.out⟩
          · exact .inr (.inl ⟨h10, h1⟩)
          · exact .inr (.inr ⟨h10, h1, hc _ _ HK.out⟩)
        rw [hY] at pl
        clear hFin HKc hkc hOI hY HIn HSt HSk HK HI
        generalize kl.length = L at *
        obtain ⟨m, rfl⟩ : ∃ m, L = m + 1 := ⟨L - 1, by omega⟩
        rw [Nat.add_sub_cancel] at pl
        rcases hF with ⟨rfl, cR⟩ | ⟨h10, h1⟩ | ⟨h10, h1, cR⟩
        · go_wp2_with fail
          refine cR.mono ?_
          rintro e W1 ⟨rfl, hB9⟩
          go_wp2
          go_ret
          exact ⟨rfl, hB9⟩
        · have h0 : m = 0 := by omega
          subst h0
          go_wp2
          go_ret
          exact ⟨rfl, HBW.out⟩
        · have h0 : m ≠ 0 := by omega
          go_wp2_with fail
          refine cR.mono ?_
          rintro e W1 ⟨rfl, hB9⟩
          go_wp2
          go_ret
          exact ⟨rfl, hB9⟩
  · rw [show decide (ops.length + bytesOf ops ≤ 8192) = false by simpa using hs] at cS
    go_enter Tryz.func17, Tryz.ntmps17
    go_wp2_with (go_at_call 39; refine cS.mono ?_; rintro e w1 ⟨rfl, hB1⟩)
    go_ret
    exact ⟨rfl, hB1⟩
end Go.Proofs.YtgnfknjopafngaaGreatDoor
