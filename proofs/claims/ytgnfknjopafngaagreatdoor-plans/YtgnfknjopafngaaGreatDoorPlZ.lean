import Derived.Test.YtgnfknjopafngaaGreatDoorPlY
import Derived.Test.YtgnfknjopafngaaGreatDoorPlW
import Derived.Deep.Strs
import Derived.SizedLaws
import Derived.Carry
/-
  Plans: THE LAW, WALKED WHOLE.
-/
namespace Go.Proofs.YtgnfknjopafngaaGreatDoor
open Go.RowKit Go.Maps

/-- What a script of plans keeps. -/
structure PInv (w : World) (ops : List OpD) (wb k : Nat) (W : World) : Prop where
  st : ∃ W0 x d s kk b hv hand, wb = W0.heap.size ∧ Below w.heap.size w W0 ∧ PBase W0 x d s kk b ∧ HandAt W0 W x hv hand ∧ hand.length ≤ k ∧ k ≤ ops.length ∧ ∀ t ∈ hand, t.size ≤ 8192
theorem op_small {ops : List OpD} (h : ops.length + bytesOf ops ≤ 8192) {k : Nat} (hk : k < ops.length) : ops[k].s.size ≤ 8192 := by
  have h1 := bytes_take hk
  have h2 := bytes_take_le ops (k + 1)
  omega

set_option maxRecDepth 100000 in
theorem plans_law (ov : Value) (ops : List OpD) (w : World) (ho : OpsIn w ov ops) (hos : ∀ o ∈ ops, o.s.size ≤ 1000000000000000000) (hR : Ready w) :
    Calls Tryz.prog 4 #[ov] w fun e W' => e = .returned (.bool true) ∧ Below w.heap.size w W' := by
  generalize hA : w.alloc (.cells #[.int .i64 5] 3) = A
  have hB : Below w.heap.size w A := by rw [← hA]; exact (Below.refl _ w).alloc (Nat.le_refl _) _
  have hk : KsIn A (.slice (some ⟨w.heap.size, 0, none⟩) 1 1) [5] := ⟨w.heap.size, rfl, fun j hj => by
    have e : j = 0 := by simp at hj; omega
    subst e
    rw [← hA]
    exact new_at w [.int .i64 5] _ 0 _ rfl⟩
  have cP := plays_any 16 ov (.slice (some ⟨w.heap.size, 0, none⟩) 1 1) ops [5] A (fun x w1 => ∃ d s kk b, PBase w1 x d s kk b ∧ Below A.heap.size A w1) (PInv A ops) (ho.below hB) hos hk (by simp) (by simp)
    (fun w1 hb => (new_any 16 w1 ((hR.below hB).below hb)).mono fun e w' h => by
      obtain ⟨x, d, s, kk, b, hv, sv, rfl, h1, h2, h3, h4, h5, h6⟩ := h
      refine ⟨x, rfl, d, s, kk, b, ⟨h1, h2, h4, ?_, ((hR.below hB).below hb).below h6⟩, bt hb h6⟩
      exact (cell_of_row w' _ 4 _ _ (0, 0) h5.blk).trans rfl)
    (fun x w1 W0 h hb _ => by
      obtain ⟨d, s, kk, b, h1, h2⟩ := h
      have e16 : sectorsN 16 = 16 := by decide
      rw [e16]
      refine ⟨W0, x, d, s, kk, b, _, [], rfl, bt h2 hb, h1.below hb, ⟨(Below.refl _ W0).alloc (Nat.le_refl _) _, heap_alloc_new W0 _, World.ownsRow_nil _ _ _ _⟩, Nat.le_refl _, Nat.zero_le _, fun t ht => by cases ht⟩)
    (fun wb k W h => by
      obtain ⟨W0, x, d, s, kk, b, hv, hand, rfl, h1, h2, h3, _⟩ := h.st
      have hbb := h1.trans (h3.below.mono h1.size)
      exact ⟨(ho.below hB).below hbb, by
        obtain ⟨g, e, hc⟩ := hk
        exact ⟨g, e, fun j hj => (hbb.cell (p := ⟨g, j, none⟩) (World.block_lt_of_cell? _ _ (hc j hj))).trans (hc j hj)⟩, hbb⟩)
    (fun wb k W hkl h8 h hal => by
      obtain ⟨W0, x, d, s, kk, b, hv, hand, rfl, h1, h2, h3, h4, h5, h6⟩ := h.st
      have hsz := op_small h8 hkl
      unfold opV
      have hK : ops[k].kind = 1 ∨ ops[k].kind = 2 ∨ ops[k].kind = 5 := by
        unfold allowed at hal
        simpa [or_assoc] using hal
      generalize ops[k].kind = K at hK
      generalize ops[k].s = S at hsz
      rcases hK with rfl | rfl | rfl
      · refine (step_text x d s kk b W0 W hv hand _ _ S h2 h3 (by omega)).mono fun e W' hq => ?_
        obtain ⟨rfl, hv', hh⟩ := hq
        refine ⟨rfl, W0, x, d, s, kk, b, hv', hand ++ [S], rfl, h1, h2, hh, by simp; omega, hkl, fun t ht => ?_⟩
        rcases List.mem_append.1 ht with ht | ht
        · exact h6 t ht
        · rw [List.mem_singleton.1 ht]; exact hsz
      · refine (step_clear x d s kk b W0 W hv hand _ _ S h2 h3).mono fun e W' hq => ?_
        obtain ⟨rfl, hv', hh⟩ := hq
        exact ⟨rfl, W0, x, d, s, kk, b, hv', [], rfl, h1, h2, hh, Nat.zero_le _, hkl, fun t ht => by cases ht⟩
      · refine (step_plan x d s kk b W0 W hv hand _ _ S h2 h3 (by omega) h6).mono fun e W' hq => ?_
        obtain ⟨rfl, hv', hh⟩ := hq
        exact ⟨rfl, W0, x, d, s, kk, b, hv', hand, rfl, h1, h2, hh, by omega, hkl, h6⟩)
    (fun wb k W hkl h _ => by
      obtain ⟨W0, x, d, s, kk, b, hv, hand, rfl, h1, h2, h3, h4, h5, h6⟩ := h.st
      exact ⟨W0, x, d, s, kk, b, hv, hand, rfl, h1, h2, h3, by omega, hkl, h6⟩)
    (.inr (.inl ⟨by decide, rfl⟩))
  obtain ⟨ao, co, eo, _⟩ := ho
  subst eo
  clear hos hR hk
  go_enter Tryz.func4, Tryz.ntmps4
  go_wp2_with fail
  refine cP.mono ?_
  rintro e W' ⟨rfl, hB'⟩
  go_wp2
  go_ret
  exact ⟨rfl, bt hB hB'⟩
end Go.Proofs.YtgnfknjopafngaaGreatDoor
/-
  ARGUMENTS OPENED: a script (a slice of steps); a slice of texts.
-/
namespace Go.Proofs.YtgnfknjopafngaaGreatDoor
open Go.ChangeShapes Go.WideShapes Go.Deep

theorem weights_all {H : Type} {P : Program} {e : TypeId} : ∀ {l : List (DataW H)} {i : Nat} {d : DataW H}, l[i]? = some d → ∀ n ∈ d.weights P e, n ∈ DataW.weightsAll P e l
  | d0 :: l, 0, d, h, n, hn => by
    simp only [List.getElem?_cons_zero, Option.some.injEq] at h
    subst h
    simp only [DataW.weightsAll, List.mem_append]
    exact .inl hn
  | d0 :: l, i + 1, d, h, n, hn => by
    simp only [List.getElem?_cons_succ] at h
    simp only [DataW.weightsAll, List.mem_append]
    exact .inr (weights_all h n hn)
  | [], i, d, h, _, _ => by simp at h
theorem spot_none {w : World} {a : Addr} {v : Value} (h : w.cell? a = some v) : a.spot = none := by
  unfold World.cell? at h
  split at h
  · split at h
    · cases h
    · rename_i h1; simpa using h1
  · cases h
theorem addr_add {b o : Nat} (i : Nat) : (⟨b, o, none⟩ : Addr).add i = ⟨b, o + i, none⟩ := by
  unfold Addr.add
  by_cases h : i = 0
  · simp [h]
  · simp [h]
set_option maxRecDepth 10000 in
/-- A script that came in. -/
theorem open_ops {H : Type} {enc : TypeId × Value → H} {W : World} {spare : Nat → Bool} {held : Bool} {base : Nat} {v : Value} {d : DataW H} {p : List MemPlace} (hv : ∃ a l c, v = .slice a l c)
    (h : DataW.Trod enc Tryz.prog W base spare held 37 v d p) (hz : ∀ n ∈ d.weights Tryz.prog 37, n ≤ reachBytes) : ∃ ops, OpsIn W v ops ∧ ∀ o ∈ ops, o.s.size ≤ reachBytes := by
  obtain ⟨va, vl, vc, rfl⟩ := hv
  obtain ⟨fuel, h⟩ := h
  have ce : Tryz.prog.cellsOf 81 = 4 := by kernel_rfl
  have ci : Tryz.prog.cellsOf 3 = 1 := by kernel_rfl
  have cs : Tryz.prog.cellsOf 9 = 1 := by kernel_rfl
  rcases open_slice Tryz.underlying37 h with ⟨h0, _⟩ | ⟨a, len, cap, m, n, D, Pl, h0, hb, hl, hm, hmm, hx, hel⟩
  · have e : Value.slice va vl vc = .slice none 0 0 := by simpa [Value.cells] using h0
    rw [e]
    exact ⟨[], ⟨none, 0, rfl, Nat.le_refl _, Nat.zero_le _, fun h => by simp at h⟩, fun o ho => by cases ho⟩
  · have e : Value.slice va vl vc = .slice (some a) len cap := by simpa [Value.cells] using h0
    rw [e]
    have hlm : len ≤ m := by rw [hmm]; split <;> omega
    have each : ∀ i, i < len → ∃ o : OpD, W.cell? (a.add (i * 4)) = some (.int .i64 o.kind) ∧ W.cell? (a.add (i * 4 + 1)) = some (.int .i64 o.a) ∧ W.cell? (a.add (i * 4 + 2)) = some (.int .i64 o.b) ∧ W.cell? (a.add (i * 4 + 3)) = some (.string o.s) ∧ o.s.size ≤ reachBytes := by
      intro i hi
      obtain ⟨cs', h1, h2⟩ := hel i (by omega)
      rw [ce] at h1
      obtain ⟨_, hlen, hcell⟩ := World.cells?_some h1
      obtain ⟨xs, k, hk, hxy, _, hxl, hf⟩ := DataW.trod_struct Tryz.underlying81 h2
      match xs, hxl, cs', hlen with
      | [y0, y1, y2, y3], _, [v0, v1, v2, v3], _ =>
        have g0 := hf 0 _ rfl
        have g1 := hf 1 _ rfl
        have g2 := hf 2 _ rfl
        have g3 := hf 3 _ rfl
        simp [ci, cs] at g0 g1 g2 g3
        obtain ⟨n0, e0, _, _⟩ := DataW.trod_int Tryz.underlying3 g0
        obtain ⟨n1, e1, _, _⟩ := DataW.trod_int Tryz.underlying3 g1
        obtain ⟨n2, e2, _, _⟩ := DataW.trod_int Tryz.underlying3 g2
        obtain ⟨s3, e3, e4, _⟩ := DataW.trod_string Tryz.underlying9 g3
        have k0 := hcell 0 (by omega)
        have k1 := hcell 1 (by omega)
        have k2 := hcell 2 (by omega)
        have k3 := hcell 3 (by omega)
        rw [add_add] at k0 k1 k2 k3
        simp at e0 e1 e2 e3
        subst e0 e1 e2 e3
        refine ⟨⟨n0, n1, n2, s3⟩, by simpa using k0, by simpa using k1, by simpa using k2, by simpa using k3, ?_⟩
        simp only [Prod.mk.injEq] at hx hxy
        have hD : D i = .agg [y0.1, y1.1, y2.1, y3.1] := by simpa using hxy.1
        have hw : s3.data.toList.length ∈ (D i).weights Tryz.prog 81 := by
          rw [hD, e4]
          unfold DataW.weights
          rw [Tryz.underlying81]
          simp [DataW.weightsEach, DataW.weights]
        have := hz s3.data.toList.length (by
          rw [hx.1]
          unfold DataW.weights
          rw [Tryz.underlying37]
          simp only [List.mem_cons, List.mem_append]
          refine .inr (.inl (weights_all (i := i) (d := D i) ?_ _ hw))
          rw [List.getElem?_map, List.getElem?_range hi]
          rfl)
        simpa using this
    haveI : Inhabited OpD := ⟨⟨0, 0, 0, ⟨#[]⟩⟩⟩
    obtain ⟨q, hq⟩ := choose_lt each
    refine ⟨(List.range len).map q, ⟨some a, cap, by simp, by simpa using hl, hm, fun h0 => ?_⟩, fun o ho => ?_⟩
    · have hl0 : 0 < len := by simpa using h0
      have hs := spot_none (by have := (hq 0 hl0).1; simpa [Addr.add] using this)
      obtain ⟨g, off, sp⟩ := a
      simp only at hs
      subst hs
      refine ⟨g, off, rfl, by have := World.block_lt_of_cell? _ _ (hq 0 hl0).1; simpa [Addr.add] using this, fun i hi => ?_⟩
      have hi' : i < len := by simpa using hi
      obtain ⟨k0, k1, k2, k3, _⟩ := hq i hi'
      rw [addr_add] at k0 k1 k2 k3
      simp only [List.getElem_map, List.getElem_range]
      exact ⟨k0, by rw [Nat.add_assoc]; exact k1, by rw [Nat.add_assoc]; exact k2, by rw [Nat.add_assoc]; exact k3⟩
    · obtain ⟨i, hi, rfl⟩ := List.mem_map.1 ho
      exact (hq i (List.mem_range.1 hi)).2.2.2.2
end Go.Proofs.YtgnfknjopafngaaGreatDoor
