import Derived.Test.YtgnfknjopafngaaGreatDoorKsak
import Derived.Test.YtgnfknjopafngaaGreatDoorKss
import Derived.Deep.RegionWith
import Derived.Deep.DeepCutAuto
namespace Go.Proofs.YtgnfknjopafngaaGreatDoor
open Go.RowKit Go.Maps
theorem clone_any (base : Nat) (v : Value) (xs : List (List UInt8)) (w : World) (h : w.ownsRow base 9 1 v xs.length (nmCells xs)) (hl : xs.length ≤ 1000000000) :
    Calls Tryz.prog 192 #[v] w fun e w' => ∃ v', e = .returned v' ∧ w'.ownsRow w.heap.size 9 1 v' xs.length (nmCells xs) ∧ Below w.heap.size w w' := by
  obtain ⟨h1, ⟨rfl, h0⟩ | ⟨g, cap, cur, rfl, hb, hg, hnc, hcm, hcs, ht⟩⟩ := h
  · refine (Tryz.slices_Clone_string_nil 0 0 w).mono ?_
    rintro e w' ⟨rfl, rfl⟩
    refine ⟨_, rfl, ?_, Below.refl _ _⟩
    rw [List.length_eq_zero_iff.1 h0]
    exact World.ownsRow_nil _ _ _ _
  · have hz : (xs.map fun x => (⟨x.toArray⟩ : ByteArray)).length = xs.length := List.length_map _
    refine (Tryz.slices_Clone_string g 0 xs.length cap (xs.map fun x => (⟨x.toArray⟩ : ByteArray)) w (by omega) (by omega) (fun j hj => ?_)).mono ?_
    · rw [hz] at hj
      rw [cell_of_row w g (0 + j) cur _ (0, 0) hg, Nat.zero_add]
      have h2 : (nmCells xs)[j]? = some (.string ⟨xs[j].toArray⟩) := strs_cells hj
      rw [← ht, List.getElem?_take, if_pos (by omega)] at h2
      rw [List.getD_eq_getElem?_getD, List.getElem?_map, List.getElem?_eq_getElem hj]
      simpa using h2
    · rintro e w' ⟨v', rfl, r1, _, r2⟩
      refine ⟨v', rfl, ?_, r2⟩
      rw [List.take_of_length_le (by omega), List.map_map] at r1
      exact r1
end Go.Proofs.YtgnfknjopafngaaGreatDoor
namespace Go.Proofs.YtgnfknjopafngaaGreatDoor
open M
theorem Kahn.all {there fresh left : List Pk} {done names : List (List UInt8)} {c : List UInt8 → Nat} (h : Kahn there fresh left done [] c) (hm : ∀ x, x ∈ names ↔ ∃ p ∈ fresh, p.name = x) (h0 : ∀ x ∈ names, c x = 0) :
    orderS there fresh.length fresh [] = (done, []) := by
  obtain ⟨h1, h2⟩ := h.stop
  have e : left = [] := List.eq_nil_iff_forall_not_mem.2 (fun p hp => by
    have k1 := (h2 p (h.sub p hp)).2 hp
    have k2 := h0 p.name ((hm _).2 ⟨p, h.sub p hp, rfl⟩)
    omega)
  rw [h1, e]
theorem Kahn.stuck {there fresh left : List Pk} {done names : List (List UInt8)} {c : List UInt8 → Nat} (h : Kahn there fresh left done [] c) (hm : ∀ x, x ∈ names ↔ ∃ p ∈ fresh, p.name = x) (hr : Rising names) (j : Nat) (hj : j < names.length)
    (hc : 0 < c names[j]) (hb : ∀ k (hk : k < j), c names[k] = 0) : firstOf (orderS there fresh.length fresh []).2 = names[j] ∧ names[j] ≠ [] := by
  obtain ⟨h1, h2⟩ := h.stop
  have hmin := firstOf_min (l := left) (fun p hp => h.named p (h.sub p hp))
  obtain ⟨p, hp, hpn⟩ := (hm names[j]).1 (List.getElem_mem hj)
  have hpl : p ∈ left := (h2 p hp).1 (by rw [hpn]; exact hc)
  refine ⟨?_, by rw [← hpn]; exact h.named p hp⟩
  rw [h1]
  refine hmin.unique ⟨hmin.1, .inr ⟨⟨p, hpl, hpn.symm⟩, ?_⟩⟩
  rintro x ⟨q, hq, rfl⟩
  have hqc := (h2 q (h.sub q hq)).2 hq
  obtain ⟨k, hk, e⟩ := List.getElem_of_mem ((hm q.name).2 ⟨q, h.sub q hq, rfl⟩)
  rw [← e] at hqc ⊢
  rcases Nat.lt_trichotomy k j with hlt | rfl | hlt
  · have := hb k hlt
    omega
  · exact less_irrefl _
  · exact less_asymm (List.pairwise_iff_getElem.1 hr j k hj hk hlt)
def orderR (there fresh : List Pk) : Sum Fa (List (List UInt8)) :=
  if firstOf (orderS there fresh.length fresh []).2 ≠ [] then .inl ⟨7, 0, 0, firstOf (orderS there fresh.length fresh []).2⟩ else .inr (orderS there fresh.length fresh []).1
theorem orderR_all {there fresh : List Pk} {done : List (List UInt8)} (h : orderS there fresh.length fresh [] = (done, [])) : orderR there fresh = .inr done := by
  unfold orderR
  rw [h]
  rfl
theorem orderR_stuck {there fresh : List Pk} {n : List UInt8} (h : firstOf (orderS there fresh.length fresh []).2 = n) (hn : n ≠ []) : orderR there fresh = .inl ⟨7, 0, 0, n⟩ := by
  unfold orderR
  rw [h, if_pos hn]
theorem sorted_mem {fresh : List Pk} (x : List UInt8) : x ∈ sortN (fresh.map Pk.name) ↔ ∃ p ∈ fresh, p.name = x := by
  rw [(sortN_perm _).mem_iff, List.mem_map]
end Go.Proofs.YtgnfknjopafngaaGreatDoor
namespace Go.Proofs.YtgnfknjopafngaaGreatDoor
open Go.RowKit Go.Maps M
theorem grown_thenO {A B C : World} {row row' : Option Nat} (h : A.grownBy B row) (k : B.grownBy C row') (hr : ∀ j, row' = some j → row = some j ∨ A.heap.size ≤ j) : A.grownBy C row :=
  ⟨k.os.trans h.os, k.tape.trans h.tape, k.output.trans h.output, Nat.le_trans h.size k.size, fun j hj hne => (k.block j (Nat.lt_of_lt_of_le hj h.size) (fun e => by
    rcases hr j e.symm with e1 | e1
    · exact hne e1.symm
    · omega)).trans (h.block j hj hne)⟩
theorem grown_refl (w : World) (row : Option Nat) : w.grownBy w row := ⟨rfl, rfl, rfl, Nat.le_refl _, fun _ _ _ => rfl⟩
theorem MidRow.kept {w w' : World} {base : Nat} {v : Value} {xs : List (List UInt8)} {row : Option Nat} (h : MidRow w base v xs) (hg : w.grownBy w' row) (hne : ∀ g, v.ownBlock = some g → row ≠ some g) : MidRow w' base v xs := by
  obtain ⟨a, cap, rfl, h1, h2, h3⟩ := h
  refine ⟨a, cap, rfl, h1, h2, h3.imp id ?_⟩
  rintro ⟨g, off, cur, rfl, hb, hc, hs, hx⟩
  have hlt := (Array.getElem?_eq_some_iff.1 hc).1
  have e := hg.block g hlt (fun e => hne g rfl e.symm)
  exact ⟨g, off, cur, rfl, hb, e.trans hc, hs, fun j u hu => (World.cell?_of_block (a := ⟨g, off + j, none⟩) e).trans (hx j u hu)⟩
theorem MidRow.lt {w : World} {base : Nat} {v : Value} {xs : List (List UInt8)} (h : MidRow w base v xs) : ∀ g, v.ownBlock = some g → base ≤ g ∧ g < w.heap.size := by
  obtain ⟨a, cap, rfl, h1, h2, ⟨rfl, _⟩ | ⟨g, off, cur, rfl, hb, hc, hs, hx⟩⟩ := h
  · intro g h
    cases h
  · intro g' h
    cases h
    exact ⟨hb, (Array.getElem?_eq_some_iff.1 hc).1⟩
theorem MidRow.head {w : World} {base : Nat} {v : Value} {n : List UInt8} {r : List (List UInt8)} (h : MidRow w base v (n :: r)) :
    ∃ g off cap, v = .slice (some ⟨g, off, none⟩) (r.length + 1) cap ∧ r.length + 1 ≤ cap ∧ cap ≤ maxLen ∧ w.cell? ⟨g, off, none⟩ = some (.string ⟨n.toArray⟩) := by
  obtain ⟨a, cap, rfl, h1, h2, ⟨_, h0, _⟩ | ⟨g, off, cur, rfl, hb, hc, hs, hx⟩⟩ := h
  · cases h0
  · exact ⟨g, off, cap, rfl, h1, h2, hx 0 _ rfl⟩
theorem MidRow.tail {w : World} {base g off cap : Nat} {a' : Option Addr} {n : List UInt8} {r : List (List UInt8)} (h : MidRow w base (.slice (some ⟨g, off, none⟩) (r.length + 1) cap) (n :: r)) (ha : a' = some ⟨g, off + 1, none⟩ ∨ (a' = some ⟨g, off, none⟩ ∧ cap = 1)) :
    MidRow w base (.slice a' r.length (cap - 1)) r ∧ (Value.slice a' r.length (cap - 1)).ownBlock = some g := by
  obtain ⟨a, c, e, h1, h2, h3⟩ := h
  injection e with e1 e2 e3
  subst e1 e3
  obtain ⟨h0, _⟩ | ⟨g', off', cur, e, hb, hc, hs, hx⟩ := h3
  · cases h0
  · injection e with e
    injection e with e1 e2
    subst e1 e2
    simp only [List.length_cons] at h1
    obtain rfl | ⟨rfl, rfl⟩ := ha
    · refine ⟨⟨_, cap - 1, rfl, by omega, by omega, .inr ⟨g, off + 1, cur, rfl, hb, hc, by omega, fun j u hu => ?_⟩⟩, rfl⟩
      have h9 := hx (j + 1) u hu
      rw [show off + (j + 1) = off + 1 + j by omega] at h9
      exact h9
    · have h0 : r = [] := List.length_eq_zero_iff.1 (by omega)
      subst h0
      refine ⟨⟨_, 0, rfl, Nat.le_refl _, by omega, .inr ⟨g, off, cur, rfl, hb, hc, by omega, fun j u hu => ?_⟩⟩, rfl⟩
      simp [nmCells] at hu
theorem insAll_take {ys r : List (List UInt8)} {j : Nat} (hj : j < ys.length) : insAll (ys.take (j + 1)) r = insS ys[j] (insAll (ys.take j) r) := by
  unfold insAll
  rw [List.take_succ_eq_append_getElem hj, List.foldl_append]
  rfl
theorem insAll_length : ∀ (ys r : List (List UInt8)), (insAll ys r).length = ys.length + r.length
  | [], r => by simp [insAll]
  | y :: ys, r => by
    have := insAll_length ys (insS y r)
    unfold insAll at this ⊢
    rw [List.foldl_cons, this, ins_length, List.length_cons]
    omega
theorem Kahn.ready_len {there fresh left : List Pk} {done ready : List (List UInt8)} {c : List UInt8 → Nat} (h : Kahn there fresh left done ready c) : ready.length ≤ left.length := by
  have := nodup_le (k := left.map Pk.name) h.rising.nodup (fun x hx => by
    obtain ⟨p, hp, _, rfl⟩ := (h.free x).1 hx
    exact List.mem_map.2 ⟨p, hp, rfl⟩)
  rwa [List.length_map] at this
theorem Kahn.cnt_le {there fresh left : List Pk} {done ready : List (List UInt8)} {c : List UInt8 → Nat} (h : Kahn there fresh left done ready c) {p : Pk} (hp : p ∈ fresh) : c p.name ≤ left.length := by
  by_cases hl : p ∈ left
  · rw [h.cnt p hl]
    exact List.length_filter_le _ _
  · rw [(h.gone p hp hl).1]
    omega
theorem Kahn.less {there fresh left : List Pk} {done r : List (List UInt8)} {n : List UInt8} {c : List UInt8 → Nat} (h : Kahn there fresh left done (n :: r) c) : (left.filter fun p => p.name != n).length < left.length := by
  obtain ⟨q, hq, _, hqn⟩ := (h.free n).1 (by simp)
  rw [List.length_filter_lt_length_iff_exists]
  exact ⟨q, hq, by simp [hqn]⟩
theorem Kahn.mid {there fresh left : List Pk} {done r : List (List UInt8)} {n : List UInt8} {c : List UInt8 → Nat} {B : List (List UInt8)} (h : Kahn there fresh left done (n :: r) c) (hnd : B.Nodup) (j : Nat) :
    Rising (insAll ((freedS c B).take j) r) := by
  have hr' := List.pairwise_cons.1 h.rising
  refine insAll_rising _ _ hr'.2 (List.Nodup.sublist (List.take_sublist j _) (hnd.filter _)) (fun y hy hyr => ?_)
  have hy := List.mem_of_mem_take hy
  unfold freedS at hy
  rw [List.mem_filter] at hy
  obtain ⟨p, hp, hpf, rfl⟩ := (h.free y).1 (by simp [hyr])
  have h1 := h.cnt p hp
  rw [waitN_zero.2 hpf] at h1
  have h2 := hy.2
  rw [h1] at h2
  simp at h2
theorem strs_elem : Tryz.prog.underlying 43 = some (.slice (Tryz.prog.elem 43)) := by kernel_rfl
theorem strs_size (w : World) : (sizeOf (Tryz.prog.elem 43)).run Tryz.prog w = .ok 1 w := by
  have h : (Tryz.prog.info? (Tryz.prog.elem 43)).map (fun i => i.size) = some 1 := by kernel_rfl
  obtain ⟨i, hi, e⟩ := Option.map_eq_some_iff.1 h
  simp [sizeOf, typeInfo, hi, e]
theorem str_behind (g off n c : Nat) : ∃ a', (a' = some ⟨g, off + 1, none⟩ ∨ (a' = some ⟨g, off, none⟩ ∧ c = 1)) ∧ ∀ w, (Instr.slice 43 (.slice (some ⟨g, off, none⟩) (n + 1) c) (some (.int .i64 1)) none none).run Tryz.prog w = .ok (.slice a' n (c - 1)) w := by
  by_cases h : c = 1
  · refine ⟨some ⟨g, off, none⟩, .inr ⟨rfl, h⟩, fun w => ?_⟩
    rw [run_slice_l w _ _ _ _ strs_elem _ _ (by omega) (by omega), strs_size]
    simp [Result.andThen, sliced, h]
  · refine ⟨some ⟨g, off + 1, none⟩, .inl rfl, fun w => ?_⟩
    rw [run_slice_l w _ _ _ _ strs_elem _ _ (by omega) (by omega), strs_size]
    simp [Result.andThen, sliced, h, Addr.add_lit]
def lenV : Value → Nat
  | .slice _ n _ => n
  | _ => 0
end Go.Proofs.YtgnfknjopafngaaGreatDoor
namespace Go.Proofs.YtgnfknjopafngaaGreatDoor
open Go.RowKit Go.Maps
def OrderPost (R : Sum M.Fa (List (List UInt8))) (w : World) (e : Ending) (w' : World) : Prop :=
  Below w.heap.size w w' ∧ match R with
    | .inl f => ∃ ev, e = .returned (.tuple #[.slice none 0 0, ev]) ∧ ErrIs f w' ev
    | .inr l => ∃ v, e = .returned (.tuple #[v, .nilIface]) ∧ w'.ownsRow w.heap.size 9 1 v l.length (nmCells l)
theorem grown_ofB {w w' : World} (h : Below w.heap.size w w') (row : Option Nat) : w.grownBy w' row := ⟨h.os, h.tape, h.output, h.size, fun k hk _ => h.block k hk⟩
structure OrderAt (there fresh : List M.Pk) (E : List (List UInt8 × List UInt8)) (W2 : World) (wb : Nat) (rv dv : Value) (wr : World) (left : List M.Pk) (done ready : List (List UInt8)) (c : List UInt8 → Nat) : Prop where
  kahn : Kahn there fresh left done ready c
  len : done.length + left.length ≤ fresh.length
  row : MidRow wr W2.heap.size rv ready
  own : wr.ownsRow W2.heap.size 9 1 dv done.length (nmCells done)
  apart : ∀ g, rv.ownBlock = some g → dv.ownBlock ≠ some g
  cnt : CntAt wr wb c E.length
  grown : W2.grownBy wr (some wb)
set_option maxRecDepth 100000 in
set_option maxHeartbeats 16000000 in
theorem qorder_any (bi ba : Nat) (there fresh : List M.Pk) (w : World) (hi : SetIn w bi there) (hf : SetIn w ba fresh) (hn : fresh.length ≤ 10000) (hst : ∀ q ∈ there, ReadP q) (hsf : ∀ q ∈ fresh, ReadP q) :
    Calls Tryz.prog 155 #[.map (some bi), .map (some ba)] w (OrderPost (orderR there fresh) w) := by
  obtain ⟨i0, hi0, hz0, hz1, hz2⟩ := info_parts infoStr
  have cL := qline_any bi ba there fresh w hi hf hn hst hsf
  have HF : Hid (SetIn w ba fresh) := hf
  have HA : Hid (M.Apart fresh) := hf.apart
  have HSF : Hid (∀ q ∈ fresh, ReadP q) := hsf
  have cN := fun wx (hb : Below w.heap.size w wx) => names_any ba fresh wx (HF.out.below hb) (by omega)
  clear hi hf hst hsf
  go_enter Tryz.func155, Tryz.ntmps155
  go_upto_region 3 with (first
    | (go_at_call 190; refine cL.mono ?_; rintro e w1 ⟨wb, bb, E, rfl, hQ, hne, hwb, hbb, hB1⟩; generalize hA1 : w1.alloc (.cells #[.map (some wb), .map (some bb)] 283) = A1; have gA : w1.grownBy A1 none := by rw [← hA1]; exact World.grownBy_alloc w1 _ none)
    | (go_at_call 120; refine (cN A1 (bt hB1 (grown_none gA))).mono ?_; rintro e w2 ⟨nv, rfl, hnv, hB2⟩)
    | go_in)
  have hAs : A1.heap.size = w1.heap.size + 1 := by rw [← hA1]; simp
  have q0 : w2.cell? ⟨w1.heap.size, 0, none⟩ = some (.map (some wb)) := (hB2.cell (p := ⟨w1.heap.size, 0, none⟩) (by show w1.heap.size < _; omega)).trans (by rw [← hA1]; exact new_at w1 [.map (some wb), .map (some bb)] _ 0 _ rfl)
  have q1 : w2.cell? ⟨w1.heap.size, 1, none⟩ = some (.map (some bb)) := (hB2.cell (p := ⟨w1.heap.size, 1, none⟩) (by show w1.heap.size < _; omega)).trans (by rw [← hA1]; exact new_at w1 [.map (some wb), .map (some bb)] _ 1 _ rfl)
  obtain ⟨names, hnm⟩ : ∃ names, names = M.sortN (fresh.map M.Pk.name) := ⟨_, rfl⟩
  have hnl : names.length = fresh.length := by rw [hnm, (M.sortN_perm _).length_eq, List.length_map]
  rw [← hnm, ← hnl] at hnv
  have HRis : Hid (M.Rising names) := by show M.Rising _; rw [hnm]; exact M.sortN_rising HA.out
  have HMem : Hid (∀ x, x ∈ names ↔ ∃ p ∈ fresh, p.name = x) := by rw [hnm]; exact fun x => sorted_mem x
  have hwl : wb < w1.heap.size := hQ.1.lt
  have hC2 : CntIn w2 wb (cntE E) E.length := (hQ.1.kept gA (by simp)).below hB2 (hQ.1.kept gA (by simp)).lt
  have HQ1 : Hid (CntAt w2 wb (cntE E) E.length) := hC2.at
  have HQ2 : Hid (RowsIn w2 w.heap.size bb (rowE E) E.length) := (hQ.2.1.alloc gA).below hB2
  have HQ3 : Hid (E.Nodup ∧ E.length ≤ 1000000000 ∧ ∀ e, e ∈ E ↔ WaitE there fresh e) := hQ.2.2
  have HX : Hid (∀ x ∈ names, x.length ≤ 100000) := fun x hx => by
    obtain ⟨p, hp, rfl⟩ := (HMem.out x).1 hx
    exact Nat.le_trans (HSF.out p hp).short.name (by omega)
  have cC := fun wx (hb : Below w2.heap.size w2 wx) => clone_any A1.heap.size nv names wx (own_below hnv hb) (by omega)
  have cD := fun wx v (hb : Below w2.heap.size w2 wx) (hv : wx.ownsRow w2.heap.size 9 1 v names.length (nmCells names)) => deleteW_any wb bb E.length w2.heap.size (cntE E) v names wx (HQ1.out.below hb HQ1.out.lt) hv HX.out (by omega)
  have hs2 := hB2.size
  have HBw : Hid (Below w.heap.size w w2) := bt (bt hB1 (grown_none gA)) hB2
  have HNv : Hid (w2.ownsRow A1.heap.size 9 1 nv names.length (nmCells names)) := hnv
  have HWb : Hid (w.heap.size ≤ wb ∧ wb < w1.heap.size ∧ wb ≠ bb ∧ A1.heap.size = w1.heap.size + 1 ∧ A1.heap.size ≤ w2.heap.size) := ⟨hwb, hwl, hne, hAs, hs2⟩
  clear hA1 hnm cL cN hQ hC2 hnv hwb hwl hne gA hbb hB1
  go_cut [8] (fun s8 wx => wx.ownsRow w2.heap.size 9 1 s8 (freeS (cntE E) names).length (nmCells (freeS (cntE E) names)) ∧ Below w2.heap.size w2 wx)
  case first =>
    go_region_with (first
      | (go_at_call 192; refine (cC _ (below_same w2 1)).mono ?_; rintro e w3 ⟨cv, rfl, hcv, hB3⟩; have hB4 : Below w2.heap.size w2 w3 := bt (below_same w2 1) hB3; have y0 := (hB4.cell (p := ⟨w1.heap.size, 0, none⟩) (by show w1.heap.size < _; omega)).trans q0; have y1 := (hB4.cell (p := ⟨w1.heap.size, 1, none⟩) (by show w1.heap.size < _; omega)).trans q1)
      | (go_at_call 191; refine (cD _ _ hB4 hcv).mono ?_; rintro e w5 ⟨dv, rfl, hdv, hg5⟩; have hB5 : Below w2.heap.size w2 w5 := hB4.grown hg5 hB4.size (fun j hj => (hcv.lt j hj).1)))
    all_goals
      go_wp2_with fail
      go_meet
      exact ⟨hdv, hB5⟩
  case rest =>
  obtain ⟨hr8, hB8⟩ := hcut
  have HK0 : Hid (Kahn there fresh fresh [] (freeS (cntE E) names) (cntE E)) := by
    have hc : ∀ p ∈ fresh, cntE E p.name = M.waitN fresh there p := fun p hp => cnt_is HQ3.out.1 HQ3.out.2.2 HA.out hp
    obtain ⟨r1, r2⟩ := ready_start HRis.out HMem.out hc
    exact Kahn.start HA.out (fun p hp => (HSF.out p hp).name) hc r1 r2
  obtain ⟨a8, c8, e8⟩ := own_form hr8
  subst e8
  obtain ⟨an, cn, en⟩ := own_form HNv.out
  subst en
  have HR8 : Hid (wc.ownsRow w2.heap.size 9 1 (.slice a8 (freeS (cntE E) names).length c8) (freeS (cntE E) names).length (nmCells (freeS (cntE E) names))) := hr8
  have HB8 : Hid (Below w2.heap.size w2 wc) := hB8
  have HB2 : Hid (Below A1.heap.size A1 w2) := hB2
  have HN : Hid (fresh.length ≤ 10000) := hn
  have HQ : Hid (w2.cell? ⟨w1.heap.size, 0, none⟩ = some (.map (some wb)) ∧ w2.cell? ⟨w1.heap.size, 1, none⟩ = some (.map (some bb))) := ⟨q0, q1⟩
  have HZ : Hid (Tryz.prog.info? 9 = some i0 ∧ i0.zero = some (.string ⟨#[]⟩) ∧ i0.size = 1 ∧ i0.bytes = 16) := ⟨hi0, hz0, hz1, hz2⟩
  have HNl : Hid (names.length = fresh.length) := hnl
  clear hr8 hB8 cC cD hB2 hAs hs2 hnl hn q0 q1 hi0 hz0 hz1 hz2
  go_wp2
  go_loopw [8, 9, 10, 12, 13, 14] (fun rv dv _ _ _ _ wr => ∃ (left : List M.Pk) (done ready : List (List UInt8)) (c : List UInt8 → Nat), OrderAt there fresh E w2 wb rv dv wr left done ready c) (fun _ dv _ _ _ _ _ => fresh.length - lenV dv)
  case atStart =>
    have hB9 : Below wc.heap.size wc (wc.alloc (.cells #[] 9)) := (Below.refl _ wc).alloc (Nat.le_refl _) _
    have hlt : ∀ g, (Value.slice a8 (freeS (cntE E) names).length c8).ownBlock = some g → w2.heap.size ≤ g ∧ g < wc.heap.size := fun g hg => HR8.out.lt g hg
    refine ⟨fresh, [], freeS (cntE E) names, cntE E, HK0.out, by simp, MidRow.own (own_below HR8.out hB9), ?_, ?_, ?_, ?_⟩
    · exact ⟨rfl, .inr ⟨wc.heap.size, 0, #[], rfl, HB8.out.size, heap_alloc_new wc _, Nat.le_refl _, by unfold maxLen; omega, rfl, rfl⟩⟩
    · intro g hg h
      have := hlt g hg
      have e : wc.heap.size = g := Option.some.inj h
      omega
    · have hw := HWb.out
      exact (HQ1.out.below HB8.out HQ1.out.lt).below hB9 (by have := HB8.out.size; omega)
    · have h9 := bt HB8.out hB9
      exact ⟨h9.os, h9.tape, h9.output, h9.size, fun k hk _ => h9.block k hk⟩
  case round =>
    obtain ⟨left, done, ready, c, H⟩ := hrel
    obtain ⟨W0, hW0⟩ : ∃ W, W = wr := ⟨_, rfl⟩
    subst hW0
    obtain ⟨ad, cd, ed⟩ := own_form H.own
    subst ed
    have hw := HWb.out
    have hq := HQ.out
    have hkb := fun k o (h1 : k < w2.heap.size) (h2 : k ≠ wb) => World.cell?_of_block (a := ⟨k, o, none⟩) (H.grown.block k h1 (fun e => h2 (Option.some.inj e)))
    cases ready with
    | nil =>
      have H' := H.row
      obtain ⟨a0, cp0, e0, _⟩ := H'
      subst e0
      have hnv := HNv.out.kept H.grown (.inr (fun e => by have := HNv.out.lt _ e; omega))
      have hrow := RowIn.wide (RowIn.own hnv) (Nat.zero_le _) (Nat.le_refl _)
      have z0 := (hkb w1.heap.size 0 (by omega) (by omega)).trans hq.1
      have z1 := (hkb w1.heap.size 1 (by omega) (by omega)).trans hq.2
      have hnl : names.length ≤ 10000 := by have := HNl.out; have := HN.out; omega
      have cX := indexW_any wb bb E.length c (.slice an names.length cn) names W0 H.cnt hrow HX.out (by omega)
      have HH : Hid (OrderAt there fresh E w2 wb (.slice a0 ([] : List (List UInt8)).length cp0) (.slice ad done.length cd) W0 left done [] c) := H
      have HRw : Hid (RowIn W0 0 W0.heap.size (.slice an names.length cn) names.length (nmCells names)) := hrow
      have hBW : Below w.heap.size w W0 := HBw.out.grown H.grown HBw.out.size (fun j hj => by have := Option.some.inj hj; omega)
      have HBW : Hid (Below w.heap.size w W0 ∧ w.heap.size ≤ w2.heap.size) := ⟨hBW, HBw.out.size⟩
      clear H hkb hq hnv hrow hBW
      go_wp2_with fail
      refine cX.mono ?_
      rintro e w6 ⟨⟨rfl, h0⟩ | ⟨j, hj, rfl, hc, hb⟩, hB6⟩
      · have HA0 : Hid (orderR there fresh = .inr done) := orderR_all (HH.out.kahn.all HMem.out h0)
        clear h0 cX
        go_wp2
        refine bodyPost_ret (v := .tuple #[.slice ad done.length cd, .nilIface]) (by simp [results, Tryz.results155, go_sem]) rfl ⟨bt HBW.out.1 hB6, ?_⟩
        rw [HA0.out]
        exact ⟨_, rfl, ownsRow_base_a (own_below HH.out.own hB6) HBW.out.2⟩
      · obtain ⟨k1, k2⟩ := HH.out.kahn.stuck HMem.out HRis.out j hj hc hb
        have HA0 : Hid (orderR there fresh = .inl ⟨7, 0, 0, names[j]⟩) := orderR_stuck k1 k2
        obtain ⟨gb, eb, hgb, hcap, hcl⟩ := HRw.out.cellAt (by omega)
        subst eb
        have p0 : w6.cell? ⟨gb, j, none⟩ = some (.string ⟨names[j].toArray⟩) := (hB6.cell (p := ⟨gb, j, none⟩) hgb).trans (hcl j _ (by simp [nmCells, hj, strV]))
        generalize hNj : names[j] = nj at p0 HA0
        have HB6 : Hid (Below w.heap.size w w6) := bt HBW.out.1 hB6
        clear hb hc k1 k2 cX hcl hNj z0 z1
        go_wp2
        go_region
        all_goals
          go_wp2
          refine bodyPost_ret (v := .tuple #[.slice none 0 0, .iface 112 (.pointer (some ⟨w6.heap.size, 0, none⟩))]) (by simp [results, Tryz.results155, go_sem]) rfl ⟨?_, ?_⟩
          · exact below_drewN (HB6.out.alloc HB6.out.size _) 1
          · rw [HA0.out]
            exact ⟨_, rfl, _, rfl, fault_drew (fault_new (w := w6) 7 0 0 ⟨nj.toArray⟩ 117)⟩
    | cons n r =>
      obtain ⟨g, off, cap, e8, hc1, hc2, hcell⟩ := H.row.head
      subst e8
      obtain ⟨a', ha', hsl⟩ := str_behind g off r.length cap
      obtain ⟨N, hN⟩ : ∃ N : ByteArray, N = ⟨n.toArray⟩ := ⟨_, rfl⟩
      have hNd : N.data.toList = n := by rw [hN]
      rw [← hN] at hcell
      have hlt0 := H.row.lt g rfl
      have hdl := H.len
      obtain ⟨hi0, hz0, hz1, hz2⟩ := HZ.out
      have hnn := HN.out
      have hown9 := H.own
      have HH : Hid (OrderAt there fresh E w2 wb (.slice (some ⟨g, off, none⟩) (r.length + 1) cap) (.slice ad done.length cd) W0 left done (n :: r) c) := H
      have HNd : Hid (N.data.toList = n) := hNd
      have hpos : (0 : Int) < ((r.length + 1 : Nat) : Int) := by omega
      clear H hN hNd hkb hq
      go_wp2_with (first
        | (at_builtin; refine wpList_append_own_at _ rfl _ _ 43 rfl w2.heap.size 9 i0 (.string ⟨#[]⟩) 1 16 Tryz.underlying43 hi0 hz0 hz1 hz2 rfl (by decide) _ _ _ rfl (hown9.alloc _) ⟨W0.heap.size, 0, none⟩ 1 1 [.string N] rfl rfl ?c1 ?c2 ?c3 ?c4 ?c5 ?_)
        | go_in)
      case c1 => exact one_new _ _ _
      case c2 => intro u hu; simp at hu; subst hu; rfl
      case c3 => unfold maxLen; omega
      case c4 => omega
      case c5 => simp; omega
      intro v9 w4 hown4 hgrow _ hat
      have H := HH.out
      have hNd := HNd.out
      have G04 : W0.grownBy w4 (Value.slice ad done.length cd).ownBlock := grown_thenO (World.grownBy_alloc W0 _ _) hgrow (fun j hj => .inl hj)
      have hdb : ∀ j, (Value.slice ad done.length cd).ownBlock = some j → w2.heap.size ≤ j ∧ j < W0.heap.size := fun j hj => H.own.lt j hj
      obtain ⟨row4, hb4⟩ := MidRow.tail (H.row.kept G04 (fun j hj e => H.apart j hj e)) ha'
      have cnt4 : CntAt w4 wb c E.length := H.cnt.kept G04 (fun e => by have := hdb wb e.symm; omega)
      have grown4' : w2.grownBy w4 (some wb) := grown_thenO H.grown G04 (fun j hj => .inr (hdb j hj).1)
      have hkb4 := fun k o (h1 : k < w2.heap.size) (h2 : k ≠ wb) => World.cell?_of_block (a := ⟨k, o, none⟩) (grown4'.block k h1 (fun e => h2 (Option.some.inj e)))
      have y0 : w4.cell? ⟨w1.heap.size, 0, none⟩ = some (.map (some wb)) := (hkb4 w1.heap.size 0 (by omega) (by omega)).trans HQ.out.1
      have y1 : w4.cell? ⟨w1.heap.size, 1, none⟩ = some (.map (some bb)) := (hkb4 w1.heap.size 1 (by omega) (by omega)).trans HQ.out.2
      have rows4 : RowsIn w4 w.heap.size bb (rowE E) E.length := HQ2.out.kept grown4' hw.2.2.1 HQ1.out.no_cells
      have hg4 : g < w4.heap.size := Nat.lt_of_lt_of_le hlt0.2 G04.size
      have hap : v9.ownBlock ≠ some g := fun e => by
        rcases hat with h | h
        · rw [h] at e
          exact H.apart g rfl e
        · rw [h] at e
          have := Option.some.inj e
          omega
      have hv9 : ∀ j, v9.ownBlock = some j → j < w4.heap.size := fun j hj => (hown4.lt j hj).2
      obtain ⟨a9, c9, e9⟩ := own_form hown4
      subst e9
      have hB := row_mem (n := n) HQ3.out.2.2
      have hnd := row_nodup HQ3.out.1 n
      obtain ⟨k1, k2⟩ := H.kahn.step hnd hB
      have hmid := fun j => H.kahn.mid (B := rowE E n) hnd j
      have hlen2 := k2.ready_len
      have hless := H.kahn.less
      have hxx : ∀ x ∈ rowE E n, 1 ≤ c x ∧ c x ≤ 1000000000 ∧ x.length ≤ 100000 := fun x hx => by
        obtain ⟨p, hp, _, _, rfl, _, _⟩ := (hB x).1 hx
        have h1 := H.kahn.cnt_le hp
        exact ⟨k1 _ hx, by omega, Nat.le_trans (HSF.out p hp).short.name (by omega)⟩
      have hsz : N.size ≤ maxLen := by
        obtain ⟨p, hp, _, e⟩ := (H.kahn.free n).1 (by simp)
        have h1 := (HSF.out p (H.kahn.sub p hp)).short.name
        rw [size_of hNd, e]
        unfold maxLen
        omega
      have cS := setUp_any wb bb w.heap.size E.length E.length c (rowE E) N w4 cnt4 rows4 hsz (by rw [hNd]; exact hnd) (by rw [hNd]; exact hxx) HQ3.out.2.1 (by rw [hNd]; have := rowE_le E n; have := HQ3.out.2.1; omega)
      rw [hNd] at cS
      generalize hfd : freedS c (rowE E n) = freed at cS k2 hmid hlen2
      rw [insAll_length] at hlen2
      have HK : Hid (Kahn there fresh (left.filter fun p => p.name != n) (done ++ [n]) (insAll freed r) (less1 c (rowE E n))) := k2
      have HMid : Hid (∀ j, M.Rising (insAll (freed.take j) r)) := hmid
      have HLen : Hid (freed.length + r.length ≤ 10000) := by show _ ≤ _; omega
      have HLess : Hid ((done ++ [n]).length + (left.filter fun p => p.name != n).length ≤ fresh.length ∧ done.length < fresh.length) := by
        refine ⟨?_, ?_⟩
        · rw [List.length_append, List.length_singleton]; omega
        · omega
      have HRow4 : Hid (MidRow w4 w2.heap.size (.slice a' r.length (cap - 1)) r ∧ (Value.slice a' r.length (cap - 1)).ownBlock = some g) := ⟨row4, hb4⟩
      have HOwn4 : Hid (w4.ownsRow w2.heap.size 9 1 (.slice a9 (done.length + 1) c9) (done.length + 1) (nmCells (done ++ [n]))) := by
        have e : nmCells (done ++ [n]) = nmCells done ++ [.string N] := by
          unfold nmCells
          rw [List.map_append, ← hNd]
          rfl
        show World.ownsRow _ _ _ _ _ _ _
        rw [e]
        exact hown4
      have HG4 : Hid (w2.grownBy w4 (some wb) ∧ g < w4.heap.size ∧ w2.heap.size ≤ g ∧ (Value.slice a9 (done.length + 1) c9).ownBlock ≠ some g) := ⟨grown4', hg4, hlt0.1, hap⟩
      clear H hNd hgrow hat G04 hdb row4 hb4 cnt4 grown4' hkb4 rows4 hB hnd k1 k2 hmid hlen2 hless hxx hsz hown4 hown9 hap hv9 hcell hi0 hz0 hz1 hz2 hfd hdl hnn
      go_wp2_with (first
        | (go_at_call 194; refine cS.mono ?_; rintro e w5 ⟨fv, rfl, hfr, hc5, hg5⟩; obtain ⟨af, cf, ef⟩ := own_form hfr; subst ef)
        | go_in)
      have HFr : Hid (∀ j (hj : j < freed.length), ∃ fb, af = some ⟨fb, 0, none⟩ ∧ w4.heap.size ≤ fb ∧ fb < w5.heap.size ∧ freed.length ≤ cf ∧ w5.cell? ⟨fb, j, none⟩ = some (strV freed[j])) := fun j hj => by
        have hfr' := hfr
        obtain ⟨_, ⟨h, h0⟩ | ⟨fb, cap2, cur, h, hb, hcc, h2, _⟩⟩ := hfr
        · simp at h0
          rw [h0] at hj
          simp at hj
        · injection h with e1 _ e3
          subst e1 e3
          refine ⟨fb, rfl, hb, (Array.getElem?_eq_some_iff.1 hcc).1, h2, ?_⟩
          rw [hfr'.cellAt j (by omega)]
          simp [nmCells, hj]
      have HC5 : Hid (CntAt w5 wb (less1 c (rowE E n)) E.length) := hc5
      have HG5 : Hid (w4.grownBy w5 (some wb)) := hg5
      have hgg := HG4.out
      have HRow5 : Hid (MidRow w5 w2.heap.size (.slice a' r.length (cap - 1)) r) := HRow4.out.1.kept hg5 (fun j hj e => by rw [HRow4.out.2] at hj; have := Option.some.inj hj; have := Option.some.inj e; omega)
      have h45 := hg5.size
      clear hfr hc5 hg5 cS y0 y1
      go_loopw [8, 12, 13, 14, 43] (fun rv _ _ _ i wr => ∃ j : Nat, i = .int .i64 j ∧ j ≤ freed.length ∧ Hid (MidRow wr w2.heap.size rv (insAll (freed.take j) r)) ∧ Hid (rv.ownBlock = some g ∨ ∃ g', rv.ownBlock = some g' ∧ w5.heap.size ≤ g') ∧ Hid (w5.grownBy wr (some g))) (fun _ _ _ _ i _ => freed.length - (intOf i).toNat)
      case atStart => exact ⟨0, rfl, Nat.zero_le _, HRow5, .inl HRow4.out.2, grown_refl _ _⟩
      case round =>
        obtain ⟨j, rfl, hj, HRow, HOb, HGr⟩ := hrel
        by_cases hjl : j < freed.length
        · obtain ⟨fb, ef, hf1, hf2, hf3, hf4⟩ := HFr.out j hjl
          obtain ⟨Y, hY⟩ : ∃ Y : ByteArray, Y = ⟨freed[j].toArray⟩ := ⟨_, rfl⟩
          have hYd : Y.data.toList = freed[j] := by rw [hY]
          have p0 : wr.cell? ⟨fb, j, none⟩ = some (.string Y) := by
            rw [hY]
            exact (World.cell?_of_block (a := ⟨fb, j, none⟩) (HGr.out.block fb hf2 (fun e => by have := Option.some.inj e; omega))).trans hf4
          have hlenx := insAll_length (freed.take j) r
          have hlen1 := HLen.out
          rw [List.length_take, Nat.min_eq_left (Nat.le_of_lt hjl)] at hlenx
          have HIns : Hid (insAll (freed.take (j + 1)) r = (insAll (freed.take j) r).take (M.placeS Y.data.toList (insAll (freed.take j) r)) ++ Y.data.toList :: (insAll (freed.take j) r).drop (M.placeS Y.data.toList (insAll (freed.take j) r))) := by
            show _ = _
            rw [insAll_take hjl, ← hYd, M.ins_eq]
          have hmid := HMid.out j
          generalize insAll (freed.take j) r = xs at HRow hlenx HIns hmid
          obtain ⟨a, cp, e8, hr1, hr2, hr3⟩ := HRow.out
          subst e8
          subst ef
          have hpl := M.place_le Y.data.toList xs
          have cB := search_any a cp xs Y wr hmid (by omega) (fun h0 => by
            obtain ⟨_, h, _⟩ | ⟨g2, off2, cur2, e2, _, _, _, hx⟩ := hr3
            · rw [h] at h0
              simp at h0
            · refine ⟨g2, off2, e2, fun t ht => hx t _ ?_⟩
              simp [nmCells, ht, strV])
          have cI := fun wx (hb : Below wr.heap.size wr wx) => insert_any w2.heap.size wx.heap.size (M.placeS Y.data.toList xs) (.slice a xs.length cp) xs Y (wx.alloc (.cells #[.string Y] 9)) (HRow.out.kept (grown_ofB (bt hb ((Below.refl _ wx).alloc (Nat.le_refl _) _)) none) (fun _ _ => by simp)) hpl (by omega) (heap_alloc_new wx _) (fun e => by have := (HRow.out.lt _ e).2; have := hb.size; omega) (by have := HG5.out.size; have := HG4.out.1.size; have := HGr.out.size; have := hb.size; simp; omega)
          have HHb : Hid (xs.length = j + r.length ∧ M.placeS Y.data.toList xs ≤ xs.length) := ⟨hlenx, hpl⟩
          have hjb : j < 10000 := by omega
          clear hY hYd hf4 hr3 hmid hlenx hpl hlen1 hr1 hr2
          go_wp2_with (first
            | (go_at_call 195; refine cB.mono ?_; rintro e w6 ⟨bo, rfl, q, hw6⟩; have hB6 : Below wr.heap.size wr w6 := by rw [hw6]; exact below_same wr q
               have c6 := cI w6 hB6
               clear hw6 cI cB p0)
            | (go_at_call 196; refine c6.mono ?_; rintro e w7 ⟨v7, rfl, hm7, hg7, ho7⟩))
          have hO := HOb.out
          have h7s := hg7.size
          have hB7 : Below wr.heap.size wr (w6.alloc (.cells #[.string Y] 9)) := bt hB6 ((Below.refl _ w6).alloc (Nat.le_refl _) _)
          have HG7 : Hid (w5.grownBy w7 (some g)) := grown_thenO (grown_thenO HGr.out (grown_ofB hB7 none) (fun j hj => by cases hj)) hg7 (fun k hk => by
            rcases hO with h | ⟨g', h, hg'⟩
            · rw [h] at hk
              exact .inl hk
            · rw [h] at hk
              have := Option.some.inj hk
              exact .inr (by omega))
          have HO7 : Hid (v7.ownBlock = some g ∨ ∃ g', v7.ownBlock = some g' ∧ w5.heap.size ≤ g') := by
            rcases ho7 with h | h
            · rw [h]
              exact hO
            · exact .inr ⟨_, h, by have := HGr.out.size; have := hB6.size; simp; omega⟩
          have HR7 : Hid (MidRow w7 w2.heap.size v7 (insAll (freed.take (j + 1)) r)) := by
            show MidRow _ _ _ _
            rw [HIns.out]
            exact hm7
          clear hm7 hg7 ho7 c6 hB7 hB6 hO h7s
          go_roundw
          case rel => exact ⟨j + 1, by go_num, by omega, HR7, HO7, HG7⟩
          case measure => simp [intOf]; omega
        · have hjj : j = freed.length := by omega
          have hrow := HRow.out
          rw [hjj, List.take_length] at hrow
          have hG2 : w5.grownBy wr (some g) := HGr.out
          have HFin : Hid (∃ (left' : List M.Pk) (done' ready' : List (List UInt8)) (c' : List UInt8 → Nat), OrderAt there fresh E w2 wb u8 (.slice a9 (done.length + 1) c9) wr left' done' ready' c') := by
            refine ⟨left.filter fun p => p.name != n, done ++ [n], insAll freed r, less1 c (rowE E n), HK.out, HLess.out.1, hrow, ?_, ?_, ?_, ?_⟩
            · rw [List.length_append]
              have h1 := HOwn4.out.kept HG5.out (.inr (fun e => by have := HOwn4.out.lt _ e; omega))
              exact h1.kept hG2 (.inr (fun e => hgg.2.2.2 e))
            · intro g' hg' e
              rcases HOb.out with h | ⟨g2, h, h2⟩
              · rw [h] at hg'
                cases hg'
                exact hgg.2.2.2 e
              · rw [h] at hg'
                cases hg'
                have := HOwn4.out.lt _ e
                omega
            · exact HC5.out.kept hG2 (fun e => by have := Option.some.inj e; omega)
            · exact grown_thenO (grown_thenO hgg.1 HG5.out (fun k hk => .inl hk)) hG2 (fun k hk => .inr (by have := Option.some.inj hk; omega))
          have hless := HLess.out.2
          clear hrow hG2
          go_wp2
          go_roundw
          case rel => exact HFin.out
          case measure => simp [lenV]; omega
end Go.Proofs.YtgnfknjopafngaaGreatDoor
