import Derived.Test.YtgnfknjopafngaaGreatDoorPlT
import Derived.Test.YtgnfknjopafngaaGreatDoorPlV
import Derived.Test.YtgnfknjopafngaaGreatDoorPlK
import Derived.Test.YtgnfknjopafngaaGreatDoorPlJ
/-
  THE CODE, WALKED: Store.Plan; plain's Session.Plan.
-/
namespace Go.Proofs.YtgnfknjopafngaaGreatDoor
open Go.RowKit Go.Maps

theorem readAll_kind : ∀ (ts : List (List UInt8)) (i : Nat) (acc : List M.Pk) (f : M.Fa), M.readAllS ts i acc = .inl f → f.kind = 1
  | [], i, acc, f, h => by simp [M.readAllS] at h
  | t :: ts, i, acc, f, h => by
    simp only [M.readAllS] at h
    cases hr : M.readS t with
    | inl n => rw [hr] at h; cases h; rfl
    | inr p => rw [hr] at h; exact readAll_kind ts _ _ f h
theorem addAll_kind : ∀ (ps : List M.Pk) (i : Nat) (all : List M.Pk) (f : M.Fa), M.addAllS ps i all = .inl f → f.kind = 2
  | [], i, acc, f, h => by simp [M.addAllS] at h
  | p :: ps, i, acc, f, h => by
    simp only [M.addAllS] at h
    by_cases hp : 0 ≤ M.findS acc p.name
    · rw [if_pos hp] at h; cases h; rfl
    · rw [if_neg hp] at h; exact addAll_kind ps _ _ f h
theorem checked_kind {there fresh all : List M.Pk} {f : M.Fa} (h : M.checkedS there fresh all = .inl f) : 1 ≤ f.kind ∧ f.kind ≤ 8 := by
  unfold M.checkedS at h
  split at h
  · cases h; exact ⟨by simp, by simp⟩
  · split at h
    · cases h; exact ⟨by simp, by simp⟩
    · split at h
      · cases h; exact ⟨by simp, by simp⟩
      · split at h
        · cases h; exact ⟨by simp, by simp⟩
        · cases h
theorem planned_kinds {there : List M.Pk} {T : List (List UInt8)} {f : M.Fa} (h : M.plannedS there T = .inl f) : 1 ≤ f.kind ∧ f.kind ≤ 8 := by
  unfold M.plannedS at h
  cases hr : M.readAllS T 0 [] with
  | inl g =>
    rw [hr] at h
    cases h
    have := readAll_kind _ _ _ _ hr
    omega
  | inr l =>
    rw [hr] at h
    simp only at h
    cases ha : M.addAllS l 0 there with
    | inl g =>
      rw [ha] at h
      cases h
      have := addAll_kind _ _ _ _ ha
      omega
    | inr all =>
      rw [ha] at h
      exact checked_kind h

set_option maxRecDepth 100000 in
set_option maxHeartbeats 4000000 in
theorem sPlan_any (s k b : Nat) (there : List M.Pk) (xv : Value) (texts : List ByteArray) (w : World) (hR : Ready w) (hs : StoreAt w s k b) (hl : SetIn w b there) (hx : StrsIn w xv texts) (hxn : texts.length ≤ 10000) (hxs : ∀ t ∈ texts, t.size ≤ 8192) (htn : there.length ≤ 20000) (hts : ∀ p ∈ there, ReadP p) :
    Calls Tryz.prog 50 #[.pointer (some ⟨s, 0, none⟩), xv] w (NamesPost (M.plannedS there (texts.map fun t => t.data.toList)) w) := by
  have cA := plans_any b there xv texts w hR.2 hR.1 hl hx hxn hxs htn hts
  generalize M.plannedS there (texts.map fun t => t.data.toList) = R at cA ⊢
  have q1 : w.cell? ⟨s, 1, none⟩ = some (.map (some b)) := (cell_of_row w _ 1 _ _ (0, 0) hs).trans rfl
  clear hR hl hx hxs hts hs
  go_enter Tryz.func50, Tryz.ntmps50
  go_wp2_with fail
  refine cA.mono ?_
  rintro e w2 ⟨hB2, hm⟩
  clear cA
  cases R with
  | inl f =>
    obtain ⟨ev, rfl, fb, rfl, hF⟩ := hm
    have HF : Hid (ErrIs f w2 (.iface 112 (.pointer (some ⟨fb, 0, none⟩)))) := ⟨fb, rfl, hF⟩
    clear hF
    go_wp2
    refine bodyPost_ret (v := .tuple #[.slice none 0 0, .iface 112 (.pointer (some ⟨fb, 0, none⟩))]) (by simp [results, Tryz.results50, go_sem]) rfl ⟨hB2, ?_⟩
    exact ⟨_, rfl, HF.out⟩
  | inr q =>
    obtain ⟨all, l⟩ := q
    obtain ⟨v, rfl, hv⟩ := hm
    have HV : Hid (w2.ownsRow w.heap.size 9 1 v l.length (nmCells l)) := hv
    obtain ⟨av, cv, ev⟩ := own_form hv
    subst ev
    clear hv
    go_wp2
    refine bodyPost_ret (v := .tuple #[.slice av l.length cv, .nilIface]) (by simp [results, Tryz.results50, go_sem]) rfl ⟨hB2, ?_⟩
    exact ⟨_, rfl, HV.out⟩

/-- What plain's Plan answers. -/
def PlainPost (R : Sum M.Fa (List M.Pk × List (List UInt8))) (w : World) (e : Ending) (w' : World) : Prop :=
  Below w.heap.size w w' ∧ match R with
    | .inl f => e = .returned (.tuple #[.slice none 0 0, faV f])
    | .inr (_, names) => ∃ v, e = .returned (.tuple #[v, faV M.okFa]) ∧ StrsIn w' v (names.map fun n => (⟨n.toArray⟩ : ByteArray))
theorem own_strs {w : World} {base : Nat} {v : Value} {l : List (List UInt8)} (h : w.ownsRow base 9 1 v l.length (nmCells l)) : StrsIn w v (l.map fun n => (⟨n.toArray⟩ : ByteArray)) := by
  have h1 := RowIn.own h
  rw [nm_strs] at h1
  unfold StrsIn
  rw [List.length_map]
  exact h1.wide (Nat.zero_le _) (Nat.le_refl _)

set_option maxRecDepth 100000 in
set_option maxHeartbeats 8000000 in
theorem xPlan_any (x d s k b : Nat) (there : List M.Pk) (xv : Value) (texts : List ByteArray) (w : World) (hR : Ready w) (hx0 : SessAt w x d (.pointer (some ⟨s, 0, none⟩))) (hs : StoreAt w s k b) (hl : SetIn w b there) (hx : StrsIn w xv texts) (hxn : texts.length ≤ 10000) (hxs : ∀ t ∈ texts, t.size ≤ 8192) (htn : there.length ≤ 20000) (hts : ∀ p ∈ there, ReadP p) :
    Calls Tryz.prog 26 #[.pointer (some ⟨x, 0, none⟩), xv] w (PlainPost (M.plannedS there (texts.map fun t => t.data.toList)) w) := by
  have hB0 : Below w.heap.size w (w.alloc (.cells #[.int .i64 0, .int .i64 0, .int .i64 0, .string ⟨#[]⟩] 23)) := (Below.refl _ w).alloc (Nat.le_refl _) _
  generalize hA : w.alloc (.cells #[.int .i64 0, .int .i64 0, .int .i64 0, .string ⟨#[]⟩] 23) = A at hB0
  have hr : A.heap[w.heap.size]? = some (.cells okC 23 (0, 0)) := by rw [← hA]; exact heap_alloc_new w _
  have hAs : w.heap.size < A.heap.size := (Array.getElem?_eq_some_iff.1 hr).1
  have hsl : s < w.heap.size := (Array.getElem?_eq_some_iff.1 hs).1
  have hxl : x < w.heap.size := (Array.getElem?_eq_some_iff.1 hx0).1
  have q1 : A.cell? ⟨x, 1, none⟩ = some (.pointer (some ⟨s, 0, none⟩)) := (hB0.cell (p := ⟨x, 1, none⟩) hxl).trans ((cell_of_row w _ 1 _ _ (0, 0) hx0).trans rfl)
  obtain ⟨ax, cx, ex⟩ := hx.form
  subst ex
  have cA := sPlan_any s k b there _ texts A (hR.below hB0) ((hB0.block s hsl).trans hs) (hl.below hB0) (hx.below hB0) hxn hxs htn hts
  have HK : Hid (∀ f, M.plannedS there (texts.map fun t => t.data.toList) = .inl f → 1 ≤ f.kind ∧ f.kind ≤ 8) := fun f h => planned_kinds h
  generalize M.plannedS there (texts.map fun t => t.data.toList) = R at cA HK ⊢
  have HE : Hid (ErrLaid A) := (hR.below hB0).1
  have HRr : Hid (A.heap[w.heap.size]? = some (.cells okC 23 (0, 0))) := hr
  clear hR hl hx hxs hts hs hx0 hr
  go_enter Tryz.func26, Tryz.ntmps26
  go_wp2_with fail
  refine cA.mono ?_
  rintro e w1 ⟨hB1, hm⟩
  clear cA q1
  have hB2 : Below w.heap.size w w1 := bt hB0 hB1
  cases R with
  | inl f =>
    obtain ⟨ev, rfl, fb, rfl, hF⟩ := hm
    obtain ⟨f1, f2⟩ := HK.out f rfl
    have cP := parts_fault w1 fb f.kind f.which f.line ⟨f.name.toArray⟩ (HE.out.below hB1) hF f1 f2
    obtain ⟨fk, fw, fl, fn⟩ := f
    generalize hN : (⟨fn.toArray⟩ : ByteArray) = N at cP
    have HN : Hid ((⟨fn.toArray⟩ : ByteArray) = N) := hN
    simp only at cP
    clear hF HK f1 f2 hN
    go_wp2_with fail
    refine cP.mono ?_
    rintro e w2 ⟨rfl, hB3⟩
    clear cP
    go_wp2
    generalize hW4 : w2.alloc (.cells #[Value.int .i64 fk, .int .i64 fw, .int .i64 fl, .string N] 23) = w4
    have hB4 : Below w1.heap.size w1 w4 := by rw [← hW4]; exact hB3.alloc hB3.size _
    have hr4 : w4.heap[w.heap.size]? = some (.cells okC 23 (0, 0)) := (hB4.block _ (Nat.lt_of_lt_of_le hAs hB1.size)).trans ((hB1.block _ hAs).trans HRr.out)
    obtain ⟨z0, z1, z2, z3, zf⟩ := okC_cell hr4
    have hy : ∀ o u, [Value.int .i64 fk, .int .i64 fw, .int .i64 fl, .string N][o]? = some u → w4.cell? ⟨w2.heap.size, o, none⟩ = some u := fun o u hu => by rw [← hW4]; exact new_at w2 _ _ o u hu
    have y0 := hy 0 _ rfl
    have y1 := hy 1 _ rfl
    have y2 := hy 2 _ rfl
    have y3 := hy 3 _ rfl
    have HB4 : Hid (Below w.heap.size w w4) := bt hB2 hB4
    clear hy hW4 hB4 hB3 hB1 hB0 hr4
    go_region
    go_wp2
    refine bodyPost_ret (v := .tuple #[.slice none 0 0, .agg #[.int .i64 fk, .int .i64 fw, .int .i64 fl, .string N]]) (by simp [results, Tryz.results26, go_sem, z0, z1, z2, z3]) rfl ⟨?_, ?_⟩
    · exact ((((HB4.out.setCell (Nat.le_refl _) _).setCell (Nat.le_refl _) _).setCell (Nat.le_refl _) _).setCell (Nat.le_refl _) _).drew
    · show _ = _
      unfold faV
      rw [HN.out]
  | inr q =>
    obtain ⟨all, l⟩ := q
    obtain ⟨v, rfl, hv⟩ := hm
    have HV : Hid (w1.ownsRow A.heap.size 9 1 v l.length (nmCells l)) := hv
    obtain ⟨av, cv, ev⟩ := own_form hv
    subst ev
    have cP := parts_nil w1
    clear hv HK
    go_wp2_with fail
    refine cP.mono ?_
    rintro e w2 ⟨rfl, hB3⟩
    clear cP
    go_wp2
    generalize hW4 : w2.alloc (.cells #[Value.int .i64 0, .int .i64 0, .int .i64 0, .string ⟨#[]⟩] 23) = w4
    have hB4 : Below w1.heap.size w1 w4 := by rw [← hW4]; exact hB3.alloc hB3.size _
    have hr4 : w4.heap[w.heap.size]? = some (.cells okC 23 (0, 0)) := (hB4.block _ (Nat.lt_of_lt_of_le hAs hB1.size)).trans ((hB1.block _ hAs).trans HRr.out)
    obtain ⟨z0, z1, z2, z3, zf⟩ := okC_cell hr4
    have hy : ∀ o u, [Value.int .i64 0, .int .i64 0, .int .i64 0, .string ⟨#[]⟩][o]? = some u → w4.cell? ⟨w2.heap.size, o, none⟩ = some u := fun o u hu => by rw [← hW4]; exact new_at w2 _ _ o u hu
    have y0 := hy 0 _ rfl
    have y1 := hy 1 _ rfl
    have y2 := hy 2 _ rfl
    have y3 := hy 3 _ rfl
    have HB4 : Hid (Below w.heap.size w w4) := bt hB2 hB4
    have HV4 : Hid (w4.ownsRow A.heap.size 9 1 (.slice av l.length cv) l.length (nmCells l)) := own_below HV.out hB4
    clear hy hW4 hB4 hB3 hB1 hB0 hr4
    go_region
    go_wp2
    refine bodyPost_ret (v := .tuple #[.slice av l.length cv, .agg #[.int .i64 0, .int .i64 0, .int .i64 0, .string ⟨#[]⟩]]) (by simp [results, Tryz.results26, go_sem, z0, z1, z2, z3]) rfl ⟨?_, _, rfl, ?_⟩
    · exact ((((HB4.out.setCell (Nat.le_refl _) _).setCell (Nat.le_refl _) _).setCell (Nat.le_refl _) _).setCell (Nat.le_refl _) _).drew
    · have h9 := ownsRow_setCell_below (ownsRow_setCell_below (ownsRow_setCell_below (ownsRow_setCell_below HV4.out (a := ⟨w.heap.size, 0, none⟩) hAs (.int .i64 0)) (a := ⟨w.heap.size, 1, none⟩) hAs (.int .i64 0)) (a := ⟨w.heap.size, 2, none⟩) hAs (.int .i64 0)) (a := ⟨w.heap.size, 3, none⟩) hAs (.string ⟨#[]⟩)
      exact own_strs (own_below h9 (below_same _ 1))
end Go.Proofs.YtgnfknjopafngaaGreatDoor
/-
  THE LAW, WALKED: small; Lost.
-/
namespace Go.Proofs.YtgnfknjopafngaaGreatDoor
open Go.RowKit

/-- A step of a script, as data. -/
structure OpD where
  kind : Int
  a : Int
  b : Int
  s : ByteArray
def OpsIn (w : World) (v : Value) (ops : List OpD) : Prop := ∃ a cap, v = .slice a ops.length cap ∧ ops.length ≤ cap ∧ cap ≤ maxLen ∧ (0 < ops.length → ∃ g off, a = some ⟨g, off, none⟩ ∧ g < w.heap.size ∧
  ∀ i (hi : i < ops.length), w.cell? ⟨g, off + i * 4, none⟩ = some (.int .i64 ops[i].kind) ∧ w.cell? ⟨g, off + i * 4 + 1, none⟩ = some (.int .i64 ops[i].a) ∧ w.cell? ⟨g, off + i * 4 + 2, none⟩ = some (.int .i64 ops[i].b) ∧ w.cell? ⟨g, off + i * 4 + 3, none⟩ = some (.string ops[i].s))
theorem OpsIn.below {w w' : World} {v : Value} {ops : List OpD} (h : OpsIn w v ops) (hb : Below w.heap.size w w') : OpsIn w' v ops := by
  obtain ⟨a, cap, e, h1, h2, h3⟩ := h
  refine ⟨a, cap, e, h1, h2, fun h0 => ?_⟩
  obtain ⟨g, off, e1, hg, hc⟩ := h3 h0
  refine ⟨g, off, e1, Nat.lt_of_lt_of_le hg hb.size, fun i hi => ?_⟩
  obtain ⟨k0, k1, k2, k3⟩ := hc i hi
  exact ⟨(hb.cell (p := ⟨g, off + i * 4, none⟩) hg).trans k0, (hb.cell (p := ⟨g, off + i * 4 + 1, none⟩) hg).trans k1, (hb.cell (p := ⟨g, off + i * 4 + 2, none⟩) hg).trans k2, (hb.cell (p := ⟨g, off + i * 4 + 3, none⟩) hg).trans k3⟩
def bytesOf (ops : List OpD) : Nat := (ops.map fun o => o.s.size).sum
theorem bytes_take {ops : List OpD} {k : Nat} (hk : k < ops.length) : bytesOf (ops.take (k + 1)) = bytesOf (ops.take k) + ops[k].s.size := by
  unfold bytesOf
  rw [List.take_succ_eq_append_getElem hk, List.map_append, List.sum_append]
  simp
theorem bytes_take_le (ops : List OpD) (k : Nat) : bytesOf (ops.take k) ≤ bytesOf ops := by
  have h : bytesOf ops = bytesOf (ops.take k) + bytesOf (ops.drop k) := by
    unfold bytesOf
    rw [← List.sum_append, ← List.map_append, List.take_append_drop]
  omega

set_option maxRecDepth 100000 in
set_option maxHeartbeats 2000000 in
theorem small_any (v : Value) (ops : List OpD) (w : World) (hv : OpsIn w v ops) (hs : ∀ o ∈ ops, o.s.size ≤ 1000000000000000000) :
    Calls Tryz.prog 39 #[v] w fun e w' => e = .returned (.bool (decide (ops.length + bytesOf ops ≤ 8192))) ∧ Below w.heap.size w w' := by
  obtain ⟨a, cap, rfl, hc1, hc2, hcell⟩ := hv
  have HC : Hid (0 < ops.length → ∃ g off, a = some ⟨g, off, none⟩ ∧ g < w.heap.size ∧
    ∀ i (hi : i < ops.length), w.cell? ⟨g, off + i * 4, none⟩ = some (.int .i64 ops[i].kind) ∧ w.cell? ⟨g, off + i * 4 + 1, none⟩ = some (.int .i64 ops[i].a) ∧ w.cell? ⟨g, off + i * 4 + 2, none⟩ = some (.int .i64 ops[i].b) ∧ w.cell? ⟨g, off + i * 4 + 3, none⟩ = some (.string ops[i].s)) := hcell
  have HS : Hid (∀ o ∈ ops, o.s.size ≤ 1000000000000000000) := hs
  have hm : cap ≤ 9223372036854775807 := by unfold maxLen at hc2; omega
  clear hcell hs hc2
  by_cases h8 : 8192 < ops.length
  · have hd : decide (ops.length + bytesOf ops ≤ 8192) = false := by simp; omega
    rw [hd]
    go_enter Tryz.func39, Tryz.ntmps39
    go_wp2
    go_ret
    exact ⟨rfl, Below.refl _ _⟩
  · obtain ⟨D, hD⟩ : ∃ D, D = decide (ops.length + bytesOf ops ≤ 8192) := ⟨_, rfl⟩
    have HD : Hid (D = decide (ops.length + bytesOf ops ≤ 8192)) := hD
    rw [← hD]
    clear hD
    go_enter Tryz.func39, Tryz.ntmps39
    go_wp2
    go_loopw [3, 4] (fun n i wr => ∃ k : Nat, i = .int .i64 k ∧ k ≤ ops.length ∧ ∃ m : Nat, n = .int .i64 m ∧ m ≤ 8192 ∧ Hid (m = ops.length + bytesOf (ops.take k)) ∧ Below w.heap.size w wr) (fun _ i _ => ops.length - (intOf i).toNat)
    case atStart => exact ⟨0, rfl, Nat.zero_le _, ops.length, rfl, by omega, by show _ = _; simp [bytesOf], Below.refl _ _⟩
    case round =>
      obtain ⟨k, rfl, hk, m, rfl, hm8, HM, hBr⟩ := hrel
      by_cases hlt : k < ops.length
      · obtain ⟨g, off, rfl, hg, hc⟩ := HC.out (by omega)
        obtain ⟨_, _, _, o3⟩ := hc k hlt
        have p3 := (hBr.cell (p := ⟨g, off + k * 4 + 3, none⟩) hg).trans o3
        have hsz := HS.out _ (List.getElem_mem hlt)
        have HB : Hid (bytesOf (ops.take (k + 1)) = bytesOf (ops.take k) + ops[k].s.size) := bytes_take hlt
        generalize ops[k].s = S at p3 hsz HB
        clear hc o3
        by_cases hb : 8192 < m + S.size
        · have HD2 : Hid (D = false) := by
            show _ = _
            rw [HD.out]
            have h1 := bytes_take_le ops (k + 1)
            have h2 := HM.out
            have h3 := HB.out
            simp
            omega
          go_wp2
          go_ret
          exact ⟨by rw [HD2.out]; rfl, hBr⟩
        · go_wp2
          go_roundw
          case rel => exact ⟨k + 1, by go_num, by omega, m + S.size, by go_num, by omega, by show _ = _; have h1 := HM.out; have h2 := HB.out; omega, hBr⟩
          case measure => simp [intOf]; omega
      · have HD2 : Hid (D = true) := by
          show _ = _
          have h2 := HM.out
          have hkk : k = ops.length := by omega
          rw [hkk, List.take_length] at h2
          rw [HD.out]
          simp
          omega
        go_wp2
        go_ret
        exact ⟨by rw [HD2.out]; rfl, hBr⟩

set_option maxRecDepth 100000 in
theorem lost_any (x d : Nat) (b : Bool) (w : World) (h0 : w.cell? ⟨x, 0, none⟩ = some (.pointer (some ⟨d, 0, none⟩))) (h4 : w.cell? ⟨d, 4, none⟩ = some (.bool b)) :
    Calls Tryz.prog 32 #[.pointer (some ⟨x, 0, none⟩)] w fun e w' => e = .returned (.bool b) ∧ w = w' := by
  go_enter Tryz.func32, Tryz.ntmps32
  go_wp2
  go_ret
  exact ⟨rfl, rfl⟩
end Go.Proofs.YtgnfknjopafngaaGreatDoor
/-
  THE LAW, WALKED: a step of a script of plans.
-/
namespace Go.Proofs.YtgnfknjopafngaaGreatDoor
open Go.RowKit Go.Maps

/-- What stands below the script's own world: a session on an empty disk. -/
structure PBase (W : World) (x d s k b : Nat) : Prop where
  sess : SessAt W x d (.pointer (some ⟨s, 0, none⟩))
  store : StoreAt W s k b
  set : SetIn W b []
  dead : W.cell? ⟨d, 4, none⟩ = some (.bool false)
  ready : Ready W
theorem PBase.below {W W' : World} {x d s k b : Nat} (h : PBase W x d s k b) (hb : Below W.heap.size W W') : PBase W' x d s k b :=
  ⟨(hb.block x (Array.getElem?_eq_some_iff.1 h.sess).1).trans h.sess, (hb.block s (Array.getElem?_eq_some_iff.1 h.store).1).trans h.store, h.set.below hb, (hb.cell (p := ⟨d, 4, none⟩) (World.block_lt_of_cell? _ _ h.dead)).trans h.dead, h.ready.below hb⟩
/-- The script's own world. -/
structure HandAt (W w : World) (x : Nat) (hv : Value) (hand : List ByteArray) : Prop where
  below : Below W.heap.size W w
  blk : w.heap[W.heap.size]? = some (.cells #[.pointer (some ⟨x, 0, none⟩), .int .i64 16, .slice none 0 0, .slice none 0 0, .bool false, hv] 79 (0, 0))
  own : w.ownsRow (W.heap.size + 1) 9 1 hv hand.length (hand.map Value.string)
theorem HandAt.lt {W w : World} {x : Nat} {hv : Value} {hand : List ByteArray} (h : HandAt W w x hv hand) : W.heap.size < w.heap.size := (Array.getElem?_eq_some_iff.1 h.blk).1
theorem HandAt.next {W w w' : World} {x : Nat} {hv : Value} {hand : List ByteArray} (h : HandAt W w x hv hand) (hb : Below w.heap.size w w') : HandAt W w' x hv hand :=
  ⟨bt h.below hb, (hb.block _ h.lt).trans h.blk, own_below h.own hb⟩
/-- One text more at hand. -/
theorem HandAt.more {W w : World} {x : Nat} {hv : Value} {hand : List ByteArray} (h : HandAt W w x hv hand) (S : ByteArray) (ty : TypeId) (hn : hand.length ≤ 1000000) :
    ∃ a c w', (Builtin.append_ #[43, 43] ty #[hv, .slice (some ⟨w.heap.size, 0, none⟩) 1 1]).run Tryz.prog (w.alloc (.cells #[.string S] 9)).drew = .ok (.slice a (hand.length + 1) c) w' ∧
      w'.heap[W.heap.size]? = some (.cells #[.pointer (some ⟨x, 0, none⟩), .int .i64 16, .slice none 0 0, .slice none 0 0, .bool false, hv] 79 (0, 0)) ∧
      HandAt W (w'.setCell ⟨W.heap.size, 5, none⟩ (.slice a (hand.length + 1) c)) x (.slice a (hand.length + 1) c) (hand ++ [S]) := by
  obtain ⟨i0, hi0, hz0, hz1, hz2⟩ := info_parts infoStr
  obtain ⟨A, hA⟩ : ∃ A, A = (w.alloc (.cells #[.string S] 9)).drew := ⟨_, rfl⟩
  have hBA : Below w.heap.size w A := by rw [hA]; exact bt ((Below.refl _ w).alloc (Nat.le_refl _) _) (below_same _ 1)
  have hc : A.cell? ⟨w.heap.size, 0, none⟩ = some (.string S) := by rw [hA]; exact new_at w [.string S] 9 0 _ rfl
  have h1 := h.next hBA
  rw [← hA]
  have hsA := h1.lt
  obtain ⟨v', w', hrun, r1, r2, _⟩ := run_append_own (P := Tryz.prog) A (W.heap.size + 1) 43 ty 9 i0 (.string ⟨#[]⟩) 1 16 Tryz.underlying43 hi0 hz0 hz1 hz2 rfl (by decide) hv hand.length (hand.map Value.string) h1.own ⟨w.heap.size, 0, none⟩ 1 1 [.string S] rfl (fun j y hy => by
    match j, hy with
    | 0, hy => cases hy; rw [Addr.add_lit]; exact hc) (fun u hu => by simp only [List.mem_singleton] at hu; subst hu; rfl) (by unfold maxLen; omega) (by omega) (by omega)
  obtain ⟨a, c, e⟩ := own_form r1
  subst e
  have e1 : w'.heap[W.heap.size]? = some (.cells #[.pointer (some ⟨x, 0, none⟩), .int .i64 16, .slice none 0 0, .slice none 0 0, .bool false, hv] 79 (0, 0)) :=
    (r2.block _ hsA (fun e => by have := h1.own.lt _ e.symm; omega)).trans h1.blk
  have hset : w'.grownBy (w'.setCell ⟨W.heap.size, 5, none⟩ (.slice a (hand.length + 1) c)) (some W.heap.size) := ⟨rfl, rfl, rfl, by simp, fun k _ hk => Below.heap_setCell _ _ _ _ (fun e => hk (by rw [e]))⟩
  refine ⟨a, c, w', hrun, e1, ⟨?_, heap_setCell_same w' _ 5 _ _ _ e1, ?_⟩⟩
  · refine ⟨hset.os.trans (r2.os.trans h1.below.os), hset.tape.trans (r2.tape.trans h1.below.tape), hset.output.trans (r2.output.trans h1.below.output), Nat.le_trans h1.below.size (Nat.le_trans r2.size hset.size), fun k hk => ?_⟩
    exact (hset.block k (by have := r2.size; omega) (fun e => by have := Option.some.inj e; omega)).trans ((r2.block k (by omega) (fun e => by have := h1.own.lt _ e.symm; omega)).trans (h1.below.block k hk))
  · have := ownsRow_setCell_below (a := ⟨W.heap.size, 5, none⟩) r1 (by show W.heap.size < _; omega) (.slice a (hand.length + 1) c)
    rw [List.map_append, List.length_append]
    exact this
/-- A copy of what is at hand. -/
theorem append_strs {w : World} (ty : TypeId) (B : Nat) (sv : Value) (l : List ByteArray) (h : w.ownsRow B 9 1 sv l.length (l.map Value.string)) (hn : l.length ≤ 1000000) :
    ∃ v' w', (Builtin.append_ #[43, 43] ty #[.slice none 0 0, sv]).run Tryz.prog w = .ok v' w' ∧ StrsIn w' v' l ∧ Below w.heap.size w w' := by
  obtain ⟨i0, hi0, hz0, hz1, hz2⟩ := info_parts infoStr
  have h' := h
  obtain ⟨hl, ⟨rfl, h0⟩ | ⟨g, cap, cur, rfl, hb, hg, hnc, hcm, hcs, ht⟩⟩ := h
  · have e0 : l = [] := List.length_eq_zero_iff.1 (by simpa using h0)
    subst e0
    exact ⟨_, w, run_append_nothing w _ ty _ i0 Tryz.underlying43 hi0 none none 0 0 0 (Nat.le_refl _), StrsIn.none w, Below.refl _ _⟩
  · obtain ⟨v', w', hrun, r1, r2, _⟩ := run_append_own (P := Tryz.prog) w w.heap.size 43 ty 9 i0 (.string ⟨#[]⟩) 1 16 Tryz.underlying43 hi0 hz0 hz1 hz2 rfl (by decide) (.slice none 0 0) 0 [] (World.ownsRow_nil w _ _ 1) ⟨g, 0, none⟩ l.length cap (l.map Value.string) (by simp) (fun j u hu => by
      rw [Addr.add_lit, Nat.zero_add, h'.cellAt j (by have := (List.getElem?_eq_some_iff.1 hu).1; simpa using this)]
      exact hu) (fun u hu => by obtain ⟨x, _, rfl⟩ := List.mem_map.1 hu; rfl) (by unfold maxLen; omega) (by omega) (Nat.le_refl _)
    rw [Nat.zero_add, List.nil_append] at r1
    exact ⟨v', w', hrun, (RowIn.own r1).wide (Nat.zero_le _) (Nat.le_refl _), ⟨r2.os, r2.tape, r2.output, r2.size, fun k hk => r2.block k hk (by simp [Value.ownBlock])⟩⟩
def handAfter (kind : Int) (S : ByteArray) (hand : List ByteArray) : List ByteArray := if kind = 1 then hand ++ [S] else if kind = 2 then [] else hand
def StepPost (W : World) (x : Nat) (hand : List ByteArray) (e : Ending) (w' : World) : Prop := e = .returned (.bool true) ∧ ∃ hv', HandAt W w' x hv' hand

set_option maxRecDepth 100000 in
set_option maxHeartbeats 8000000 in
theorem step_text (x d s k b : Nat) (W w : World) (hv : Value) (hand : List ByteArray) (A B : Int) (S : ByteArray) (hP : PBase W x d s k b) (h : HandAt W w x hv hand) (hn : hand.length ≤ 1000000) :
    Calls Tryz.prog 41 #[.pointer (some ⟨W.heap.size, 0, none⟩), .agg #[.int .i64 1, .int .i64 A, .int .i64 B, .string S]] w (StepPost W x (hand ++ [S])) := by
  generalize hA : w.alloc (.cells #[.int .i64 1, .int .i64 A, .int .i64 B, .string S] 81) = A0
  have hB0 : Below w.heap.size w A0 := by rw [← hA]; exact (Below.refl _ w).alloc (Nat.le_refl _) _
  have hb0 : A0.heap[w.heap.size]? = some (.cells #[.int .i64 1, .int .i64 A, .int .i64 B, .string S] 81 (0, 0)) := by rw [← hA]; exact heap_alloc_new w _
  have o0 : A0.cell? ⟨w.heap.size, 0, none⟩ = some (.int .i64 1) := (cell_of_row A0 _ 0 _ _ (0, 0) hb0).trans rfl
  have o3 : A0.cell? ⟨w.heap.size, 3, none⟩ = some (.string S) := (cell_of_row A0 _ 3 _ _ (0, 0) hb0).trans rfl
  have h0 := h.next hB0
  have hP0 := hP.below h0.below
  have c0 : A0.cell? ⟨W.heap.size, 0, none⟩ = some (.pointer (some ⟨x, 0, none⟩)) := (cell_of_row A0 _ 0 _ _ (0, 0) h0.blk).trans rfl
  have c5 : A0.cell? ⟨W.heap.size, 5, none⟩ = some hv := (cell_of_row A0 _ 5 _ _ (0, 0) h0.blk).trans rfl
  have cL := lost_any x d false A0 ((cell_of_row A0 _ 0 _ _ (0, 0) hP0.sess).trans rfl) hP0.dead
  obtain ⟨a1, e1, w1, hr1, hk1, hq1⟩ := h0.more S 43 hn
  have d1 : w1.cell? ⟨W.heap.size, 5, none⟩ = some hv := (cell_of_row w1 _ 5 _ _ (0, 0) hk1).trans rfl
  have f1 : w1.frozen? ⟨W.heap.size, 5, none⟩ = false := frozen_of_row w1 _ _ _ _ hk1
  have hlt := h0.lt
  have c5' : (A0.alloc (.cells #[.string S] 9)).cell? ⟨W.heap.size, 5, none⟩ = some hv := (World.cell?_alloc_past _ _ _ hlt).trans c5
  obtain ⟨ah, ch, eh⟩ := own_form h0.own
  subst eh
  have HR : Hid ((Builtin.append_ #[43, 43] 43 #[.slice ah hand.length ch, .slice (some ⟨A0.heap.size, 0, none⟩) 1 1]).run Tryz.prog (A0.alloc (.cells #[.string S] 9)).drew = .ok (.slice a1 (hand.length + 1) e1) w1) := hr1
  have HQ : Hid (HandAt W (w1.setCell ⟨W.heap.size, 5, none⟩ (.slice a1 (hand.length + 1) e1)) x (.slice a1 (hand.length + 1) e1) (hand ++ [S])) := hq1
  clear hb0 hr1 hq1 hk1 h h0 hP hP0 hB0
  go_enter Tryz.func41, Tryz.ntmps41
  go_wp2_with (first
    | (go_at_call 32; refine cL.mono ?_; rintro e w' ⟨rfl, rfl⟩)
    | go_in)
  go_region_law (refine step_append_eq rfl (.tmp 33) (.tmp 36) 43 rfl _ _ _ _ (by simp [Act.eval]) (by simp [Act.eval]) HR.out ?_)
  all_goals
    go_wp2
    go_ret
    exact ⟨rfl, _, HQ.out⟩

set_option maxRecDepth 100000 in
set_option maxHeartbeats 8000000 in
theorem step_clear (x d s k b : Nat) (W w : World) (hv : Value) (hand : List ByteArray) (A B : Int) (S : ByteArray) (hP : PBase W x d s k b) (h : HandAt W w x hv hand) :
    Calls Tryz.prog 41 #[.pointer (some ⟨W.heap.size, 0, none⟩), .agg #[.int .i64 2, .int .i64 A, .int .i64 B, .string S]] w (StepPost W x []) := by
  generalize hA : w.alloc (.cells #[.int .i64 2, .int .i64 A, .int .i64 B, .string S] 81) = A0
  have hB0 : Below w.heap.size w A0 := by rw [← hA]; exact (Below.refl _ w).alloc (Nat.le_refl _) _
  have hb0 : A0.heap[w.heap.size]? = some (.cells #[.int .i64 2, .int .i64 A, .int .i64 B, .string S] 81 (0, 0)) := by rw [← hA]; exact heap_alloc_new w _
  have o0 : A0.cell? ⟨w.heap.size, 0, none⟩ = some (.int .i64 2) := (cell_of_row A0 _ 0 _ _ (0, 0) hb0).trans rfl
  have h0 := h.next hB0
  have hP0 := hP.below h0.below
  have c0 : A0.cell? ⟨W.heap.size, 0, none⟩ = some (.pointer (some ⟨x, 0, none⟩)) := (cell_of_row A0 _ 0 _ _ (0, 0) h0.blk).trans rfl
  have c5 : A0.cell? ⟨W.heap.size, 5, none⟩ = some hv := (cell_of_row A0 _ 5 _ _ (0, 0) h0.blk).trans rfl
  have f5 : A0.frozen? ⟨W.heap.size, 5, none⟩ = false := frozen_of_row A0 _ _ _ _ h0.blk
  have cL := lost_any x d false A0 ((cell_of_row A0 _ 0 _ _ (0, 0) hP0.sess).trans rfl) hP0.dead
  have HQ : Hid (HandAt W (A0.setCell ⟨W.heap.size, 5, none⟩ (.slice none 0 0)) x (.slice none 0 0) []) :=
    ⟨h0.below.setCell (Nat.le_refl _) _, heap_setCell_same A0 _ 5 _ _ _ h0.blk, World.ownsRow_nil _ _ _ _⟩
  clear hb0 h h0 hP hP0 hB0
  go_enter Tryz.func41, Tryz.ntmps41
  go_wp2_with (first
    | (go_at_call 32; refine cL.mono ?_; rintro e w' ⟨rfl, rfl⟩)
    | go_in)
  go_ret
  exact ⟨rfl, _, HQ.out⟩
end Go.Proofs.YtgnfknjopafngaaGreatDoor
