import Derived.Maps.OwnIn
import Derived.Test.YtgnfknjopafngaaGreatDoorKsac
import Derived.Test.YtgnfknjopafngaaGreatDoorKsan
import Derived.Test.YtgnfknjopafngaaGreatDoorKsab
import Derived.Test.YtgnfknjopafngaaGreatDoorKsam
import Derived.Test.YtgnfknjopafngaaGreatDoorKsx
namespace Go.Proofs.YtgnfknjopafngaaGreatDoor
open Go.RowKit Go.Maps Go.Shelf
attribute [local go_sem] Oper.semAt_some
set_option maxRecDepth 100000 in
set_option maxHeartbeats 4000000 in
theorem texts_do (nb : Nat) (all : List M.Pk) (hn : all.length ≤ 1000000) (hs : ∀ p ∈ all, ReadP p) : TextsDo nb all := by
  intro wx hl
  refine (callsIn_wide (n := 4)).1 ?_
  have hq := each_on nb (4 - 1) all wx hl hn hs (by decide)
  have ha := hl.apart
  rw [M.texts_len]
  obtain ⟨i0, hi0, hz0, hz1, hz2⟩ := info_parts infoStr
  refine callsIn_of_wp_marks Tryz.func119 rfl trivial ?_ rfl
  simp only [Tryz.ntmps119, List.size_toArray, List.length_cons, List.length_nil, Nat.reduceAdd, Nat.reduceSub, Array.replicate_succ, Array.replicate_zero, List.push_toArray, List.append_toArray, List.nil_append, List.cons_append]
  gi_wp2
  refine wpIn_range_on rfl (by decide) (gf := 77) (fr := #[.map (some nb)]) (lb := #[]) rfl trivial (enters_of Tryz.func77 (by kernel_rfl) rfl) hq (fun _ _ => trivial) ((Below.refl _ wx).alloc (Nat.le_refl _) _) (fun _ => rfl)
    (fun k c W => ∃ a cap, Boxed W wx.heap.size 43 (.slice a k cap) ∧ W.ownsRow wx.heap.size 9 1 (.slice a k cap) k (((M.textsS all).map strV).take k) ∧ (∀ j, c j ↔ j = wx.heap.size ∨ (Value.slice a k cap).ownBlock = some j) ∧ Below wx.heap.size wx W)
    ?ia ?ic (fun j => j = wx.heap.size) ?h0
    (fun k => { tmps := #[.map (some nb), undef, .slice none 0 0, .pointer (some ⟨wx.heap.size, 0, none⟩), undef, .string (txAt all k), .map (some nb), .func (.func 77) #[.map (some nb)] #[], .string (nmAt all k), .string (txAt all k), undef, undef, undef, undef, undef], defers := [] }) ?assign ?body ?done
  case ia =>
    rintro k c W1 W2 ⟨a, cap, hbx, hrow, hc, hB⟩ hg
    simp only [World.size_alloc] at hg
    exact ⟨a, cap, (hg.block _ hbx.lt (fun e => by omega)).trans hbx, hg.own hrow (fun g hg' e => e.2 ((hc g).2 (.inr hg'))), hc, Below.chg hB hg (fun j e => by omega) (Nat.le_refl _)⟩
  case ic =>
    rintro k c W1 j ⟨a, cap, hbx, hrow, hc, hB⟩ hj
    rcases (hc j).1 hj with rfl | e
    · exact ⟨Nat.le_refl _, hbx.lt⟩
    · exact hrow.lt j e
  case h0 =>
    exact ⟨none, 0, Boxed.new _ _ _, World.ownsRow_nil _ _ _ _, fun j => ⟨.inl, fun h => h.elim id (fun e => by cases e)⟩, (Below.refl _ wx).alloc (Nat.le_refl _) _⟩
  case assign =>
    intro l k W K hK
    gi_wp2
    exact hK
  case body =>
    rintro l k c W hk ⟨a, cap, hbx, hrow, hc, hB⟩
    have hc0 := hbx.cell
    have HCe : Hid (((M.textsS all).map strV).take (k + 1) = ((M.textsS all).map strV).take k ++ [.string (txAt all k)]) := textV_take ha hk
    have hsz := hB.size
    have hC : Hid (∀ j, c j ↔ j = wx.heap.size ∨ (Value.slice a k cap).ownBlock = some j) := hc
    clear hc
    gi_wp2_with (gi_at_builtin; refine wpListIn_append_own_at _ rfl _ _ 43 rfl wx.heap.size 9 i0 (.string ⟨#[]⟩) 1 16 Tryz.underlying43 hi0 hz0 hz1 hz2 rfl (by decide) _ _ _ rfl (hrow.alloc _) ⟨W.heap.size, 0, none⟩ 1 1 [.string (txAt all k)] rfl rfl (one_new _ _ _) (by intro u hu; simp at hu; subst hu; rfl) (by unfold maxLen; omega) (by omega) (by simp; omega) ?_; intro v' w1 hown' hgrow _ hat; obtain ⟨g', cap', rfl⟩ := ownsRow_succ hown'; obtain ⟨hv1, hv2, hr2, hk2, hb2⟩ := hbx.appended (by decide) hrow hsz (Nat.le_refl _) hown' hgrow; have hc1 := hv1.cell; have hf1 := hv1.frozen)
    refine ⟨fun j => j = wx.heap.size ∨ (Value.slice (some ⟨g', 0, none⟩) (k + 1) cap').ownBlock = some j, ⟨_, _, hv2, by rw [HCe.out]; exact hr2, fun j => Iff.rfl, hB.trans hb2⟩, ?_, ?_⟩
    · exact ((Chg.below ((Below.refl _ W).alloc (Nat.le_refl _) _)).then (Chg.grown (F := fun j => (Value.slice a k cap).ownBlock = some j) hgrow (fun j e _ => e)) (fun j _ e => (hC.out j).2 (.inr e))).then (Chg.grown (F := fun j => j = wx.heap.size) (setCell_grown _ _ _ _) (fun j e _ => (Option.some.inj e).symm)) (fun j _ e => (hC.out j).2 (.inl e))
    · rintro j (rfl | e)
      · exact .inl ((hC.out _).2 (.inl rfl))
      · rcases hat with h | h
        · exact .inl ((hC.out j).2 (.inr (h.symm.trans e)))
        · rw [h] at e
          simp at e
          omega
  case done =>
    rintro D c W hD hcD ⟨a, cap, hbx, hrow, hc, hB⟩ hK
    have hc0 := hbx.cell
    gi_wp2
    refine ⟨by simp, .inl ⟨_, _, rfl, run_takeDeferred hK, ?_⟩⟩
    refine ⟨_, results_tmp rfl _ _ _, a, cap, rfl, ?_, hB.trans (belowK_b (w := wx) (Nat.le_refl _) W D _ _ (by simp at hD; omega) hK rfl rfl)⟩
    have := ownsRow_putObj hrow (.deferred none) hK rfl
    rwa [List.take_of_length_le (by rw [List.length_map, M.texts_len]; exact Nat.le_refl _)] at this
end Go.Proofs.YtgnfknjopafngaaGreatDoor
namespace Go.Proofs.YtgnfknjopafngaaGreatDoor
namespace M
def Few (p : Pk) : Prop := ∀ y ∈ p.needs, y.length ≤ 15
theorem groups_few {l : List (List UInt8)} : ∀ {r : List (List Ch)}, allS groupS l = some r → ∀ g ∈ r, g.length ≤ 15 := by
  induction l with
  | nil => intro r h; simp only [allS, Option.some.injEq] at h; subst h; intro c hc; cases hc
  | cons s l ih =>
    intro r h
    simp only [allS] at h
    split at h
    · cases h
    · rename_i c0 h0
      split at h
      · cases h
      · rename_i r' hr
        cases h
        intro g hg
        rcases List.mem_cons.1 hg with rfl | hg
        · unfold groupS choicesS at h0
          split at h0
          · cases h0
          · split at h0
            · rename_i hl
              cases h0
              omega
            · cases h0
        · exact ih hr g hg
theorem line_few {p q : Pk} {k : Nat} {s : List UInt8} (hp : Few p) (h : lineS p k s = some q) : Few q := by
  unfold lineS at h
  split at h
  · split at h
    · cases h
    · cases h
      exact hp
  · split at h
    · split at h
      · cases h
      · rename_i l hl
        split at h
        · cases h
          exact groups_few hl
        · cases h
    · split at h
      · split at h
        · cases h
        · cases h
          exact hp
      · split at h
        · split at h
          · cases h
          · split at h
            · cases h
              exact hp
            · cases h
        · cases h
theorem lines_few : ∀ {l : List (List UInt8)} {k : Nat} {p q : Pk}, Few p → linesS l k p = .inr q → Few q
  | [], k, p, q, hp, h => by simp only [linesS, Sum.inr.injEq] at h; subst h; exact hp
  | s :: l, k, p, q, hp, h => by
    simp only [linesS] at h
    split at h
    · cases h
    · rename_i p' hp'
      exact lines_few (line_few hp hp') h
theorem read_few {s : List UInt8} {p : Pk} (h : readS s = .inr p) : Few p := by
  unfold readS at h
  split at h
  · cases h
  · split at h
    · cases h
    · rename_i q e
      cases h
      have h0 : Few emptyPk := fun y hy => by cases hy
      have hq : Few q := lines_few h0 e
      exact hq
theorem Back.few {p : Pk} (h : Back p) : Few p := read_few h
end M
end Go.Proofs.YtgnfknjopafngaaGreatDoor
namespace Go.Proofs.YtgnfknjopafngaaGreatDoor
open Go.RowKit Go.Maps
theorem readAll_kind : ∀ (ts : List (List UInt8)) (i : Nat) (acc : List M.Pk) (f : M.Fa), M.readAllS ts i acc = .inl f → f.kind = 1
  | [], i, acc, f, h => by simp [M.readAllS] at h
  | t :: ts, i, acc, f, h => by
    simp only [M.readAllS] at h
    cases hr : M.readS t with
    | inl n => rw [hr] at h; cases h; rfl
    | inr p => rw [hr] at h; exact readAll_kind ts _ _ f h
theorem addAll_kind : ∀ (ps : List M.Pk) (i : Nat) (all : List M.Pk) (f : M.Fa), M.addAllS ps i all = .inl f → f.kind = 2
  | [], i, acc, f, h => by simp [M.addAllS] at h
  | p :: ps, i, acc, f, h => by
    simp only [M.addAllS] at h
    by_cases hp : 0 ≤ M.findS acc p.name
    · rw [if_pos hp] at h; cases h; rfl
    · rw [if_neg hp] at h; exact addAll_kind ps _ _ f h
theorem checked_kind {there fresh all : List M.Pk} {f : M.Fa} (h : M.checkedS there fresh all = .inl f) : 1 ≤ f.kind ∧ f.kind ≤ 8 := by
  unfold M.checkedS at h
  split at h
  · cases h; exact ⟨by simp, by simp⟩
  · split at h
    · cases h; exact ⟨by simp, by simp⟩
    · split at h
      · cases h; exact ⟨by simp, by simp⟩
      · split at h
        · cases h; exact ⟨by simp, by simp⟩
        · cases h
theorem planned_kinds {there : List M.Pk} {T : List (List UInt8)} {f : M.Fa} (h : M.plannedS there T = .inl f) : 1 ≤ f.kind ∧ f.kind ≤ 8 := by
  unfold M.plannedS at h
  cases hr : M.readAllS T 0 [] with
  | inl g =>
    rw [hr] at h
    cases h
    have := readAll_kind _ _ _ _ hr
    omega
  | inr l =>
    rw [hr] at h
    simp only at h
    cases ha : M.addAllS l 0 there with
    | inl g =>
      rw [ha] at h
      cases h
      have := addAll_kind _ _ _ _ ha
      omega
    | inr all =>
      rw [ha] at h
      exact checked_kind h
set_option maxRecDepth 100000 in
set_option maxHeartbeats 4000000 in
theorem sPlan_any (s k b : Nat) (there : List M.Pk) (xv : Value) (texts : List ByteArray) (w : World) (hR : Ready w) (hs : StoreAt w s k b) (hl : SetIn w b there) (hx : TxtsIn w xv texts) (hxn : texts.length ≤ 10000) (hxs : ∀ t ∈ texts, t.size ≤ 8192) (htn : there.length ≤ 20000) (hts : ∀ p ∈ there, ReadP p) :
    Calls Tryz.prog 50 #[.pointer (some ⟨s, 0, none⟩), xv] w (NamesPost (M.plannedS there (texts.map fun t => t.data.toList)) w) := by
  have cA := plans_any b there xv texts w hR.2 hR.1 hl hx hxn hxs htn hts
  generalize M.plannedS there (texts.map fun t => t.data.toList) = R at cA ⊢
  have q1 : w.cell? ⟨s, 1, none⟩ = some (.map (some b)) := (cell_of_row w _ 1 _ _ (0, 0) hs).trans rfl
  clear hR hl hx hxs hts hs
  go_enter Tryz.func50, Tryz.ntmps50
  go_wp2_with fail
  refine cA.mono ?_
  rintro e w2 ⟨hB2, hm⟩
  clear cA
  cases R with
  | inl f =>
    obtain ⟨ev, rfl, fb, rfl, hF⟩ := hm
    have HF : Hid (ErrIs f w2 (.iface 112 (.pointer (some ⟨fb, 0, none⟩)))) := ⟨fb, rfl, hF⟩
    clear hF
    go_wp2
    refine bodyPost_ret (v := .tuple #[.slice none 0 0, .iface 112 (.pointer (some ⟨fb, 0, none⟩))]) (by simp [results, Tryz.results50, go_sem]) rfl ⟨hB2, ?_⟩
    exact ⟨_, rfl, HF.out⟩
  | inr q =>
    obtain ⟨all, l⟩ := q
    obtain ⟨v, rfl, hv⟩ := hm
    have HV : Hid (w2.ownsRow w.heap.size 9 1 v l.length (nmCells l)) := hv
    obtain ⟨av, cv, ev⟩ := own_form hv
    subst ev
    clear hv
    go_wp2
    refine bodyPost_ret (v := .tuple #[.slice av l.length cv, .nilIface]) (by simp [results, Tryz.results50, go_sem]) rfl ⟨hB2, ?_⟩
    exact ⟨_, rfl, HV.out⟩
def PlainPost (R : Sum M.Fa (List M.Pk × List (List UInt8))) (w : World) (e : Ending) (w' : World) : Prop :=
  Below w.heap.size w w' ∧ match R with
    | .inl f => e = .returned (.tuple #[.slice none 0 0, faV f])
    | .inr (_, names) => ∃ v, e = .returned (.tuple #[v, faV M.okFa]) ∧ StrsIn w' v (names.map fun n => (⟨n.toArray⟩ : ByteArray))
theorem own_strs {w : World} {base : Nat} {v : Value} {l : List (List UInt8)} (h : w.ownsRow base 9 1 v l.length (nmCells l)) : StrsIn w v (l.map fun n => (⟨n.toArray⟩ : ByteArray)) := by
  have h1 := RowIn.own h
  rw [nm_strs] at h1
  unfold StrsIn
  rw [List.length_map]
  exact h1.wide (Nat.zero_le _) (Nat.le_refl _)
set_option maxRecDepth 100000 in
set_option maxHeartbeats 8000000 in
theorem xPlan_any (x d s k b : Nat) (there : List M.Pk) (xv : Value) (texts : List ByteArray) (w : World) (hR : Ready w) (hx0 : SessAt w x d (.pointer (some ⟨s, 0, none⟩))) (hs : StoreAt w s k b) (hl : SetIn w b there) (hx : TxtsIn w xv texts) (hxn : texts.length ≤ 10000) (hxs : ∀ t ∈ texts, t.size ≤ 8192) (htn : there.length ≤ 20000) (hts : ∀ p ∈ there, ReadP p) :
    Calls Tryz.prog 26 #[.pointer (some ⟨x, 0, none⟩), xv] w (PlainPost (M.plannedS there (texts.map fun t => t.data.toList)) w) := by
  have hB0 : Below w.heap.size w (w.alloc (.cells #[.int .i64 0, .int .i64 0, .int .i64 0, .string ⟨#[]⟩] 23)) := (Below.refl _ w).alloc (Nat.le_refl _) _
  generalize hA : w.alloc (.cells #[.int .i64 0, .int .i64 0, .int .i64 0, .string ⟨#[]⟩] 23) = A at hB0
  have hr : A.heap[w.heap.size]? = some (.cells okC 23 (0, 0)) := by rw [← hA]; exact heap_alloc_new w _
  have hAs : w.heap.size < A.heap.size := (Array.getElem?_eq_some_iff.1 hr).1
  have hsl : s < w.heap.size := (Array.getElem?_eq_some_iff.1 hs).1
  have hxl : x < w.heap.size := (Array.getElem?_eq_some_iff.1 hx0).1
  have q1 : A.cell? ⟨x, 1, none⟩ = some (.pointer (some ⟨s, 0, none⟩)) := (hB0.cell (p := ⟨x, 1, none⟩) hxl).trans ((cell_of_row w _ 1 _ _ (0, 0) hx0).trans rfl)
  obtain ⟨ax, cx, ex⟩ := hx.form
  subst ex
  have cA := sPlan_any s k b there _ texts A (hR.below hB0) ((hB0.block s hsl).trans hs) (hl.below hB0) (hx.below hB0) hxn hxs htn hts
  have HK : Hid (∀ f, M.plannedS there (texts.map fun t => t.data.toList) = .inl f → 1 ≤ f.kind ∧ f.kind ≤ 8) := fun f h => planned_kinds h
  generalize M.plannedS there (texts.map fun t => t.data.toList) = R at cA HK ⊢
  have HE : Hid (ErrLaid A) := (hR.below hB0).1
  have HRr : Hid (A.heap[w.heap.size]? = some (.cells okC 23 (0, 0))) := hr
  clear hR hl hx hxs hts hs hx0 hr
  go_enter Tryz.func26, Tryz.ntmps26
  go_wp2_with fail
  refine cA.mono ?_
  rintro e w1 ⟨hB1, hm⟩
  clear cA q1
  have hB2 : Below w.heap.size w w1 := bt hB0 hB1
  cases R with
  | inl f =>
    obtain ⟨ev, rfl, fb, rfl, hF⟩ := hm
    obtain ⟨f1, f2⟩ := HK.out f rfl
    have cP := parts_fault w1 fb f.kind f.which f.line ⟨f.name.toArray⟩ (HE.out.below hB1) hF f1 f2
    obtain ⟨fk, fw, fl, fn⟩ := f
    generalize hN : (⟨fn.toArray⟩ : ByteArray) = N at cP
    have HN : Hid ((⟨fn.toArray⟩ : ByteArray) = N) := hN
    simp only at cP
    clear hF HK f1 f2 hN
    go_wp2_with fail
    refine cP.mono ?_
    rintro e w2 ⟨rfl, hB3⟩
    clear cP
    go_wp2
    generalize hW4 : w2.alloc (.cells #[Value.int .i64 fk, .int .i64 fw, .int .i64 fl, .string N] 23) = w4
    have hB4 : Below w1.heap.size w1 w4 := by rw [← hW4]; exact hB3.alloc hB3.size _
    have hr4 : w4.heap[w.heap.size]? = some (.cells okC 23 (0, 0)) := (hB4.block _ (Nat.lt_of_lt_of_le hAs hB1.size)).trans ((hB1.block _ hAs).trans HRr.out)
    obtain ⟨z0, z1, z2, z3, zf⟩ := okC_cell hr4
    have hy : ∀ o u, [Value.int .i64 fk, .int .i64 fw, .int .i64 fl, .string N][o]? = some u → w4.cell? ⟨w2.heap.size, o, none⟩ = some u := fun o u hu => by rw [← hW4]; exact new_at w2 _ _ o u hu
    have y0 := hy 0 _ rfl
    have y1 := hy 1 _ rfl
    have y2 := hy 2 _ rfl
    have y3 := hy 3 _ rfl
    have HB4 : Hid (Below w.heap.size w w4) := bt hB2 hB4
    clear hy hW4 hB4 hB3 hB1 hB0 hr4
    go_region
    go_wp2
    refine bodyPost_ret (v := .tuple #[.slice none 0 0, .agg #[.int .i64 fk, .int .i64 fw, .int .i64 fl, .string N]]) (by simp [results, Tryz.results26, go_sem, z0, z1, z2, z3]) rfl ⟨?_, ?_⟩
    · exact ((((HB4.out.setCell (Nat.le_refl _) _).setCell (Nat.le_refl _) _).setCell (Nat.le_refl _) _).setCell (Nat.le_refl _) _).drew
    · show _ = _
      unfold faV
      rw [HN.out]
  | inr q =>
    obtain ⟨all, l⟩ := q
    obtain ⟨v, rfl, hv⟩ := hm
    have HV : Hid (w1.ownsRow A.heap.size 9 1 v l.length (nmCells l)) := hv
    obtain ⟨av, cv, ev⟩ := own_form hv
    subst ev
    have cP := parts_nil w1
    clear hv HK
    go_wp2_with fail
    refine cP.mono ?_
    rintro e w2 ⟨rfl, hB3⟩
    clear cP
    go_wp2
    generalize hW4 : w2.alloc (.cells #[Value.int .i64 0, .int .i64 0, .int .i64 0, .string ⟨#[]⟩] 23) = w4
    have hB4 : Below w1.heap.size w1 w4 := by rw [← hW4]; exact hB3.alloc hB3.size _
    have hr4 : w4.heap[w.heap.size]? = some (.cells okC 23 (0, 0)) := (hB4.block _ (Nat.lt_of_lt_of_le hAs hB1.size)).trans ((hB1.block _ hAs).trans HRr.out)
    obtain ⟨z0, z1, z2, z3, zf⟩ := okC_cell hr4
    have hy : ∀ o u, [Value.int .i64 0, .int .i64 0, .int .i64 0, .string ⟨#[]⟩][o]? = some u → w4.cell? ⟨w2.heap.size, o, none⟩ = some u := fun o u hu => by rw [← hW4]; exact new_at w2 _ _ o u hu
    have y0 := hy 0 _ rfl
    have y1 := hy 1 _ rfl
    have y2 := hy 2 _ rfl
    have y3 := hy 3 _ rfl
    have HB4 : Hid (Below w.heap.size w w4) := bt hB2 hB4
    have HV4 : Hid (w4.ownsRow A.heap.size 9 1 (.slice av l.length cv) l.length (nmCells l)) := own_below HV.out hB4
    clear hy hW4 hB4 hB3 hB1 hB0 hr4
    go_region
    go_wp2
    refine bodyPost_ret (v := .tuple #[.slice av l.length cv, .agg #[.int .i64 0, .int .i64 0, .int .i64 0, .string ⟨#[]⟩]]) (by simp [results, Tryz.results26, go_sem, z0, z1, z2, z3]) rfl ⟨?_, _, rfl, ?_⟩
    · exact ((((HB4.out.setCell (Nat.le_refl _) _).setCell (Nat.le_refl _) _).setCell (Nat.le_refl _) _).setCell (Nat.le_refl _) _).drew
    · have h9 := ownsRow_setCell_below (ownsRow_setCell_below (ownsRow_setCell_below (ownsRow_setCell_below HV4.out (a := ⟨w.heap.size, 0, none⟩) hAs (.int .i64 0)) (a := ⟨w.heap.size, 1, none⟩) hAs (.int .i64 0)) (a := ⟨w.heap.size, 2, none⟩) hAs (.int .i64 0)) (a := ⟨w.heap.size, 3, none⟩) hAs (.string ⟨#[]⟩)
      exact own_strs (own_below h9 (below_same _ 1))
end Go.Proofs.YtgnfknjopafngaaGreatDoor
namespace Go.Proofs.YtgnfknjopafngaaGreatDoor
open Go.RowKit Go.Maps
structure SessIs (W : World) (x d s k b half n : Nat) (hv sv lv : Value) (D : M.Dk) (l : List M.Pk) : Prop where
  ready : Ready W
  sess : SessAt W x d (.pointer (some ⟨s, 0, none⟩))
  store : StoreAt W s k b
  known : KnownAt W k d half
  disk : DiskIs W d hv sv lv D
  set : SetIn W b l
  n1 : 16 ≤ n
  n2 : n ≤ 256
  ho : half ≤ 1
  rest : M.Rest D n half (M.packed l)
  left : D.left ≤ 9223372036854775807
  tog : M.Tog l
  room : (M.sizeS l : Int) ≤ 24 * ((n : Int) - 8)
  high : ∀ j, (j = x ∨ j = s ∨ j = k ∨ dFoot d hv sv lv j) → 1 < j
def xFoot (x d s k : Nat) (hv sv lv : Value) (j : Nat) : Prop := j = x ∨ j = s ∨ j = k ∨ dFoot d hv sv lv j
theorem ReadP.of {p : M.Pk} (h : M.Back p) : ReadP p := readP h
theorem SessIs.reads {W : World} {x d s k b half n : Nat} {hv sv lv : Value} {D : M.Dk} {l : List M.Pk} (h : SessIs W x d s k b half n hv sv lv D l) : ∀ p ∈ l, ReadP p := fun p hp => ReadP.of (h.tog.back p hp)
theorem SessIs.size {W : World} {x d s k b half n : Nat} {hv sv lv : Value} {D : M.Dk} {l : List M.Pk} (h : SessIs W x d s k b half n hv sv lv D l) : M.sizeS l ≤ 5952 ∧ l.length ≤ 600 := by
  have h1 := h.room
  have h2 := h.n2
  have h3 := M.size_long h.tog.back
  omega
theorem SessIs.below {W W' : World} {x d s k b half n : Nat} {hv sv lv : Value} {D : M.Dk} {l : List M.Pk} (h : SessIs W x d s k b half n hv sv lv D l) (hb : Below W.heap.size W W') : SessIs W' x d s k b half n hv sv lv D l :=
  ⟨h.ready.below hb, (hb.block x (Array.getElem?_eq_some_iff.1 h.sess).1).trans h.sess, (hb.block s (Array.getElem?_eq_some_iff.1 h.store).1).trans h.store, KnownAt.below h.known hb, h.disk.below hb, h.set.below hb, h.n1, h.n2, h.ho, h.rest, h.left, h.tog, h.room, h.high⟩
theorem SessIs.secs {W : World} {x d s k b half n : Nat} {hv sv lv : Value} {D : M.Dk} {l : List M.Pk} (h : SessIs W x d s k b half n hv sv lv D l) : D.seen.length = n ∧ D.held.length = n := by
  have h1 := h.rest.lies.len
  have h2 := h.rest.same
  exact ⟨h1, by rw [h2]; exact h1⟩
theorem ty_ne {w : World} {a b : Nat} {c c' : Array Value} {t t' : TypeId} {f f' : Nat × Nat} (h : w.heap[a]? = some (.cells c t f)) (h' : w.heap[b]? = some (.cells c' t' f')) (ht : t ≠ t') : a ≠ b := by
  rintro rfl
  rw [h] at h'
  cases h'
  exact ht rfl
theorem DiskIs.ty {w : World} {d : Nat} {hv sv lv : Value} {D : M.Dk} (h : DiskIs w d hv sv lv D) {j : Nat} (hj : dFoot d hv sv lv j) : ∃ c t, w.heap[j]? = some (.cells c t (0, 0)) ∧ (t = 103 ∨ t = 131 ∨ t = 146) := by
  rcases hj with rfl | e | e | e
  · exact ⟨_, _, h.blk, .inl rfl⟩
  · obtain ⟨c, hc⟩ := h.held.type j e; exact ⟨_, _, hc, .inr (.inl rfl)⟩
  · obtain ⟨c, hc⟩ := h.seen.type j e; exact ⟨_, _, hc, .inr (.inl rfl)⟩
  · obtain ⟨c, hc⟩ := h.late.type j e; exact ⟨_, _, hc, .inr (.inr rfl)⟩
theorem DiskIs.off {w : World} {d : Nat} {hv sv lv : Value} {D : M.Dk} (h : DiskIs w d hv sv lv D) {j : Nat} {c : Array Value} {t : TypeId} {f : Nat × Nat} (hj : w.heap[j]? = some (.cells c t f)) (h1 : t ≠ 103) (h2 : t ≠ 131) (h3 : t ≠ 146) : ¬ dFoot d hv sv lv j := fun e => by
  obtain ⟨c', t', e', ht⟩ := h.ty e
  rw [hj] at e'
  cases e'
  rcases ht with rfl | rfl | rfl
  · exact h1 rfl
  · exact h2 rfl
  · exact h3 rfl
theorem SessIs.noText {W : World} {x d s k b half n : Nat} {hv sv lv : Value} {D : M.Dk} {l : List M.Pk} (h : SessIs W x d s k b half n hv sv lv D l) : NoText (xFoot x d s k hv sv lv) W := by
  obtain ⟨h1, h2⟩ := h.secs
  rintro j (rfl | rfl | rfl | e)
  · exact NoText.one h.sess (fun s e => by cases e) (fun a n p e => by cases e) (by decide) _ rfl
  · exact NoText.one h.store (fun s e => by cases e) (fun a n p e => by cases e) (by decide) _ rfl
  · exact NoText.one h.known (fun s e => by cases e) (fun a n p e => by cases e) (by decide) _ rfl
  · exact h.disk.noText (by have := h.n1; omega) (by have := h.n1; omega) j e
def TurnTo (w : World) (x d s k half n : Nat) (hv sv lv : Value) (D : M.Dk) (all : List M.Pk) (w' : World) : Prop :=
  ∃ nb lv', Ready w' ∧ SessAt w' x d (.pointer (some ⟨s, 0, none⟩)) ∧ StoreAt w' s k nb ∧ KnownAt w' k d (1 - half) ∧ SetIn w' nb all ∧ DiskIs w' d hv sv lv' (D.save n (1 - half) (M.packed all)) ∧ Chg (fun j => j = s ∨ j = k ∨ dFoot d hv sv lv j) w w' ∧ (∀ j, lv'.ownBlock = some j → lv.ownBlock = some j ∨ w.heap.size ≤ j)
theorem noU8_one {w : World} {j : Nat} {c : Array Value} {t : TypeId} {f : Nat × Nat} (h : w.heap[j]? = some (.cells c t f)) (ht : t ≠ 5) : NoU8 (fun i => i = j) w := by
  rintro i rfl cur fz e
  rw [h] at e
  cases e
  exact ht rfl
theorem change_post {A : World} {x d s k b half n : Nat} {hv sv lv : Value} {D : M.Dk} {l all : List M.Pk} (h : SessIs A x d s k b half n hv sv lv D l) (ht : M.Tog all) (hr : (M.sizeS all : Int) ≤ 24 * ((n : Int) - 8)) {nb : Nat} {wx : World} (hb : Below A.heap.size A wx) (hs : SetIn wx nb all) :
    Calls Tryz.prog 75 #[.pointer (some ⟨s, 0, none⟩), .map (some nb), .nilIface] wx fun e w' => e = .returned .nilIface ∧ TurnTo A x d s k half n hv sv lv D all w' := by
  have hx := h.below hb
  have hrd : ∀ p ∈ all, ReadP p := fun p hp => ReadP.of (ht.back p hp)
  have hlen : all.length ≤ 1000 := by have := M.size_long ht.back; have := h.n2; omega
  obtain ⟨hf1, hf2⟩ := M.packed_fits ht.back ht.apart h.n1 h.n2 hr
  have hoffS := hx.disk.off hx.store (by decide) (by decide) (by decide)
  have hoffX := hx.disk.off hx.sess (by decide) (by decide) (by decide)
  have hsk : s ≠ k := ty_ne hx.store hx.known (by decide)
  have hxs : x ≠ s := ty_ne hx.sess hx.store (by decide)
  have hxk : x ≠ k := ty_ne hx.sess hx.known (by decide)
  refine (change_any s k b nb d half n hv sv lv D all wx (texts_do nb all (by omega) hrd) hx.store hx.known hx.disk (h.rest.sane h.left) h.n1 h.n2 h.ho hs hlen hf1 hf2 hoffS).mono ?_
  rintro e w' ⟨rfl, W, hBW, W', hst, hgS, hkn, lv', hdk, hchg, hlv⟩
  have hcS : Chg (fun j => j = s) W' w' := Chg.grown hgS (fun j e _ => (Option.some.inj e).symm)
  have hsW : W'.heap[s]? = some (.cells #[.pointer (some ⟨k, 0, none⟩), .map (some b)] 140 (0, 0)) := (hchg.block s (Nat.lt_of_lt_of_le (Array.getElem?_eq_some_iff.1 hx.store).1 hBW.size) (fun e => e.elim hsk hoffS)).trans ((hBW.block s (Array.getElem?_eq_some_iff.1 hx.store).1).trans hx.store)
  have hF : Chg (fun j => j = s ∨ j = k ∨ dFoot d hv sv lv j) wx w' := ((Chg.below hBW).then hchg (fun j _ e => .inr e)).then hcS (fun j _ e => .inl e)
  have hnt : NoText (fun j => j = s ∨ j = k ∨ dFoot d hv sv lv j) wx := fun j e => hx.noText j (.inr e)
  refine ⟨rfl, nb, lv', ?_, ?_, hst, ?_, ?_, ?_, ?_, ?_⟩
  · exact hx.ready.chg hF (fun j e => h.high j (.inr e))
  · exact hx.sess.chg hF (fun e => e.elim hxs (fun e => e.elim hxk hoffX))
  · exact (hcS.block k (Array.getElem?_eq_some_iff.1 hkn).1 (fun e => hsk e.symm)).trans hkn
  · exact hs.chg hF hnt (fun p hp => (ht.back p hp).few)
  · exact hdk.chg hcS (noU8_one hsW (by decide)) (fun j hj e => by subst e; exact hdk.off hsW (by decide) (by decide) (by decide) hj)
  · exact (Chg.below hb).then hF (fun j _ e => e)
  · intro j hj
    rcases hlv j hj with e | e
    · exact .inl e
    · exact .inr (by have := hb.size; have := hBW.size; omega)
def TurnPost (R : Sum M.Fa (List M.Pk)) (w : World) (x d s k half n : Nat) (hv sv lv : Value) (D : M.Dk) (e : Ending) (w' : World) : Prop := match R with
  | .inl f => e = .returned (faV f) ∧ Below w.heap.size w w'
  | .inr all => e = .returned okV ∧ TurnTo w x d s k half n hv sv lv D all w'
theorem turn_post {w : World} {x d s k b half n : Nat} {hv sv lv : Value} {D : M.Dk} {l : List M.Pk} (h : SessIs w x d s k b half n hv sv lv D l) (R : Sum M.Fa (List M.Pk)) (ht : ∀ all, R = .inr all → M.Tog all) {A : World} (hA : A = w.alloc (.cells okC 23)) {e : Ending} {w' : World}
    (hp : TurnedPost R (fun all e W => e = .returned .nilIface ∧ TurnTo A x d s k half n hv sv lv D all W ∧ W.heap[w.heap.size]? = some (.cells okC 23 (0, 0))) w e w') : TurnPost R w x d s k half n hv sv lv D e w' := by
  cases R with
  | inl f => exact hp
  | inr all =>
    obtain ⟨rfl, W, ⟨-, ⟨nb, lv', h1, h2, h3, h4, h5, h6, h7, h8⟩, hr⟩, hc⟩ := hp
    have hB : Below w.heap.size w A := by rw [hA]; exact (Below.refl _ w).alloc (Nat.le_refl _) _
    have hAs : A.heap.size = w.heap.size + 1 := by rw [hA]; simp
    have nt : NoText (fun i => i = w.heap.size) W := NoText.one hr (fun s e => by cases e) (fun a n p e => by cases e)
    have hW := h7.size
    have hne : ∀ {j : Nat} {c : Array Value} {t : TypeId} {f : Nat × Nat}, W.heap[j]? = some (.cells c t f) → t ≠ 23 → j ≠ w.heap.size := fun hj hn => ty_ne hj hr hn
    refine ⟨rfl, nb, lv', ?_, ?_, ?_, ?_, ?_, ?_, ?_, ?_⟩
    · refine h1.chg hc (fun j e => ?_)
      subst e
      have := h.high x (.inl rfl)
      have := (Array.getElem?_eq_some_iff.1 h.sess).1
      omega
    · exact h2.chg hc (fun e => hne h2 (by decide) e)
    · exact (hc.block s (Array.getElem?_eq_some_iff.1 h3).1 (fun e => hne h3 (by decide) e)).trans h3
    · exact (hc.block k (Array.getElem?_eq_some_iff.1 h4).1 (fun e => hne h4 (by decide) e)).trans h4
    · exact h5.chg hc nt (fun p hp => ((ht all rfl).back p hp).few)
    · exact h6.chg hc (noU8_one hr (by decide)) (fun j hj e => by subst e; exact h6.off hr (by decide) (by decide) (by decide) hj)
    · exact ((Chg.below hB).then h7 (fun j _ e => e)).then hc (fun j hj e => by omega)
    · intro j hj
      rcases h8 j hj with e | e
      · exact .inl e
      · exact .inr (by omega)
theorem post_ok {w A : World} {x d s k b half n : Nat} {hv sv lv : Value} {D : M.Dk} {l all : List M.Pk} (h : SessIs A x d s k b half n hv sv lv D l) (hA : A = w.alloc (.cells okC 23)) {W : World} (ht : TurnTo A x d s k half n hv sv lv D all W) : W.heap[w.heap.size]? = some (.cells okC 23 (0, 0)) := by
  obtain ⟨nb, lv', h1, h2, h3, h4, h5, h6, h7, h8⟩ := ht
  have hr : A.heap[w.heap.size]? = some (.cells okC 23 (0, 0)) := by rw [hA]; exact heap_alloc_new w _
  refine (h7.block _ (Array.getElem?_eq_some_iff.1 hr).1 (fun e => ?_)).trans hr
  rcases e with e | e | e
  · exact ty_ne hr h.store (by decide) e
  · exact ty_ne hr h.known (by decide) e
  · exact h.disk.off hr (by decide) (by decide) (by decide) e
theorem inst_kind {there : List M.Pk} {texts : List (List UInt8)} {room : Int} {f : M.Fa} (h : M.installedS there texts room = .inl f) : 1 ≤ f.kind ∧ f.kind ≤ 8 := by
  unfold M.installedS at h
  split at h
  · rename_i g hg
    cases h
    exact planned_kinds hg
  · split at h
    · cases h; decide
    · cases h
theorem sess_install {w : World} {x d s k b half n : Nat} {hv sv lv : Value} {D : M.Dk} {l : List M.Pk} (h : SessIs w x d s k b half n hv sv lv D l) (xv : Value) (texts : List ByteArray) (hx : TxtsIn w xv texts) (hxn : texts.length ≤ 10000) (hxs : ∀ t ∈ texts, t.size ≤ 8192) :
    Calls Tryz.prog 21 #[.pointer (some ⟨x, 0, none⟩), xv] w (TurnPost (M.installedS l (texts.map fun t => t.data.toList) (24 * ((n : Int) - 8))) w x d s k half n hv sv lv D) := by
  obtain ⟨a, c, exv⟩ := hx.form
  obtain ⟨z1, z2⟩ := h.size
  have hok : ∀ all, M.installedS l (texts.map fun t => t.data.toList) (24 * ((n : Int) - 8)) = .inr all → M.Tog all ∧ (M.sizeS all : Int) ≤ 24 * ((n : Int) - 8) := fun all e => by
    obtain ⟨_, _, _, _, _, q1, _, q2⟩ := M.installed_ok e h.tog.back h.tog.apart
    exact ⟨q1, q2⟩
  refine (xInstall_any x d s xv a texts.length c exv (M.installedS l (texts.map fun t => t.data.toList) (24 * ((n : Int) - 8))) (fun all e W => e = .returned .nilIface ∧ TurnTo (w.alloc (.cells okC 23)) x d s k half n hv sv lv D all W ∧ W.heap[w.heap.size]? = some (.cells okC 23 (0, 0))) w h.ready h.sess (fun f e => inst_kind e) ?_ (fun all e W hp => ⟨hp.1, hp.2.2⟩)).mono (fun e w' hp => turn_post h _ (fun all e => (hok all e).1) rfl hp)
  rintro A rfl
  have hB : Below w.heap.size w (w.alloc (.cells okC 23)) := (Below.refl _ w).alloc (Nat.le_refl _) _
  have hA := h.below hB
  refine sInstall_any s k b d half n l xv texts _ _ hA.ready hA.store hA.known ?_ h.n1 h.n2 hA.set (hx.below hB) hxn hxs (by omega) h.reads ?_
  · have := hA.disk.secsOf (by rw [hA.secs.1]; have := h.n1; omega)
    rwa [hA.secs.1] at this
  · intro all nb wx he hb hs
    obtain ⟨k1, k2⟩ := hok all he
    exact (change_post hA k1 k2 hb hs).mono (fun e w' hp => ⟨⟨_, hp.1⟩, hp.1, hp.2, post_ok hA rfl hp.2⟩)
theorem drop_kind : ∀ (ns : List (List UInt8)) (i : Nat) (l : List M.Pk) (f : M.Fa), M.dropAllS ns i l = .inl f → f.kind = 3
  | [], i, l, f, h => by cases h
  | x :: ns, i, l, f, h => by
    unfold M.dropAllS at h
    split at h
    · cases h; rfl
    · exact drop_kind ns _ _ f h
theorem rem_kind {there : List M.Pk} {names : List (List UInt8)} {f : M.Fa} (h : M.removedS there names = .inl f) : 1 ≤ f.kind ∧ f.kind ≤ 8 := by
  unfold M.removedS at h
  split at h
  · rename_i g hg
    cases h
    have := drop_kind _ _ _ _ hg
    omega
  · split at h
    · cases h; exact ⟨by show 1 ≤ 4; omega, by show 4 ≤ 8; omega⟩
    · cases h
theorem sess_remove {w : World} {x d s k b half n : Nat} {hv sv lv : Value} {D : M.Dk} {l : List M.Pk} (h : SessIs w x d s k b half n hv sv lv D l) (xv : Value) (names : List ByteArray) (hx : TxtsIn w xv names) (hxn : names.length ≤ 10000) (hxs : ∀ t ∈ names, t.size ≤ 8192) :
    Calls Tryz.prog 24 #[.pointer (some ⟨x, 0, none⟩), xv] w (TurnPost (M.removedS l (names.map fun t => t.data.toList)) w x d s k half n hv sv lv D) := by
  obtain ⟨a, c, exv⟩ := hx.form
  obtain ⟨z1, z2⟩ := h.size
  have hok : ∀ all, M.removedS l (names.map fun t => t.data.toList) = .inr all → M.Tog all ∧ (M.sizeS all : Int) ≤ 24 * ((n : Int) - 8) := fun all e => by
    obtain ⟨q1, _, q2⟩ := M.removed_ok e h.tog
    exact ⟨q1, by have := h.room; omega⟩
  refine (xRemove_any x d s xv a names.length c exv (M.removedS l (names.map fun t => t.data.toList)) (fun all e W => e = .returned .nilIface ∧ TurnTo (w.alloc (.cells okC 23)) x d s k half n hv sv lv D all W ∧ W.heap[w.heap.size]? = some (.cells okC 23 (0, 0))) w h.ready h.sess (fun f e => rem_kind e) ?_ (fun all e W hp => ⟨hp.1, hp.2.2⟩)).mono (fun e w' hp => turn_post h _ (fun all e => (hok all e).1) rfl hp)
  rintro A rfl
  have hB : Below w.heap.size w (w.alloc (.cells okC 23)) := (Below.refl _ w).alloc (Nat.le_refl _) _
  have hA := h.below hB
  refine sRemove_any s k b l xv names _ _ hA.store hA.set (hx.below hB) hxn hxs (by omega) h.reads ?_
  intro all nb wx he hb hs
  obtain ⟨k1, k2⟩ := hok all he
  exact (change_post hA k1 k2 hb hs).mono (fun e w' hp => ⟨⟨_, hp.1⟩, hp.1, hp.2, post_ok hA rfl hp.2⟩)
end Go.Proofs.YtgnfknjopafngaaGreatDoor
namespace Go.Proofs.YtgnfknjopafngaaGreatDoor
open Go.RowKit Go.Maps
theorem Ready.lt {w : World} (h : Ready w) : 1 < w.heap.size := by
  obtain ⟨_, m, h2⟩ := h
  exact World.block_lt_of_cell? _ _ h2
theorem rest_empty {n : Nat} (h : 16 ≤ n) : M.Rest (emptyD n) n 0 (M.packed []) := ⟨rfl, rfl, rfl, M.lies_empty n h⟩
theorem sess_new (n : Int) (w : World) (hR : Ready w) : Calls Tryz.prog 20 #[.int .i64 n] w fun e w' => ∃ x d s k b hv sv, e = .returned (.tuple #[.pointer (some ⟨x, 0, none⟩), okV]) ∧ SessIs w' x d s k b 0 (sectorsN n) hv sv (.slice none 0 0) (emptyD (sectorsN n)) [] ∧ (∀ j, xFoot x d s k hv sv (.slice none 0 0) j → w.heap.size ≤ j) ∧ Below w.heap.size w w' := by
  obtain ⟨m1, m2⟩ := sectorsN_le n
  have hlt := hR.lt
  refine (new_full n w hR).mono ?_
  rintro e w' ⟨x, d, s, k, b, hv, sv, rfl, h1, h2, h3, h4, h5, g1, g2, g3, g4, hB⟩
  have hft : ∀ j, xFoot x d s k hv sv (.slice none 0 0) j → w.heap.size ≤ j := by
    rintro j (rfl | rfl | rfl | rfl | e | e | e)
    · exact g1
    · exact g3
    · exact g4
    · exact g2
    · have := (h5.held.lt j e).1; omega
    · have := (h5.seen.lt j e).1; omega
    · cases e
  exact ⟨x, d, s, k, b, hv, sv, rfl, ⟨hR.below hB, h1, h2, h3, h5, h4, m1, m2, Nat.zero_le _, rest_empty m1, by show (-1 : Int) ≤ _; omega, M.tog_nil, by show ((0 : Nat) : Int) ≤ _; omega, fun j hj => Nat.lt_of_lt_of_le hlt (hft j hj)⟩, hft, hB⟩
theorem strs_new (w : World) (T : ByteArray) : StrsIn (w.alloc (.cells #[.string T] 9)) (.slice (some ⟨w.heap.size, 0, none⟩) 1 1) [T] :=
  .inr ⟨w.heap.size, 1, rfl, Nat.le_refl _, Nat.zero_le _, ⟨by simp, fun _ => rfl⟩, fun j u hu => new_at w [.string T] _ j u hu⟩
def oneT : ByteArray := ⟨#[112, 97, 99, 107, 97, 103, 101, 32, 97, 32, 49, 10, 102, 105, 108, 101, 32, 120, 61, 49]⟩
def onePk : M.Pk := ⟨[97], [49], [], [], [⟨[120], [49]⟩]⟩
theorem one_inst : M.installedS [] [oneT.data.toList] (24 * ((20 : Int) - 8)) = .inr [onePk] := by rfl
theorem one_texts : M.textsS [onePk] = [oneT.data.toList] := by rfl
end Go.Proofs.YtgnfknjopafngaaGreatDoor
