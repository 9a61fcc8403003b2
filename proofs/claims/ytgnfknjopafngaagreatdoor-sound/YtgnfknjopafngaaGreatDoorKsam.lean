import Derived.Test.YtgnfknjopafngaaGreatDoorKsal
import Derived.Test.YtgnfknjopafngaaGreatDoorKsx
import Derived.Test.YtgnfknjopafngaaGreatDoorKsae
import Derived.Shelf.SlMaps.Clone
import Derived.Test.YtgnfknjopafngaaGreatDoorKss
namespace Go.Proofs.YtgnfknjopafngaaGreatDoor
open Go.RowKit Go.Maps
def PlanPost (there : List M.Pk) (R : Sum M.Fa (List M.Pk × List (List UInt8))) (w : World) (e : Ending) (w' : World) : Prop :=
  Below w.heap.size w w' ∧ match R with
    | .inl f => ∃ ev, e = .returned (.tuple #[.map none, .slice none 0 0, ev]) ∧ ErrIs f w' ev
    | .inr (all, names) => ∃ b v fresh, e = .returned (.tuple #[.map (some b), v, .nilIface]) ∧ SetIn w' b fresh ∧ all = there ++ fresh ∧ M.Apart all ∧ (∀ p ∈ fresh, ReadP p) ∧ w'.ownsRow w.heap.size 9 1 v names.length (nmCells names)
theorem plannedS_fault {there : List M.Pk} {T : List (List UInt8)} {f : M.Fa} (h : addedS there T = .inl f) : M.plannedS there T = .inl f := by
  unfold addedS at h
  unfold M.plannedS
  cases hr : M.readAllS T 0 [] with
  | inl g => rw [hr] at h; cases h; rfl
  | inr l =>
    rw [hr] at h
    simp only at h ⊢
    cases ha : M.addAllS l 0 there with
    | inl g => rw [ha] at h; cases h; rfl
    | inr all => rw [ha] at h; cases h
theorem planned_checked {there fresh : List M.Pk} {T : List (List UInt8)} (h : addedS there T = .inr fresh) : M.plannedS there T = M.checkedS there fresh (there ++ fresh) := by
  obtain ⟨h1, h2⟩ := added_read h
  unfold M.plannedS
  rw [h1]
  simp only [h2]
theorem checked_check {there fresh all : List M.Pk} {f : M.Fa} (h : checkS all = some f) : M.checkedS there fresh all = .inl f := by
  unfold checkS at h
  unfold M.checkedS
  by_cases h1 : M.lackingS all ≠ []
  · rw [if_pos h1] at h ⊢; cases h; rfl
  · rw [if_neg h1] at h ⊢
    by_cases h2 : M.barringS all ≠ []
    · rw [if_pos h2] at h ⊢; cases h; rfl
    · rw [if_neg h2] at h ⊢
      by_cases h3 : M.clashingS all ≠ []
      · rw [if_pos h3] at h ⊢; cases h; rfl
      · rw [if_neg h3] at h; cases h
theorem checked_order {there fresh all : List M.Pk} (h : checkS all = none) : M.checkedS there fresh all = match orderR there fresh with | .inl f => .inl f | .inr l => .inr (all, l) := by
  unfold checkS at h
  unfold M.checkedS orderR
  by_cases h1 : M.lackingS all ≠ []
  · rw [if_pos h1] at h; cases h
  · rw [if_neg h1] at h ⊢
    by_cases h2 : M.barringS all ≠ []
    · rw [if_pos h2] at h; cases h
    · rw [if_neg h2] at h ⊢
      by_cases h3 : M.clashingS all ≠ []
      · rw [if_pos h3] at h; cases h
      · rw [if_neg h3]
        by_cases h4 : M.firstOf (M.orderS there fresh.length fresh []).2 ≠ []
        · rw [if_pos h4, if_pos h4]
        · rw [if_neg h4, if_neg h4]
set_option maxRecDepth 100000 in
set_option maxHeartbeats 8000000 in
theorem plan_any (b : Nat) (there : List M.Pk) (xv : Value) (texts : List ByteArray) (w : World) (hM : MaxIs w) (hE : ErrLaid w) (hl : SetIn w b there) (hx : TxtsIn w xv texts) (hxn : texts.length ≤ 10000) (hxs : ∀ t ∈ texts, t.size ≤ 8192) (htn : there.length ≤ 20000) (hts : ∀ p ∈ there, ReadP p) :
    Calls Tryz.prog 116 #[.map (some b), xv] w (PlanPost there (M.plannedS there (texts.map fun t => t.data.toList)) w) := by
  have cA := addAll_any b there xv texts w hM hE hl hx hxn hxs
  have hTl : (texts.map fun t => t.data.toList).length ≤ 10000 := by rw [List.length_map]; exact hxn
  generalize (texts.map fun t => t.data.toList) = T at cA hTl ⊢
  obtain ⟨ax, cx, ex⟩ := hx.form
  subst ex
  have HL : Hid (SetIn w b there) := hl
  have HTs : Hid (∀ p ∈ there, ReadP p) := hts
  clear hM hE hl hx hxs hts
  go_enter Tryz.func116, Tryz.ntmps116
  go_wp2_with fail
  refine cA.mono ?_
  rintro e w2 ⟨hB2, hm⟩
  clear cA
  cases hr : addedS there T with
  | inl f =>
    rw [hr] at hm
    obtain ⟨ev, rfl, fb, rfl, hF⟩ := hm
    have HP : Hid (M.plannedS there T = .inl f) := plannedS_fault hr
    have HF : Hid (ErrIs f w2 (.iface 112 (.pointer (some ⟨fb, 0, none⟩)))) := ⟨fb, rfl, hF⟩
    clear hr hF
    go_wp2
    refine bodyPost_ret (v := .tuple #[.map none, .slice none 0 0, .iface 112 (.pointer (some ⟨fb, 0, none⟩))]) (by simp [results, Tryz.results116, go_sem]) rfl ⟨hB2, ?_⟩
    rw [HP.out]
    exact ⟨_, rfl, HF.out⟩
  | inr fresh =>
    rw [hr] at hm
    obtain ⟨nb, rfl, hS⟩ := hm
    obtain ⟨k1, k2⟩ := added_read hr
    obtain ⟨k3, k4⟩ := read_all k1
    have HS : Hid (SetIn w2 nb fresh) := hS
    have HK4 : Hid (∀ p ∈ fresh, ReadP p) := k4
    have HAp : Hid (M.Apart (there ++ fresh)) := M.addAll_apart _ _ _ _ k2 HL.out.apart
    have HC : Hid (M.plannedS there T = M.checkedS there fresh (there ++ fresh)) := planned_checked hr
    have hlen : (there ++ fresh).length ≤ 30000 := by rw [List.length_append]; omega
    have cW := with_any b nb there fresh w2 (HL.out.below hB2) hS HAp.out (by omega)
    have hfl : fresh.length ≤ 10000 := by omega
    clear hr hS k1 k2 k3 k4
    go_wp2_with (go_at_call 117; refine cW.mono ?_; rintro e w3 ⟨b3, rfl, hS3, hB3⟩)
    have cK := check_any b3 (there ++ fresh) w3 hS3 (by omega) (fun p hp => (List.mem_append.1 hp).elim (HTs.out p) (HK4.out p))
    refine cK.mono ?_
    rintro e w4 ⟨hB4, hm⟩
    have HB4 : Hid (Below w2.heap.size w2 w4) := bt hB3 hB4
    clear cW cK hS3 hB3 hB4
    cases hc : checkS (there ++ fresh) with
    | some f =>
      rw [hc] at hm
      obtain ⟨ev, rfl, fb, rfl, hF⟩ := hm
      have HP : Hid (M.plannedS there T = .inl f) := by show _ = _; rw [HC.out]; exact checked_check hc
      have HF : Hid (ErrIs f w4 (.iface 112 (.pointer (some ⟨fb, 0, none⟩)))) := ⟨fb, rfl, hF⟩
      clear hc hF
      go_wp2
      refine bodyPost_ret (v := .tuple #[.map none, .slice none 0 0, .iface 112 (.pointer (some ⟨fb, 0, none⟩))]) (by simp [results, Tryz.results116, go_sem]) rfl ⟨bt hB2 HB4.out, ?_⟩
      rw [HP.out]
      exact ⟨_, rfl, HF.out⟩
    | none =>
      rw [hc] at hm
      subst hm
      have cO := qorder_any b nb there fresh w4 ((HL.out.below hB2).below HB4.out) (HS.out.below HB4.out) hfl HTs.out HK4.out
      have HO : Hid (M.plannedS there T = match orderR there fresh with | .inl f => .inl f | .inr l => .inr (there ++ fresh, l)) := by show _ = _; rw [HC.out]; exact checked_order hc
      clear hc
      go_wp2_with fail
      refine cO.mono ?_
      rintro e w5 ⟨hB5, hm⟩
      have HB : Hid (Below w.heap.size w w5) := bt (bt hB2 HB4.out) hB5
      have HS5 : Hid (SetIn w5 nb fresh) := (HS.out.below HB4.out).below hB5
      have hbase : w.heap.size ≤ w4.heap.size := Nat.le_trans hB2.size HB4.out.size
      clear cO
      cases ho : orderR there fresh with
      | inl f =>
        rw [ho] at hm
        obtain ⟨ev, rfl, fb, rfl, hF⟩ := hm
        have HP : Hid (M.plannedS there T = .inl f) := by show _ = _; rw [HO.out, ho]
        have HF : Hid (ErrIs f w5 (.iface 112 (.pointer (some ⟨fb, 0, none⟩)))) := ⟨fb, rfl, hF⟩
        clear ho hF
        go_wp2
        refine bodyPost_ret (v := .tuple #[.map none, .slice none 0 0, .iface 112 (.pointer (some ⟨fb, 0, none⟩))]) (by simp [results, Tryz.results116, go_sem]) rfl ⟨HB.out, ?_⟩
        rw [HP.out]
        exact ⟨_, rfl, HF.out⟩
      | inr l =>
        rw [ho] at hm
        obtain ⟨v, rfl, hv⟩ := hm
        have HP : Hid (M.plannedS there T = .inr (there ++ fresh, l)) := by show _ = _; rw [HO.out, ho]
        have HV : Hid (w5.ownsRow w.heap.size 9 1 v l.length (nmCells l)) := ownsRow_base_a hv hbase
        obtain ⟨av, cv, ev⟩ := own_form hv
        subst ev
        clear ho hv
        go_wp2
        refine bodyPost_ret (v := .tuple #[.map (some nb), .slice av l.length cv, .nilIface]) (by simp [results, Tryz.results116, go_sem]) rfl ⟨HB.out, ?_⟩
        rw [HP.out]
        exact ⟨_, _, fresh, rfl, HS5.out, rfl, HAp.out, HK4.out, HV.out⟩
def NamesPost (R : Sum M.Fa (List M.Pk × List (List UInt8))) (w : World) (e : Ending) (w' : World) : Prop :=
  Below w.heap.size w w' ∧ match R with
    | .inl f => ∃ ev, e = .returned (.tuple #[.slice none 0 0, ev]) ∧ ErrIs f w' ev
    | .inr (_, names) => ∃ v, e = .returned (.tuple #[v, .nilIface]) ∧ w'.ownsRow w.heap.size 9 1 v names.length (nmCells names)
set_option maxRecDepth 100000 in
set_option maxHeartbeats 4000000 in
theorem plans_any (b : Nat) (there : List M.Pk) (xv : Value) (texts : List ByteArray) (w : World) (hM : MaxIs w) (hE : ErrLaid w) (hl : SetIn w b there) (hx : TxtsIn w xv texts) (hxn : texts.length ≤ 10000) (hxs : ∀ t ∈ texts, t.size ≤ 8192) (htn : there.length ≤ 20000) (hts : ∀ p ∈ there, ReadP p) :
    Calls Tryz.prog 79 #[.map (some b), xv] w (NamesPost (M.plannedS there (texts.map fun t => t.data.toList)) w) := by
  have cA := plan_any b there xv texts w hM hE hl hx hxn hxs htn hts
  generalize M.plannedS there (texts.map fun t => t.data.toList) = R at cA ⊢
  clear hM hE hl hx hxs hts
  go_enter Tryz.func79, Tryz.ntmps79
  go_wp2_with fail
  refine cA.mono ?_
  rintro e w2 ⟨hB2, hm⟩
  clear cA
  cases R with
  | inl f =>
    obtain ⟨ev, rfl, fb, rfl, hF⟩ := hm
    have HF : Hid (ErrIs f w2 (.iface 112 (.pointer (some ⟨fb, 0, none⟩)))) := ⟨fb, rfl, hF⟩
    clear hF
    go_wp2
    refine bodyPost_ret (v := .tuple #[.slice none 0 0, .iface 112 (.pointer (some ⟨fb, 0, none⟩))]) (by simp [results, Tryz.results79, go_sem]) rfl ⟨hB2, ?_⟩
    exact ⟨_, rfl, HF.out⟩
  | inr q =>
    obtain ⟨all, l⟩ := q
    obtain ⟨nb, v, fresh, rfl, _, _, _, _, hv⟩ := hm
    have HV : Hid (w2.ownsRow w.heap.size 9 1 v l.length (nmCells l)) := hv
    obtain ⟨av, cv, ev⟩ := own_form hv
    subst ev
    clear hv
    go_wp2
    refine bodyPost_ret (v := .tuple #[.slice av l.length cv, .nilIface]) (by simp [results, Tryz.results79, go_sem]) rfl ⟨hB2, ?_⟩
    exact ⟨_, rfl, HV.out⟩
end Go.Proofs.YtgnfknjopafngaaGreatDoor
namespace Go.Proofs.YtgnfknjopafngaaGreatDoor
open Go.RowKit Go.Maps
theorem planned_len {there all : List M.Pk} {T names : List (List UInt8)} (h : M.plannedS there T = .inr (all, names)) : all.length = there.length + T.length := by
  unfold M.plannedS at h
  cases hr : M.readAllS T 0 [] with
  | inl f => rw [hr] at h; cases h
  | inr fresh =>
    rw [hr] at h
    simp only at h
    cases ha : M.addAllS fresh 0 there with
    | inl f => rw [ha] at h; cases h
    | inr al =>
      rw [ha] at h
      simp only at h
      have e := M.addAll_is _ _ _ _ ha
      have hl := M.readAll_len _ _ _ _ hr
      have : all = al := by
        unfold M.checkedS at h
        split at h
        · cases h
        · split at h
          · cases h
          · split at h
            · cases h
            · split at h
              · cases h
              · cases h; rfl
      rw [this, e, List.length_append]
      simp at hl
      omega
set_option maxRecDepth 100000 in
set_option maxHeartbeats 4000000 in
theorem install_any (b : Nat) (room : Nat) (there : List M.Pk) (xv : Value) (texts : List ByteArray) (w : World) (hR : Ready w) (hl : SetIn w b there) (hx : TxtsIn w xv texts) (hxn : texts.length ≤ 10000) (hxs : ∀ t ∈ texts, t.size ≤ 8192) (htn : there.length ≤ 20000) (hts : ∀ p ∈ there, ReadP p) :
    Calls Tryz.prog 73 #[.map (some b), xv, .int .i64 room] w (AddedPost (M.installedS there (texts.map fun t => t.data.toList) room) w) := by
  have cP := plan_any b there xv texts w hR.2 hR.1 hl hx hxn hxs htn hts
  have HTl : Hid ((texts.map fun t => t.data.toList).length ≤ 10000) := by show _ ≤ _; rw [List.length_map]; exact hxn
  obtain ⟨ax, cx, ex⟩ := hx.form
  subst ex
  generalize (texts.map fun t => t.data.toList) = T at cP HTl ⊢
  have HL : Hid (SetIn w b there) := hl
  have HTs : Hid (∀ p ∈ there, ReadP p) := hts
  clear hR hl hx hxs hts
  go_enter Tryz.func73, Tryz.ntmps73
  go_wp2_with fail
  refine cP.mono ?_
  rintro e w2 ⟨hB2, hm⟩
  clear cP
  cases hp : M.plannedS there T with
  | inl f =>
    rw [hp] at hm
    obtain ⟨ev, rfl, fb, rfl, hF⟩ := hm
    have HP : Hid (M.installedS there T room = .inl f) := by show _ = _; unfold M.installedS; rw [hp]
    have HF : Hid (ErrIs f w2 (.iface 112 (.pointer (some ⟨fb, 0, none⟩)))) := ⟨fb, rfl, hF⟩
    clear hp hF
    go_wp2
    refine bodyPost_ret (v := .tuple #[.map none, .iface 112 (.pointer (some ⟨fb, 0, none⟩))]) (by simp [results, Tryz.results73, go_sem]) rfl ⟨hB2, ?_⟩
    rw [HP.out]
    exact ⟨_, rfl, HF.out⟩
  | inr q =>
    obtain ⟨all, names⟩ := q
    rw [hp] at hm
    obtain ⟨nb, v, fresh, rfl, hS, rfl, hAp, hfr, hv⟩ := hm
    have hln := planned_len hp
    obtain ⟨av, cv, ev⟩ := own_form hv
    subst ev
    have hlen : (there ++ fresh).length ≤ 30000 := by have := HTl.out; omega
    have hRd : ∀ p ∈ there ++ fresh, ReadP p := fun p hp => (List.mem_append.1 hp).elim (HTs.out p) (hfr p)
    have hsz := size_le hRd
    have HI : Hid (M.installedS there T room = if (room : Int) < M.sizeS (there ++ fresh) then .inl ⟨8, 0, 0, []⟩ else .inr (there ++ fresh)) := by show _ = _; unfold M.installedS; rw [hp]
    have cW := with_any b nb there fresh w2 (HL.out.below hB2) hS hAp (by rw [← List.length_append]; omega)
    have HRd : Hid (∀ p ∈ there ++ fresh, ReadP p) := hRd
    have hszb : M.sizeS (there ++ fresh) ≤ 9000000 := by omega
    clear hp hln hv hS hAp hfr hRd hsz hlen
    go_wp2_with (go_at_call 117; refine cW.mono ?_; rintro e w3 ⟨ab, rfl, hS3, hB3⟩)
    have cS := qsize_any ab (there ++ fresh) w3 hS3 HRd.out (by omega)
    have HS3 : Hid (SetIn w3 ab (there ++ fresh)) := hS3
    generalize hZ : M.sizeS (there ++ fresh) = Z at cS HI hszb
    clear hS3 cW hZ
    refine cS.mono ?_
    rintro e w4 ⟨rfl, hB4⟩
    have HB : Hid (Below w.heap.size w w4 ∧ SetIn w4 ab (there ++ fresh)) := ⟨bt (bt hB2 hB3) hB4, HS3.out.below hB4⟩
    clear cS hB2 hB3 hB4
    by_cases hlt : room < Z
    · have HE : Hid (M.installedS there T room = .inl ⟨8, 0, 0, []⟩) := by show _ = _; rw [HI.out, if_pos (by omega)]
      go_wp2
      have hB5 : Below w4.heap.size w4 (w4.alloc (.cells #[.int .i64 8, .int .i64 0, .int .i64 0, .string ⟨#[]⟩] 117)) := (Below.refl _ w4).alloc (Nat.le_refl _) _
      refine bodyPost_ret (v := .tuple #[.map none, .iface 112 (.pointer (some ⟨w4.heap.size, 0, none⟩))]) (by simp [results, Tryz.results73, go_sem]) rfl ⟨bt HB.out.1 hB5, ?_⟩
      rw [HE.out]
      exact ⟨_, rfl, w4.heap.size, rfl, fault_new 8 0 0 ⟨#[]⟩ _⟩
    · have HE : Hid (M.installedS there T room = .inr (there ++ fresh)) := by show _ = _; rw [HI.out, if_neg (by omega)]
      go_wp2
      refine bodyPost_ret (v := .tuple #[.map (some ab), .nilIface]) (by simp [results, Tryz.results73, go_sem]) rfl ⟨HB.out.1, ?_⟩
      rw [HE.out]
      exact ⟨ab, rfl, HB.out.2⟩
end Go.Proofs.YtgnfknjopafngaaGreatDoor
namespace Go.Proofs.YtgnfknjopafngaaGreatDoor
open Go.RowKit Go.Maps
set_option maxRecDepth 100000 in
set_option maxHeartbeats 2000000 in
theorem mClone_any (b : Nat) (L : List KV) (w : World) (h : StrMap Tryz.prog 9 w b L) :
    Calls Tryz.prog 121 #[.map (some b)] w fun e w' => e = .returned (.map (some w.heap.size)) ∧ StrMap Tryz.prog 9 w' w.heap.size L ∧ Below w.heap.size w w' := by
  obtain ⟨n, es, ⟨xs, clock, h0, h1⟩, h2⟩ := h
  have hq := fun w => run_eql_map_nil_sl (P := Tryz.prog) w 135 _ _ (some b) setMap
  have hS : StrMap Tryz.prog 9 (w.alloc (.map xs clock)) w.heap.size L := ⟨n, es, ⟨xs, clock, heap_alloc_new w _, h1⟩, h2⟩
  have HS : Hid (StrMap Tryz.prog 9 (w.alloc (.map xs clock)) w.heap.size L) := hS
  clear hS h1 h2
  go_enter Tryz.func121, Tryz.ntmps121
  go_wp2
  rw [run_callFunc_extern Tryz.func162 (by kernel_rfl) (by kernel_rfl) (by kernel_rfl) (e := Extern.MapsClone.clone) (by kernel_rfl), run_maps_clone_sl w 135 h0]
  simp only [Result.andThen]
  rw [Oper.upon_value]
  go_wp2
  rw [run_typeAssert_map_sl _ 135 20 _ _ _ setMap]
  simp only [Result.andThen]
  rw [Oper.upon_value]
  go_wp2
  go_ret
  exact ⟨rfl, HS.out, (Below.refl _ w).alloc (Nat.le_refl _) _⟩
namespace M
theorem drop_filter {n : List UInt8} : ∀ {all : List Pk} {k : Nat}, Apart all → all.findIdx? (fun p => p.name == n) = some k → all.take k ++ all.drop (k + 1) = all.filter (fun p => p.name != n)
  | [], k, _, h => by simp at h
  | p :: l, k, ha, h => by
    have hap := List.nodup_cons.1 (show (p.name :: l.map Pk.name).Nodup from ha)
    rw [List.findIdx?_cons] at h
    by_cases hp : p.name = n
    · rw [if_pos (by simpa using hp)] at h
      cases h
      rw [List.take_zero, List.nil_append, List.drop_succ_cons, List.drop_zero, List.filter_cons_of_neg (by simp [hp]), List.filter_eq_self.2]
      intro q hq
      simp only [bne_iff_ne, ne_eq]
      exact fun e => hap.1 (by rw [hp, ← e]; exact List.mem_map.2 ⟨q, hq, rfl⟩)
    · rw [if_neg (by simpa using hp)] at h
      obtain ⟨j, hj, rfl⟩ := Option.map_eq_some_iff.1 h
      rw [List.take_succ_cons, List.drop_succ_cons, List.cons_append, drop_filter hap.2 hj, List.filter_cons_of_pos (by simpa using hp)]
end M
theorem drop_map (l : List M.Pk) (f : M.Pk → Value) (n : List UInt8) : dropK (l.map fun p => (p.name, f p)) n = (l.filter (fun p => p.name != n)).map fun p => (p.name, f p) := by
  unfold dropK
  rw [List.filter_map]
  rfl
theorem find_none {l : List M.Pk} {f : M.Pk → Value} {n : List UInt8} (h : lookK (l.map fun p => (p.name, f p)) n = none) : l.findIdx? (fun p => p.name == n) = none := by
  rw [List.findIdx?_eq_none_iff]
  intro p hp
  have := look_none.1 h _ (List.mem_map.2 ⟨p, hp, rfl⟩)
  simpa using this
theorem find_some {l : List M.Pk} {f : M.Pk → Value} {n : List UInt8} {v : Value} (h : lookK (l.map fun p => (p.name, f p)) n = some v) : ∃ k, l.findIdx? (fun p => p.name == n) = some k := by
  cases hf : l.findIdx? (fun p => p.name == n) with
  | some k => exact ⟨k, rfl⟩
  | none =>
    have : lookK (l.map fun p => (p.name, f p)) n = none := look_none.2 (fun q hq => by
      obtain ⟨p, hp, rfl⟩ := List.mem_map.1 hq
      have := List.findIdx?_eq_none_iff.1 hf p hp
      simpa using this)
    rw [this] at h
    cases h
end Go.Proofs.YtgnfknjopafngaaGreatDoor
namespace Go.Proofs.YtgnfknjopafngaaGreatDoor
open Go.RowKit Go.Maps
set_option maxRecDepth 100000 in
set_option maxHeartbeats 8000000 in
theorem remove_any (b : Nat) (there : List M.Pk) (xv : Value) (names : List ByteArray) (w : World) (hl : SetIn w b there) (hx : TxtsIn w xv names) (hxn : names.length ≤ 10000) (hxs : ∀ t ∈ names, t.size ≤ 8192) (htn : there.length ≤ 20000) (hts : ∀ p ∈ there, ReadP p) :
    Calls Tryz.prog 78 #[.map (some b), xv] w (AddedPost (M.removedS there (names.map fun t => t.data.toList)) w) := by
  have HA : Hid (M.Apart there) := hl.apart
  obtain ⟨f, m1, v1⟩ := hl
  have cC := mClone_any b _ w m1
  have HV : Hid (∀ p ∈ there, PkVal w p (f p)) := v1
  obtain ⟨ax, cx, ex⟩ := hx.form
  subst ex
  have HX : Hid (TxtsIn w (.slice ax names.length cx) names) := hx
  have HXs : Hid (∀ t ∈ names, t.size ≤ 8192) := hxs
  have HTs : Hid (∀ p ∈ there, ReadP p) := hts
  generalize hNS : (names.map fun t => t.data.toList) = NS
  have HN : Hid ((names.map fun t => t.data.toList) = NS) := hNS
  clear m1 v1 hx hxs hts hNS
  go_enter Tryz.func78, Tryz.ntmps78
  go_wp2_with (go_at_call 121; refine cC.mono ?_; rintro e w1 ⟨rfl, hS1, hB1⟩; have HS1 : Hid _ := hS1; clear hS1)
  clear cC
  go_loopw [7, 8, 9, 10, 16] (fun _ _ _ _ i wr => ∃ (j : Nat) (left : List M.Pk), i = .int .i64 j ∧ j ≤ names.length ∧ Hid (StrMap Tryz.prog 9 wr w.heap.size (left.map fun p => (p.name, f p))) ∧ Hid (M.dropAllS NS 0 there = M.dropAllS (NS.drop j) j left) ∧ Hid (M.Apart left ∧ (∀ p ∈ left, p ∈ there) ∧ left.length ≤ 20000) ∧ Below w.heap.size w wr) (fun _ _ _ _ i _ => names.length - (intOf i).toNat)
  case atStart => exact ⟨0, there, rfl, Nat.zero_le _, HS1.out, rfl, ⟨HA.out, fun _ h => h, htn⟩, hB1⟩
  case round =>
    obtain ⟨j, left, rfl, hj, HS, HDr, HLf, hBr⟩ := hrel
    by_cases hjl : j < names.length
    · obtain ⟨g, off, rfl, hgl, hcap, hcells⟩ := HX.out.cellAt (by omega)
      have hq : wr.cell? ⟨g, off + j, none⟩ = some (.string names[j]) := (hBr.cell (p := ⟨g, off + j, none⟩) hgl).trans (hcells j hjl)
      have hsz := HXs.out _ (List.getElem_mem hjl)
      have hdr : NS.drop j = names[j].data.toList :: NS.drop (j + 1) := by
        rw [← HN.out, List.drop_eq_getElem_cons (by rw [List.length_map]; exact hjl), List.getElem_map]
      generalize names[j] = s at hq hsz hdr
      have hms : s.size ≤ maxLen := by unfold maxLen; omega
      have hlook := HS.out.look2 (T := 135) Tryz.underlying9 setMap (zeroPk_run wr) hms
      have hcl : names.length ≤ 9223372036854775807 := by omega
      cases hlk : lookK (left.map fun p => (p.name, f p)) s.data.toList with
      | none =>
        rw [hlk] at hlook
        simp only [Option.getD_none, Option.isSome_none, zeroPk] at hlook
        have HE : Hid (M.removedS there NS = .inl ⟨3, j, 0, s.data.toList⟩) := by
          show _ = _
          unfold M.removedS
          rw [HDr.out, hdr]
          unfold M.dropAllS
          rw [find_none hlk]
        have cS := fun W => clone_lib s W (by omega)
        clear hlk hdr hcells
        go_wp2_with fail
        refine (cS _).mono ?_
        rintro e w3 ⟨rfl, hB3⟩
        have hB3' : Below wr.heap.size wr w3 := bt ((Below.refl _ wr).alloc (Nat.le_refl _) _) hB3
        clear hB3
        go_wp2
        have hB4 : Below w3.heap.size w3 (w3.alloc (.cells #[.int .i64 3, .int .i64 j, .int .i64 0, .string s] 117)) := (Below.refl _ w3).alloc (Nat.le_refl _) _
        refine bodyPost_ret (v := .tuple #[.map none, .iface 112 (.pointer (some ⟨w3.heap.size, 0, none⟩))]) (by simp [results, Tryz.results78, go_sem]) rfl ⟨bt (bt hBr hB3') hB4, ?_⟩
        rw [HE.out]
        refine ⟨_, rfl, w3.heap.size, rfl, ?_⟩
        show FaultAt _ _ 3 j 0 ⟨s.data.toList.toArray⟩
        rw [mk_data]
        exact fault_new 3 j 0 s _
      | some v =>
        rw [hlk] at hlook
        obtain ⟨k, hk⟩ := find_some hlk
        have hmem := (look_mem HS.out.keys).1 hlk
        obtain ⟨p, hp, hpe⟩ := List.mem_map.1 hmem
        have hsh : PkShape v := by
          have e2 : f p = v := congrArg Prod.snd hpe
          rw [← e2]
          exact (HV.out p (HLf.out.2.1 p hp)).shape
        obtain ⟨xa, xb, x1, n1, c1, x2, n2, c2, x3, n3, c3, rfl⟩ := hsh
        simp only [Option.getD_some, Option.isSome_some] at hlook
        have HE : Hid (M.dropAllS NS 0 there = M.dropAllS (NS.drop (j + 1)) (j + 1) (left.filter (fun p => p.name != s.data.toList))) := by
          show _ = _
          rw [HDr.out, hdr]
          conv => lhs; unfold M.dropAllS
          rw [hk]
          simp only
          rw [M.drop_filter HLf.out.1 hk]
        generalize hW2 : wr.alloc (.cells #[.string xa, .string xb, .slice x1 n1 c1, .slice x2 n2 c2, .slice x3 n3 c3] 108) = W2
        have hB2 : Below wr.heap.size wr W2 := by rw [← hW2]; exact (Below.refl _ wr).alloc (Nat.le_refl _) _
        have hS2 := HS.out.below hB2 HS.out.lt
        have hBw2 := bt hBr hB2
        clear hlk hdr hcells hmem hpe hk
        go_wp2_with (refine wpList_del_str rfl (.tmp 35) (.tmp 36) rfl Tryz.underlying9 setMap w.heap.size (left.map fun p => (p.name, f p)) rfl hS2 s rfl hms ?_; intro w4 hS4 hg4; rw [drop_map] at hS4)
        refine ⟨⟨j + 1, left.filter (fun p => p.name != s.data.toList), by go_num, hjl, hS4, HE, ⟨?_, fun p hp => HLf.out.2.1 p (List.mem_filter.1 hp).1, Nat.le_trans (List.length_filter_le _ _) HLf.out.2.2⟩, hBw2.grown hg4 hBw2.size (fun k hk => by cases hk; exact Nat.le_refl _)⟩, ?_⟩
        · exact List.Sublist.nodup ((List.filter_sublist (l := left)).map _) HLf.out.1
        · simp [intOf]
          omega
    · have hjj : j = names.length := by omega
      have hdr : NS.drop j = [] := by
        have e : NS.length = names.length := by rw [← HN.out, List.length_map]
        exact List.drop_eq_nil_of_le (by omega)
      have hLv : SetIn wr w.heap.size left := ⟨f, HS.out, fun p hp => (HV.out p (HLf.out.2.1 p hp)).below hBr⟩
      have HE : Hid (M.removedS there NS = if M.lackingS left ≠ [] then .inl ⟨4, 0, 0, M.lackingS left⟩ else .inr left) := by
        show _ = _
        unfold M.removedS
        rw [HDr.out, hdr]
        rfl
      have cF := firstLacking_any w.heap.size left wr hLv (by have := HLf.out.2.2; omega) (fun p hp => HTs.out p (HLf.out.2.1 p hp))
      have HLv : Hid (SetIn wr w.heap.size left) := hLv
      clear hLv hdr hjj
      go_wp2_with fail
      refine cF.mono ?_
      rintro e w4 ⟨T, rfl, hT, hB4⟩
      have HT : Hid (T.data.toList = M.lackingS left) := hT
      have hB5 : Below w.heap.size w w4 := bt hBr hB4
      have HL4 : Hid (SetIn w4 w.heap.size left) := HLv.out.below hB4
      clear hT cF hB4
      by_cases ht : T.toList.isEmpty = true
      · have HE2 : Hid (M.removedS there NS = .inr left) := by
          show _ = _
          rw [HE.out, if_neg (by rw [← HT.out, str_eq ht]; simp)]
        go_wp2
        refine bodyPost_ret (v := .tuple #[.map (some w.heap.size), .nilIface]) (by simp [results, Tryz.results78, go_sem]) rfl ⟨hB5, ?_⟩
        rw [HE2.out]
        exact ⟨_, rfl, HL4.out⟩
      · replace ht : T.toList.isEmpty = false := by simpa using ht
        have HE2 : Hid (M.removedS there NS = .inl ⟨4, 0, 0, M.lackingS left⟩) := by
          show _ = _
          rw [HE.out, if_pos (by rw [← HT.out]; exact str_ne ht)]
        have HEr : Hid (ErrIs ⟨4, 0, 0, M.lackingS left⟩ (w4.alloc (.cells #[.int .i64 4, .int .i64 0, .int .i64 0, .string T] 117)) (.iface 112 (.pointer (some ⟨w4.heap.size, 0, none⟩)))) := by
          refine ⟨_, rfl, ?_⟩
          rw [← str_of HT.out]
          exact fault_new (w := w4) 4 0 0 T 117
        go_wp2
        refine bodyPost_ret (v := .tuple #[.map none, .iface 112 (.pointer (some ⟨w4.heap.size, 0, none⟩))]) (by simp [results, Tryz.results78, go_sem]) rfl ⟨hB5.alloc hB5.size _, ?_⟩
        rw [HE2.out]
        exact ⟨_, rfl, HEr.out⟩
end Go.Proofs.YtgnfknjopafngaaGreatDoor
namespace Go.Proofs.YtgnfknjopafngaaGreatDoor
open Go.RowKit Go.Maps
def OwnerPost (l : List M.Pk) (path : List UInt8) (w : World) (e : Ending) (w' : World) : Prop :=
  Below w.heap.size w w' ∧ ((∃ p ∈ l, (∃ f ∈ p.files, f.path = path) ∧ e = .returned (.tuple #[.string ⟨p.name.toArray⟩, .bool true])) ∨ ((∀ p ∈ l, ∀ f ∈ p.files, f.path ≠ path) ∧ e = .returned (.tuple #[.string ⟨#[]⟩, .bool false])))
set_option maxRecDepth 100000 in
set_option maxHeartbeats 8000000 in
theorem qowner_any (b : Nat) (S : ByteArray) (l : List M.Pk) (w : World) (hl : SetIn w b l) (hs : ∀ p ∈ l, ReadP p) :
    Calls Tryz.prog 123 #[.map (some b), .string S] w (OwnerPost l S.data.toList w) := by
  have HS : Hid (∀ p ∈ l, ReadP p) := hs
  have hbl := hl.lt
  obtain ⟨f, m1, v1⟩ := hl
  have HV : Hid (∀ p ∈ l, PkVal w p (f p)) := v1
  have HSh : Hid (∀ q ∈ l.map (fun p => (p.name, f p)), PkShape q.2) := fun q hq => by
    obtain ⟨p, hp, rfl⟩ := List.mem_map.1 hq
    exact (v1 p hp).shape
  generalize hL : (l.map fun p => (p.name, f p)) = L at m1 HSh
  have HL : Hid ((l.map fun p => (p.name, f p)) = L) := hL
  clear v1 hs hL
  go_enter Tryz.func123, Tryz.ntmps123
  go_wp2_with (first | (at_range; refine wpList_range_str rfl _ rfl Tryz.underlying9 setMap b L rfl m1 ?_; intro w0 hrg0 hg0 hs0) | go_in)
  go_frame
  have hB0 : Below w.heap.size w w0 := (Below.refl _ w).grown hg0 (Nat.le_refl _) (fun j hj => by cases hj)
  go_loopw [6, 7, 9] (fun _ _ _ wr => ∃ (todo : List KV) (cnt : Nat), Ranging Tryz.prog 9 wr b w.heap.size L todo cnt ∧ Hid (∀ p ∈ l, (p.name, f p) ∈ todo ∨ ∀ g ∈ p.files, g.path ≠ S.data.toList) ∧ Below w.heap.size w wr) (fun _ _ _ wr => wr.rangeLeft b w.heap.size)
  case atStart => exact ⟨L, _, hrg0, fun p hp => .inl (by rw [← HL.out]; exact List.mem_map.2 ⟨p, hp, rfl⟩), hB0⟩
  case round =>
    obtain ⟨todo, cnt, hrg, HN, hBr⟩ := hrel
    go_wp2_with (first | (at_next; refine wpList_next_pk rfl _ rfl Tryz.underlying9 b w.heap.size L todo cnt rfl hrg HSh.out ?_ ?_) | go_in)
    · intro hc0 ht0
      have HF : Hid (∀ p ∈ l, ∀ g ∈ p.files, g.path ≠ S.data.toList) := fun p hp => by
        rcases HN.out p hp with h | h
        · rw [ht0] at h; cases h
        · exact h
      clear hc0 ht0
      go_wp2
      go_ret2
      exact ⟨hBr, .inr ⟨HF.out, rfl⟩⟩
    · intro k x y x1 n1 c1 x2 n2 c2 x3 n3 c3 todo' w' cnt' hks hperm hrg' hlt hg' hs' hen
      have hmem : (k.data.toList, Value.agg #[.string x, .string y, .slice x1 n1 c1, .slice x2 n2 c2, .slice x3 n3 c3]) ∈ L := by
        obtain ⟨_, _, _, _, _, _, _, h4⟩ := hrg
        exact ((h4 _).1 (hperm.mem_iff.2 List.mem_cons_self)).1
      obtain ⟨p, hp, hpe⟩ : ∃ p ∈ l, (p.name, f p) = (k.data.toList, Value.agg #[.string x, .string y, .slice x1 n1 c1, .slice x2 n2 c2, .slice x3 n3 c3]) := by
        rw [← HL.out] at hmem
        obtain ⟨p, hp, e⟩ := List.mem_map.1 hmem
        exact ⟨p, hp, e⟩
      have hpn : p.name = k.data.toList := congrArg Prod.fst hpe
      have hpv : f p = Value.agg #[.string x, .string y, .slice x1 n1 c1, .slice x2 n2 c2, .slice x3 n3 c3] := congrArg Prod.snd hpe
      have hrow : RowIn w 0 w.heap.size (.slice x3 n3 c3) p.files.length (flsCells p.files) ∧ n3 = p.files.length := by
        obtain ⟨nv, bv, fv, e, _, _, h3⟩ := HV.out p hp
        rw [hpv] at e
        simp only [Value.agg.injEq, Array.mk.injEq, List.cons.injEq, and_true] at e
        obtain ⟨_, _, _, _, rfl⟩ := e
        obtain ⟨_, _, e3⟩ := h3.form
        injection e3 with _ e3 _
        exact ⟨h3, e3⟩
      obtain ⟨hrow, rfl⟩ := hrow
      have HFR : Hid (RowIn w 0 w.heap.size (.slice x3 p.files.length c3) p.files.length (flsCells p.files)) := hrow
      have HSp : Hid (ReadP p) := HS.out p hp
      have hfn := HSp.out.short.filen
      have HPn : Hid (p.name = k.data.toList ∧ p ∈ l) := ⟨hpn, hp⟩
      have HN1 : Hid ((∀ g ∈ p.files, g.path ≠ S.data.toList) → ∀ q ∈ l, (q.name, f q) ∈ todo' ∨ ∀ g ∈ q.files, g.path ≠ S.data.toList) := fun hno q hq => by
        rcases HN.out q hq with h | h
        · rcases List.mem_cons.1 (hperm.mem_iff.1 h) with h | h
          · have e : q.name = p.name := by have := congrArg Prod.fst h; rw [hpn]; exact this
            have hap : M.Apart l := by
              have := hrg.map.keys
              rw [← HL.out] at this
              unfold Keys at this
              rw [List.map_map] at this
              exact this
            rw [hap.eq hq hp e]
            exact .inr hno
          · exact .inl h
        · exact .inr h
      have hBw' : Below w.heap.size w w' := hBr.grown hg' hBr.size (fun j hj => by cases hj; omega)
      clear hperm hmem HN hs' hpe hpv hpn hrow hp
      generalize hW2 : w'.alloc (.cells #[.string x, .string y, .slice x1 n1 c1, .slice x2 n2 c2, .slice x3 p.files.length c3] 108) = W2
      have hga : w'.grownBy W2 none := by rw [← hW2]; exact World.grownBy_alloc w' _ none
      have hrg2 := hrg'.kept hga (by simp) (by simp)
      have q4 : W2.cell? ⟨w'.heap.size, 4, none⟩ = some (.slice x3 p.files.length c3) := by rw [← hW2]; exact new_at w' [.string x, .string y, .slice x1 n1 c1, .slice x2 n2 c2, .slice x3 p.files.length c3] _ 4 _ rfl
      have hBw2 : Below w.heap.size w W2 := hBw'.grown hga hBw'.size (fun j hj => by cases hj)
      have HLt : Hid (cnt' < cnt ∧ wr.rangeLeft b w.heap.size = cnt) := ⟨hlt, hrg.left_eq⟩
      go_wp2
      go_loopw [9, 20] (fun _ i wr => ∃ (j : Nat), i = .int .i64 j ∧ j ≤ p.files.length ∧ Ranging Tryz.prog 9 wr b w.heap.size L todo' cnt' ∧ Hid (∀ g ∈ p.files.take j, g.path ≠ S.data.toList) ∧ Below w.heap.size w wr) (fun _ i _ => p.files.length - (intOf i).toNat)
      case atStart => exact ⟨0, rfl, Nat.zero_le _, hrg2, fun g hg => by simp at hg, hBw2⟩
      case round =>
        obtain ⟨j, rfl, hj, hrj, HJ, hBj⟩ := hrel
        by_cases hlj : j < p.files.length
        · obtain ⟨gf, rfl, hgf, hcapf, hcf⟩ := HFR.out.cellAt (by omega)
          obtain ⟨f0, f1⟩ := file_cells hlj
          obtain ⟨Y, hY⟩ : ∃ Y : ByteArray, Y = ⟨p.files[j].path.toArray⟩ := ⟨_, rfl⟩
          have q0 : wr.cell? ⟨gf, j * 2, none⟩ = some (.string Y) := by rw [hY]; exact (hBj.cell (p := ⟨gf, j * 2, none⟩) hgf).trans (hcf _ _ f0)
          have q1 : wr.cell? ⟨gf, j * 2 + 1, none⟩ = some (.string ⟨p.files[j].content.toArray⟩) := (hBj.cell (p := ⟨gf, j * 2 + 1, none⟩) hgf).trans (hcf _ _ f1)
          have HYd : Hid (Y.data.toList = p.files[j].path) := by show _ = _; rw [hY]
          generalize hW3 : wr.alloc (.cells #[.string Y, .string ⟨p.files[j].content.toArray⟩] 159) = W3
          have hgb : wr.grownBy W3 none := by rw [← hW3]; exact World.grownBy_alloc wr _ none
          have r0 : W3.cell? ⟨wr.heap.size, 0, none⟩ = some (.string Y) := by rw [← hW3]; exact new_at wr [.string Y, .string ⟨p.files[j].content.toArray⟩] _ 0 _ rfl
          have hrj3 := hrj.kept hgb (by simp) (by simp)
          have hBj3 : Below w.heap.size w W3 := hBj.grown hgb hBj.size (fun j hj => by cases hj)
          clear hY f0 f1 hcf
          go_wp2
          · rename_i hq
            go_ret2
            refine ⟨hBj3, .inl ⟨p, HPn.out.2, ⟨p.files[j], List.getElem_mem hlj, ?_⟩, ?_⟩⟩
            · rw [← HYd.out, ← Lib.toList_data, ← Lib.toList_data]
              exact eq_of_beq hq
            · rw [HPn.out.1, mk_data]
              rfl
          · rename_i hq
            refine ⟨⟨j + 1, by go_num, hlj, hrj3, fun g hg => ?_, hBj3⟩, ?_⟩
            · rw [List.take_succ_eq_append_getElem hlj] at hg
              rcases List.mem_append.1 hg with h | h
              · exact HJ.out g h
              · rw [List.mem_singleton.1 h, ← HYd.out, ← Lib.toList_data, ← Lib.toList_data]
                intro e
                rw [e, beq_self_eq_true] at hq
                cases hq
            · simp [intOf]
              omega
        · have hjj : j = p.files.length := by omega
          have HNo : Hid (∀ q ∈ l, (q.name, f q) ∈ todo' ∨ ∀ g ∈ q.files, g.path ≠ S.data.toList) := HN1.out (by
            have := HJ.out
            rw [hjj, List.take_length] at this
            exact this)
          go_wp2
          refine ⟨⟨todo', cnt', hrj, HNo, hBj⟩, ?_⟩
          rw [hrj.left_eq, HLt.out.2]
          exact HLt.out.1
end Go.Proofs.YtgnfknjopafngaaGreatDoor
