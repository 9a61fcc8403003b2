import Derived.Test.YtgnfknjopafngaaGreatDoorPlM
import Derived.Test.YtgnfknjopafngaaGreatDoorFmM
/-
  THE CODE, WALKED: the first package that lacks something.
-/
namespace Go.Proofs.YtgnfknjopafngaaGreatDoor
open Go.RowKit Go.Maps

theorem names_get {l : List M.Pk} {i : Nat} (hi : i < (M.sortN (l.map M.Pk.name)).length) : ∃ p ∈ l, p.name = (M.sortN (l.map M.Pk.name))[i] := by
  obtain ⟨p, hp, e⟩ := List.mem_map.1 ((M.sortN_perm _).mem_iff.1 (List.getElem_mem hi))
  exact ⟨p, hp, e⟩
/-- The first by name of those that something is said of. -/
theorem first_name {l : List M.Pk} {Q : M.Pk → Prop} {m : List UInt8} (ha : M.Apart l) (hm : M.IsMin (fun x => ∃ p ∈ l, Q p ∧ x = p.name) m) {i : Nat} {p : M.Pk} (hp : p ∈ l) (hi : (M.sortN (l.map M.Pk.name))[i]? = some p.name) (hQ : Q p) (hno : ∀ q ∈ l, q.name ∈ (M.sortN (l.map M.Pk.name)).take i → ¬ Q q) : m = p.name := by
  refine hm.unique ⟨hm.1, .inr ⟨⟨p, hp, hQ, rfl⟩, ?_⟩⟩
  rintro x ⟨q, hq, hQq, rfl⟩
  have hr := M.sortN_rising ha
  have hqm : q.name ∈ M.sortN (l.map M.Pk.name) := (M.sortN_perm _).mem_iff.2 (List.mem_map.2 ⟨q, hq, rfl⟩)
  obtain ⟨j, hj, e⟩ := List.getElem_of_mem hqm
  obtain ⟨hi1, hi2⟩ := List.getElem?_eq_some_iff.1 hi
  rw [← e, ← hi2]
  rcases Nat.lt_trichotomy j i with h | h | h
  · exact absurd hQq (hno q hq (by rw [← e]; rw [List.mem_take_iff_getElem]; exact ⟨j, by omega, rfl⟩))
  · subst h; exact M.less_irrefl _
  · exact M.less_asymm (List.pairwise_iff_getElem.1 hr i j hi1 hj h)
theorem no_name {l : List M.Pk} {Q : M.Pk → Prop} {m : List UInt8} (hm : M.IsMin (fun x => ∃ p ∈ l, Q p ∧ x = p.name) m) (hno : ∀ q ∈ l, q.name ∈ M.sortN (l.map M.Pk.name) → ¬ Q q) : m = [] := by
  refine hm.nil_iff.2 ?_
  rintro x ⟨p, hp, hQ, _⟩
  exact hno p hp ((M.sortN_perm _).mem_iff.2 (List.mem_map.2 ⟨p, hp, rfl⟩)) hQ

theorem field_needs (a b c d e : Value) (w : World) : (Instr.field 108 (.agg #[a, b, c, d, e]) 2).run Tryz.prog w = .ok c w := by kernel_rfl
theorem field_bars (a b c d e : Value) (w : World) : (Instr.field 108 (.agg #[a, b, c, d, e]) 3).run Tryz.prog w = .ok d w := by kernel_rfl
theorem field_files (a b c d e : Value) (w : World) : (Instr.field 108 (.agg #[a, b, c, d, e]) 4).run Tryz.prog w = .ok e w := by kernel_rfl

set_option maxRecDepth 100000 in
set_option maxHeartbeats 8000000 in
theorem firstLacking_any (b : Nat) (l : List M.Pk) (w : World) (hl : SetIn w b l) (hn : l.length ≤ 1000000) (hs : ∀ p ∈ l, ReadP p) :
    Calls Tryz.prog 122 #[.map (some b)] w fun e w' => ∃ T : ByteArray, e = .returned (.string T) ∧ T.data.toList = M.lackingS l ∧ Below w.heap.size w w' := by
  have cN := fun wx (hb : Below w.heap.size w wx) => names_any b l wx (hl.below hb) hn
  have HL : Hid (SetIn w b l) := hl
  have HA : Hid (M.Apart l) := hl.apart
  have HS : Hid (∀ p ∈ l, ReadP p) := hs
  have HMin : Hid (M.IsMin (fun x => ∃ p ∈ l, M.Lacks l p ∧ x = p.name) (M.lackingS l)) := M.lacking_min (fun p hp => (hs p hp).name)
  have HRL : Hid ((M.sortN (l.map M.Pk.name)).length = l.length) := by show _ = _; rw [(M.sortN_perm _).length_eq, List.length_map]
  generalize hr : M.sortN (l.map M.Pk.name) = r at HRL
  have HR : Hid (M.sortN (l.map M.Pk.name) = r) := hr
  clear hl hs hr
  go_enter Tryz.func122, Tryz.ntmps122
  go_wp2_with fail
  refine (cN _ (Below.refl _ _)).mono ?_
  rintro e w1 ⟨v, rfl, hrow, hB1⟩
  obtain ⟨a1, c1, e1⟩ := own_form hrow
  subst e1
  have HRow : Hid (RowIn w1 0 w1.heap.size (.slice a1 l.length c1) l.length (nmCells r)) := by rw [← HR.out]; exact (RowIn.own hrow).wide (Nat.zero_le _) (Nat.le_refl _)
  clear cN hrow
  go_wp2
  go_loopw [4, 6, 8, 12] (fun _ _ _ i wr => ∃ n : Nat, i = .int .i64 n ∧ n ≤ l.length ∧ Below w1.heap.size w1 wr ∧ Hid (∀ q ∈ l, q.name ∈ r.take n → ¬ M.Lacks l q)) (fun _ _ _ i _ => l.length - (intOf i).toNat)
  case atStart => exact ⟨0, rfl, Nat.zero_le _, Below.refl _ _, fun q _ hq => by simp at hq⟩
  case round =>
    obtain ⟨n, rfl, hn', hBr, HQ⟩ := hrel
    by_cases hlt : n < l.length
    · have hnr : n < r.length := by rw [HRL.out]; exact hlt
      obtain ⟨p, hp, hpn⟩ : ∃ p ∈ l, p.name = r[n] := by
        obtain ⟨p, hp, e⟩ := List.mem_map.1 ((M.sortN_perm (l.map M.Pk.name)).mem_iff.1 (by rw [HR.out]; exact List.getElem_mem hnr))
        exact ⟨p, hp, e⟩
      obtain ⟨g, rfl, hg, hcap, hc⟩ := HRow.out.cellAt (by omega)
      have c0 : wr.cell? ⟨g, n, none⟩ = some (.string ⟨p.name.toArray⟩) := (hBr.cell (p := ⟨g, n, none⟩) hg).trans (hc n _ (by unfold nmCells; rw [List.getElem?_map, List.getElem?_eq_getElem hnr, hpn]; rfl))
      obtain ⟨Y, hY⟩ : ∃ Y : ByteArray, Y = ⟨p.name.toArray⟩ := ⟨_, rfl⟩
      rw [← hY] at c0
      have hYd : Y.data.toList = p.name := by rw [hY]
      have hYs : Y.size ≤ maxLen := by have := (HS.out p hp).short.name; rw [size_of hYd]; unfold maxLen; omega
      have HYd : Hid (Y.data.toList = p.name) := hYd
      have hnn := (HS.out p hp).short.needn
      have HSp : Hid (ReadP p) := HS.out p hp
      have HNm : Hid (r[n]? = some p.name) := by show _ = _; rw [List.getElem?_eq_getElem hnr, hpn]
      obtain ⟨f, hm, hv⟩ := HL.out.below (bt hB1 hBr)
      obtain ⟨nv, bv, fv, ev, hN1, hN2, hN3⟩ := hv p hp
      obtain ⟨an, cn, en⟩ := hN1.form
      subst en
      have hr1 : (Instr.lookup 135 (.map (some b)) (.string Y) false).run Tryz.prog wr = .ok (.agg #[.string ⟨p.name.toArray⟩, .string ⟨p.ver.toArray⟩, .slice an p.needs.length cn, bv, fv]) wr := by
        rw [hm.look Tryz.underlying9 setMap (zeroPk_run wr) hYs, hYd, (look_mem hm.keys).2 (List.mem_map.2 ⟨p, hp, rfl⟩), Option.getD_some, ev]
      have HN : Hid (NeedsIn wr 0 wr.heap.size (.slice an p.needs.length cn) p.needs) := hN1
      clear hm hv ev hN1 hN2 hN3 hY hYd hc hpn
      obtain ⟨W0, hW0⟩ : ∃ W, W = wr := ⟨_, rfl⟩
      subst hW0
      have hfd := field_needs
      go_wp2
      go_step3
      go_wp2
      go_step3
      go_wp2
      clear hfd
      go_loopw [6, 8, 21] (fun _ _ i wr => ∃ m : Nat, i = .int .i64 m ∧ m ≤ p.needs.length ∧ Below W0.heap.size W0 wr ∧ Hid (∀ g ∈ p.needs.take m, M.any1S g l = true)) (fun _ _ i _ => p.needs.length - (intOf i).toNat)
      case atStart => exact ⟨0, rfl, Nat.zero_le _, Below.refl _ _, fun g hg => by simp at hg⟩
      case round =>
        obtain ⟨m, rfl, hm', hBm, HG⟩ := hrel
        by_cases hlm : m < p.needs.length
        · have hNw : NeedsIn wr 0 wr.heap.size (.slice an p.needs.length cn) p.needs := (HN.out.keep fun g' o' _ hg' => hBm.cell (p := ⟨g', o', none⟩) hg').wide (Nat.zero_le _) hBm.size
          obtain ⟨gn, au, cu, rfl, hgn, hcell, hrow⟩ := hNw.at m hlm
          have hncap : p.needs.length ≤ cn := by
            obtain ⟨vs, h1, _⟩ := hNw
            obtain ⟨_, h0, _⟩ | ⟨g', cap, e1, e2, _⟩ := h1
            · omega
            · cases e1; exact e2
          have HRw : Hid (RowIn wr 0 wr.heap.size (.slice au p.needs[m].length cu) p.needs[m].length (chsCells p.needs[m])) := hrow
          have hgl := (HSp.out.short.needs _ (List.getElem_mem hlm)).1
          clear hNw hrow
          obtain ⟨W2, hW2⟩ : ∃ W, W = wr := ⟨_, rfl⟩
          subst hW2
          go_wp2
          go_loopw [8, 27] (fun _ i wr => ∃ j : Nat, i = .int .i64 j ∧ j ≤ p.needs[m].length ∧ Below W2.heap.size W2 wr ∧ Hid (∀ c ∈ p.needs[m].take j, (l.any fun q => M.fitsS c q) = false)) (fun _ i _ => p.needs[m].length - (intOf i).toNat)
          case atStart => exact ⟨0, rfl, Nat.zero_le _, Below.refl _ _, fun c hc => by simp at hc⟩
          case round =>
            obtain ⟨j, rfl, hj', hBj, HC⟩ := hrel
            by_cases hlj : j < p.needs[m].length
            · obtain ⟨bg, rfl, hbg, hcapg, hcg⟩ := HRw.out.cellAt (by omega)
              obtain ⟨k0, k1, k2⟩ := ch_cell hlj
              have q0 : wr.cell? ⟨bg, j * 3, none⟩ = some (.string ⟨p.needs[m][j].name.toArray⟩) := (hBj.cell (p := ⟨bg, j * 3, none⟩) hbg).trans (hcg _ _ k0)
              have q1 : wr.cell? ⟨bg, j * 3 + 1, none⟩ = some (.string ⟨p.needs[m][j].sign.toArray⟩) := (hBj.cell (p := ⟨bg, j * 3 + 1, none⟩) hbg).trans (hcg _ _ k1)
              have q2 : wr.cell? ⟨bg, j * 3 + 2, none⟩ = some (.string ⟨p.needs[m][j].ver.toArray⟩) := (hBj.cell (p := ⟨bg, j * 3 + 2, none⟩) hbg).trans (hcg _ _ k2)
              have hsc := (HSp.out.short.needs _ (List.getElem_mem hlm)).2 _ (List.getElem_mem hlj)
              have hBw : Below w.heap.size w wr := bt hB1 (bt hBr (bt hBm hBj))
              have cH := fun wx (hb : Below wr.heap.size wr wx) => has_any b l p.needs[m][j] wx (HL.out.below (bt hBw hb)) (fun q hq => (HS.out q hq).smallQ.1) (HSp.out.good.needs _ (List.getElem_mem hlm) _ (List.getElem_mem hlj)) (by omega) (by omega)
              have hBa : Below wr.heap.size wr (wr.alloc (.cells #[.string ⟨p.needs[m][j].name.toArray⟩, .string ⟨p.needs[m][j].sign.toArray⟩, .string ⟨p.needs[m][j].ver.toArray⟩] 156)) := (Below.refl _ wr).alloc (Nat.le_refl _) _
              have HBa : Hid (Below wr.heap.size wr (wr.alloc (.cells #[.string ⟨p.needs[m][j].name.toArray⟩, .string ⟨p.needs[m][j].sign.toArray⟩, .string ⟨p.needs[m][j].ver.toArray⟩] 156))) := hBa
              clear hcg k0 k1 k2 hsc hBa
              go_wp2_with fail
              refine (cH _ HBa.out).mono ?_
              rintro e w5 ⟨rfl, hB5⟩
              have hB6 : Below wr.heap.size wr w5 := bt HBa.out hB5
              clear cH HBa hB5
              cases hB : (l.any fun q => M.fitsS p.needs[m][j] q) with
              | true =>
                have HG2 : Hid (∀ g ∈ p.needs.take (m + 1), M.any1S g l = true) := fun g hg => by
                  rw [List.take_succ_eq_append_getElem hlm] at hg
                  rcases List.mem_append.1 hg with hg | hg
                  · exact HG.out g hg
                  · simp at hg
                    subst hg
                    exact List.any_eq_true.2 ⟨_, List.getElem_mem hlj, hB⟩
                have hB7 : Below W0.heap.size W0 w5 := bt hBm (bt hBj hB6)
                clear hB
                go_wp2
                go_roundw
                case rel => exact ⟨m + 1, by go_num, by omega, hB7, HG2⟩
                case measure => simp [intOf]; omega
              | false =>
                have HC2 : Hid (∀ c ∈ p.needs[m].take (j + 1), (l.any fun q => M.fitsS c q) = false) := fun c hc => by
                  rw [List.take_succ_eq_append_getElem hlj] at hc
                  rcases List.mem_append.1 hc with hc | hc
                  · exact HC.out c hc
                  · simp at hc
                    subst hc
                    exact hB
                have hB7 : Below W2.heap.size W2 w5 := bt hBj hB6
                clear hB
                go_wp2
                go_roundw
                case rel => exact ⟨j + 1, by go_num, by omega, hB7, HC2⟩
                case measure => simp [intOf]; omega
            · have hjj : j = p.needs[m].length := by omega
              have HLk : Hid (M.lackingS l = p.name) := by
                refine first_name HA.out HMin.out hp (by rw [HR.out]; exact HNm.out) ⟨p.needs[m], List.getElem_mem hlm, ?_⟩ (by rw [HR.out]; exact HQ.out)
                unfold M.any1S
                rw [List.any_eq_false]
                intro c hc
                have := HC.out c (by rw [hjj, List.take_length]; exact hc)
                rw [this]
                simp
              have hBw : Below w.heap.size w wr := bt hB1 (bt hBr (bt hBm hBj))
              clear hjj
              go_wp2
              rw [Exit.noGoto_ret]
              go_wp2
              go_ret
              exact ⟨Y, rfl, by rw [HLk.out]; exact HYd.out, hBw⟩
        · have hmm : m = p.needs.length := by omega
          have HQ2 : Hid (∀ q ∈ l, q.name ∈ r.take (n + 1) → ¬ M.Lacks l q) := fun q hq hqn => by
            rw [List.take_succ_eq_append_getElem hnr] at hqn
            rcases List.mem_append.1 hqn with hqn | hqn
            · exact HQ.out q hq hqn
            · simp at hqn
              have e : q = p := HA.out.eq hq hp (by
                have := HNm.out
                rw [List.getElem?_eq_getElem hnr] at this
                rw [hqn]
                exact Option.some.inj this)
              subst e
              rintro ⟨g, hg, hno⟩
              rw [HG.out g (by rw [hmm, List.take_length]; exact hg)] at hno
              cases hno
          have hB7 : Below w1.heap.size w1 wr := bt hBr hBm
          clear hmm
          go_wp2
          rw [Exit.noGoto_normal]
          go_wp2
          go_roundw
          case rel => exact ⟨n + 1, by go_num, by omega, hB7, HQ2⟩
          case measure => simp [intOf]; omega
    · have hnn : n = l.length := by omega
      have HE : Hid (M.lackingS l = []) := by
        refine no_name HMin.out (fun q hq hqn => HQ.out q hq ?_)
        rw [hnn, ← HRL.out, List.take_length, ← HR.out]
        exact hqn
      have hBw : Below w.heap.size w wr := bt hB1 hBr
      clear hnn
      go_wp2
      go_ret
      exact ⟨⟨#[]⟩, rfl, by rw [HE.out], hBw⟩
end Go.Proofs.YtgnfknjopafngaaGreatDoor
/-
  THE CODE, WALKED: the first package that bars another.
-/
namespace Go.Proofs.YtgnfknjopafngaaGreatDoor
open Go.RowKit Go.Maps

theorem bars_iff {l : List M.Pk} {p : M.Pk} : M.Bars l p ↔ ∃ c ∈ p.bars, c.name ≠ p.name ∧ (l.any fun q => M.fitsS c q) = true := by
  have hfit : ∀ {c : M.Ch} {q : M.Pk}, M.fitsS c q = true → c.name = q.name := fun {c q} h => by
    unfold M.fitsS at h
    split at h
    · assumption
    · cases h
  unfold M.Bars M.any1S
  constructor
  · rintro ⟨q, hq, hne, h⟩
    obtain ⟨c, hc, h⟩ := List.any_eq_true.1 h
    simp only [List.any_cons, List.any_nil, Bool.or_false] at h
    exact ⟨c, hc, by rw [hfit h]; exact hne, List.any_eq_true.2 ⟨q, hq, h⟩⟩
  · rintro ⟨c, hc, hne, h⟩
    obtain ⟨q, hq, h⟩ := List.any_eq_true.1 h
    exact ⟨q, hq, by rw [← hfit h]; exact hne, List.any_eq_true.2 ⟨c, hc, by simpa using h⟩⟩

set_option maxRecDepth 100000 in
set_option maxHeartbeats 8000000 in
theorem firstBarring_any (b : Nat) (l : List M.Pk) (w : World) (hl : SetIn w b l) (hn : l.length ≤ 1000000) (hs : ∀ p ∈ l, ReadP p) :
    Calls Tryz.prog 236 #[.map (some b)] w fun e w' => ∃ T : ByteArray, e = .returned (.string T) ∧ T.data.toList = M.barringS l ∧ Below w.heap.size w w' := by
  have cN := fun wx (hb : Below w.heap.size w wx) => names_any b l wx (hl.below hb) hn
  have HL : Hid (SetIn w b l) := hl
  have HA : Hid (M.Apart l) := hl.apart
  have HS : Hid (∀ p ∈ l, ReadP p) := hs
  have HMin : Hid (M.IsMin (fun x => ∃ p ∈ l, M.Bars l p ∧ x = p.name) (M.barringS l)) := M.barring_min hl.apart (fun p hp => (hs p hp).name)
  have HRL : Hid ((M.sortN (l.map M.Pk.name)).length = l.length) := by show _ = _; rw [(M.sortN_perm _).length_eq, List.length_map]
  generalize hr : M.sortN (l.map M.Pk.name) = r at HRL
  have HR : Hid (M.sortN (l.map M.Pk.name) = r) := hr
  clear hl hs hr
  go_enter Tryz.func236, Tryz.ntmps236
  go_wp2_with fail
  refine (cN _ (Below.refl _ _)).mono ?_
  rintro e w1 ⟨v, rfl, hrow, hB1⟩
  obtain ⟨a1, c1, e1⟩ := own_form hrow
  subst e1
  have HRow : Hid (RowIn w1 0 w1.heap.size (.slice a1 l.length c1) l.length (nmCells r)) := by rw [← HR.out]; exact (RowIn.own hrow).wide (Nat.zero_le _) (Nat.le_refl _)
  clear cN hrow
  go_wp2
  go_loopw [4, 6, 10] (fun _ _ i wr => ∃ n : Nat, i = .int .i64 n ∧ n ≤ l.length ∧ Below w1.heap.size w1 wr ∧ Hid (∀ q ∈ l, q.name ∈ r.take n → ¬ M.Bars l q)) (fun _ _ i _ => l.length - (intOf i).toNat)
  case atStart => exact ⟨0, rfl, Nat.zero_le _, Below.refl _ _, fun q _ hq => by simp at hq⟩
  case round =>
    obtain ⟨n, rfl, hn', hBr, HQ⟩ := hrel
    by_cases hlt : n < l.length
    · have hnr : n < r.length := by rw [HRL.out]; exact hlt
      obtain ⟨p, hp, hpn⟩ : ∃ p ∈ l, p.name = r[n] := by
        obtain ⟨p, hp, e⟩ := List.mem_map.1 ((M.sortN_perm (l.map M.Pk.name)).mem_iff.1 (by rw [HR.out]; exact List.getElem_mem hnr))
        exact ⟨p, hp, e⟩
      obtain ⟨g, rfl, hg, hcap, hc⟩ := HRow.out.cellAt (by omega)
      have c0 : wr.cell? ⟨g, n, none⟩ = some (.string ⟨p.name.toArray⟩) := (hBr.cell (p := ⟨g, n, none⟩) hg).trans (hc n _ (by unfold nmCells; rw [List.getElem?_map, List.getElem?_eq_getElem hnr, hpn]; rfl))
      obtain ⟨Y, hY⟩ : ∃ Y : ByteArray, Y = ⟨p.name.toArray⟩ := ⟨_, rfl⟩
      rw [← hY] at c0
      have hYd : Y.data.toList = p.name := by rw [hY]
      have hYs : Y.size ≤ maxLen := by have := (HS.out p hp).short.name; rw [size_of hYd]; unfold maxLen; omega
      have HYd : Hid (Y.data.toList = p.name) := hYd
      have hnn := (HS.out p hp).short.bars.1
      have HSp : Hid (ReadP p) := HS.out p hp
      have HNm : Hid (r[n]? = some p.name) := by show _ = _; rw [List.getElem?_eq_getElem hnr, hpn]
      obtain ⟨f, hm, hv⟩ := HL.out.below (bt hB1 hBr)
      obtain ⟨nv, bv, fv, ev, hN1, hN2, hN3⟩ := hv p hp
      obtain ⟨an, cn, en⟩ := hN2.form
      subst en
      have hr1 : (Instr.lookup 135 (.map (some b)) (.string Y) false).run Tryz.prog wr = .ok (.agg #[.string ⟨p.name.toArray⟩, .string ⟨p.ver.toArray⟩, nv, .slice an p.bars.length cn, fv]) wr := by
        rw [hm.look Tryz.underlying9 setMap (zeroPk_run wr) hYs, hYd, (look_mem hm.keys).2 (List.mem_map.2 ⟨p, hp, rfl⟩), Option.getD_some, ev]
      have HN : Hid (RowIn wr 0 wr.heap.size (.slice an p.bars.length cn) p.bars.length (chsCells p.bars)) := hN2
      clear hm hv ev hN1 hN2 hN3 hY hYd hc hpn
      obtain ⟨W0, hW0⟩ : ∃ W, W = wr := ⟨_, rfl⟩
      subst hW0
      have hfd := field_bars
      go_wp2
      clear hfd
      go_loopw [6, 19] (fun _ i wr => ∃ j : Nat, i = .int .i64 j ∧ j ≤ p.bars.length ∧ Below W0.heap.size W0 wr ∧ Hid (∀ c ∈ p.bars.take j, ¬ (c.name ≠ p.name ∧ (l.any fun q => M.fitsS c q) = true))) (fun _ i _ => p.bars.length - (intOf i).toNat)
      case atStart => exact ⟨0, rfl, Nat.zero_le _, Below.refl _ _, fun c hc => by simp at hc⟩
      case round =>
        obtain ⟨j, rfl, hj', hBj, HC⟩ := hrel
        by_cases hlj : j < p.bars.length
        · obtain ⟨bg, rfl, hbg, hcapg, hcg⟩ := HN.out.cellAt (by omega)
          obtain ⟨k0, k1, k2⟩ := ch_cell hlj
          obtain ⟨X, hX⟩ : ∃ X : ByteArray, X = ⟨p.bars[j].name.toArray⟩ := ⟨_, rfl⟩
          have q0 : wr.cell? ⟨bg, j * 3, none⟩ = some (.string X) := by rw [hX]; exact (hBj.cell (p := ⟨bg, j * 3, none⟩) hbg).trans (hcg _ _ k0)
          have q1 : wr.cell? ⟨bg, j * 3 + 1, none⟩ = some (.string ⟨p.bars[j].sign.toArray⟩) := (hBj.cell (p := ⟨bg, j * 3 + 1, none⟩) hbg).trans (hcg _ _ k1)
          have q2 : wr.cell? ⟨bg, j * 3 + 2, none⟩ = some (.string ⟨p.bars[j].ver.toArray⟩) := (hBj.cell (p := ⟨bg, j * 3 + 2, none⟩) hbg).trans (hcg _ _ k2)
          have HX : Hid (X.data.toList = p.bars[j].name) := by show _ = _; rw [hX]
          have hsc := HSp.out.short.bars.2 _ (List.getElem_mem hlj)
          have hBw : Below w.heap.size w wr := bt hB1 (bt hBr hBj)
          have cH := fun wx (hb : Below wr.heap.size wr wx) => has_any b l p.bars[j] wx (HL.out.below (bt hBw hb)) (fun q hq => (HS.out q hq).smallQ.1) (HSp.out.good.bars _ (List.getElem_mem hlj)) (by omega) (by omega)
          rw [← hX] at cH
          have HBa : Hid (Below wr.heap.size wr (wr.alloc (.cells #[.string X, .string ⟨p.bars[j].sign.toArray⟩, .string ⟨p.bars[j].ver.toArray⟩] 156))) := (Below.refl _ wr).alloc (Nat.le_refl _) _
          clear hcg k0 k1 k2 hsc hX
          by_cases hm : (X.toList == Y.toList) = true
          · have HC2 : Hid (∀ c ∈ p.bars.take (j + 1), ¬ (c.name ≠ p.name ∧ (l.any fun q => M.fitsS c q) = true)) := fun c hc => by
              rw [List.take_succ_eq_append_getElem hlj] at hc
              rcases List.mem_append.1 hc with hc | hc
              · exact HC.out c hc
              · simp at hc
                subst hc
                rintro ⟨hne, _⟩
                rw [Lib.toList_data, Lib.toList_data, beq_iff_eq, HX.out, HYd.out] at hm
                exact hne hm
            have hB7 : Below W0.heap.size W0 (wr.alloc (.cells #[.string X, .string ⟨p.bars[j].sign.toArray⟩, .string ⟨p.bars[j].ver.toArray⟩] 156)) := bt hBj HBa.out
            clear cH
            go_wp2
            go_roundw
            case rel => exact ⟨j + 1, by go_num, by omega, hB7, HC2⟩
            case measure => simp [intOf]; omega
          · replace hm : (X.toList == Y.toList) = false := by simpa using hm
            go_wp2_with fail
            refine (cH _ HBa.out).mono ?_
            rintro e w5 ⟨rfl, hB5⟩
            have hB6 : Below wr.heap.size wr w5 := bt HBa.out hB5
            have HNe : Hid (p.bars[j].name ≠ p.name) := by
              rw [Lib.toList_data, Lib.toList_data, beq_eq_false_iff_ne, HX.out, HYd.out] at hm
              exact hm
            clear cH HBa hB5
            cases hB : (l.any fun q => M.fitsS p.bars[j] q) with
            | true =>
              have HLk : Hid (M.barringS l = p.name) := first_name HA.out HMin.out hp (by rw [HR.out]; exact HNm.out) (bars_iff.2 ⟨_, List.getElem_mem hlj, HNe.out, hB⟩) (by rw [HR.out]; exact HQ.out)
              have hB7 : Below w.heap.size w w5 := bt hBw hB6
              clear hB
              go_wp2
              go_ret
              exact ⟨Y, rfl, by rw [HLk.out]; exact HYd.out, hB7⟩
            | false =>
              have HC2 : Hid (∀ c ∈ p.bars.take (j + 1), ¬ (c.name ≠ p.name ∧ (l.any fun q => M.fitsS c q) = true)) := fun c hc => by
                rw [List.take_succ_eq_append_getElem hlj] at hc
                rcases List.mem_append.1 hc with hc | hc
                · exact HC.out c hc
                · simp at hc
                  subst hc
                  rintro ⟨_, h⟩
                  rw [hB] at h
                  cases h
              have hB7 : Below W0.heap.size W0 w5 := bt hBj hB6
              clear hB
              go_wp2
              go_roundw
              case rel => exact ⟨j + 1, by go_num, by omega, hB7, HC2⟩
              case measure => simp [intOf]; omega
        · have hmm : j = p.bars.length := by omega
          have HQ2 : Hid (∀ q ∈ l, q.name ∈ r.take (n + 1) → ¬ M.Bars l q) := fun q hq hqn => by
            rw [List.take_succ_eq_append_getElem hnr] at hqn
            rcases List.mem_append.1 hqn with hqn | hqn
            · exact HQ.out q hq hqn
            · simp at hqn
              have e : q = p := HA.out.eq hq hp (by
                have := HNm.out
                rw [List.getElem?_eq_getElem hnr] at this
                rw [hqn]
                exact Option.some.inj this)
              subst e
              intro hb
              obtain ⟨c, hc, h⟩ := bars_iff.1 hb
              exact HC.out c (by rw [hmm, List.take_length]; exact hc) h
          have hB7 : Below w1.heap.size w1 wr := bt hBr hBj
          clear hmm
          go_wp2
          go_roundw
          case rel => exact ⟨n + 1, by go_num, by omega, hB7, HQ2⟩
          case measure => simp [intOf]; omega
    · have hnn : n = l.length := by omega
      have HE : Hid (M.barringS l = []) := by
        refine no_name HMin.out (fun q hq hqn => HQ.out q hq ?_)
        rw [hnn, ← HRL.out, List.take_length, ← HR.out]
        exact hqn
      have hBw : Below w.heap.size w wr := bt hB1 hBr
      clear hnn
      go_wp2
      go_ret
      exact ⟨⟨#[]⟩, rfl, by rw [HE.out], hBw⟩
end Go.Proofs.YtgnfknjopafngaaGreatDoor
/-
  THE CODE, WALKED: to how many packages each path belongs (owners).
-/
namespace Go.Proofs.YtgnfknjopafngaaGreatDoor
open Go.RowKit Go.Maps

theorem cntMap : Tryz.prog.underlying 280 = some (.map 9 3) := by kernel_rfl
theorem zeroInt_run (w : World) : (zeroValue 3).run Tryz.prog w = .ok (.int .i64 0) w := by rw [Tryz.zeroValue3]
/-- A map of numbers, nought where there is none. -/
def CntIn (w : World) (b : Nat) (c : List UInt8 → Nat) (N : Nat) : Prop := ∃ m : List KV, StrMap Tryz.prog 9 w b m ∧ m.length ≤ N ∧ ∀ x, lookK m x = if c x = 0 then none else some (.int .i64 (c x))
theorem CntIn.below {w w' : World} {B b : Nat} {c : List UInt8 → Nat} {N : Nat} (h : CntIn w b c N) (hb : Below B w w') (hlt : b < B) : CntIn w' b c N := by
  obtain ⟨m, h1, h2⟩ := h
  exact ⟨m, h1.below hb hlt, h2⟩
theorem CntIn.kept {w w' : World} {b : Nat} {c : List UInt8 → Nat} {N : Nat} {row : Option Nat} (h : CntIn w b c N) (hg : w.grownBy w' row) (hne : some b ≠ row) : CntIn w' b c N := by
  obtain ⟨m, h1, h2⟩ := h
  exact ⟨m, h1.kept hg hne, h2⟩
theorem CntIn.get {m : List KV} {c : List UInt8 → Nat} (h : ∀ x, lookK m x = if c x = 0 then none else some (.int .i64 (c x))) (x : List UInt8) : (lookK m x).getD (.int .i64 0) = .int .i64 (c x) := by
  rw [h]
  by_cases h0 : c x = 0
  · rw [if_pos h0, h0]; rfl
  · rw [if_neg h0]; rfl
theorem look_put {m : List KV} {k x : List UInt8} {v : Value} : lookK (putK m k v) x = if x = k then some v else lookK m x := by
  unfold lookK putK
  by_cases h : x = k
  · subst h; simp
  · rw [if_neg h, List.find?_cons_of_neg (by simpa using fun e => h e.symm)]
    congr 1
    exact find_filter_keep (fun p hp => by
      have : p.1 = x := by simpa using hp
      rw [this]
      simpa using h) m
/-- One more at a path. -/
def plus1 (c : List UInt8 → Nat) (k : List UInt8) : List UInt8 → Nat := fun x => if x = k then c k + 1 else c x
theorem CntIn.put {m : List KV} {c : List UInt8 → Nat} {N : Nat} {w' : World} {b : Nat} {k : List UInt8} (hN : m.length ≤ N) (h : ∀ x, lookK m x = if c x = 0 then none else some (.int .i64 (c x)))
    (h' : StrMap Tryz.prog 9 w' b (putK m k (.int .i64 ((c k : Int) + 1)))) : CntIn w' b (plus1 c k) (N + 1) := by
  refine ⟨_, h', ?_, fun x => ?_⟩
  · unfold putK
    have := List.length_filter_le (fun p : KV => p.1 != k) m
    simp only [List.length_cons]
    omega
  · rw [look_put]
    unfold plus1
    by_cases hx : x = k
    · rw [if_pos hx, if_pos hx, if_neg (by omega)]
      simp
    · rw [if_neg hx, if_neg hx]
      exact h x
/-- The paths of a package of a name. -/
def pathsAt (l : List M.Pk) (q : KV) : List (List UInt8) := match l.find? (fun p => p.name == q.1) with
  | some p => p.files.map M.Fl.path
  | none => []
theorem pathsAt_is {l : List M.Pk} (ha : M.Apart l) {p : M.Pk} (hp : p ∈ l) (v : Value) : pathsAt l (p.name, v) = p.files.map M.Fl.path := by
  unfold pathsAt
  cases h : l.find? (fun q => q.name == (p.name, v).1) with
  | none =>
    have := List.find?_eq_none.1 h p hp
    simp at this
  | some q =>
    have h1 := List.find?_some h
    have e := ha.eq (List.mem_of_find?_eq_some h) hp (by simpa using h1)
    rw [e]
theorem paths_all {l : List M.Pk} (ha : M.Apart l) (f : M.Pk → Value) : (l.map fun p => (p.name, f p)).flatMap (pathsAt l) = M.pathsOf l := by
  unfold M.pathsOf
  rw [List.flatMap_map]
  have : ∀ k : List M.Pk, (∀ p ∈ k, p ∈ l) → k.flatMap (fun p => pathsAt l (p.name, f p)) = k.flatMap (fun p => p.files.map M.Fl.path) := by
    intro k
    induction k with
    | nil => intro _; rfl
    | cons p k ih => intro h; rw [List.flatMap_cons, List.flatMap_cons, pathsAt_is ha (h p (by simp)), ih (fun q hq => h q (by simp [hq]))]
  exact this l (fun p hp => hp)
theorem file_cells {l : List M.Fl} {k : Nat} (hk : k < l.length) : (flsCells l)[k * 2]? = some (.string ⟨l[k].path.toArray⟩) ∧ (flsCells l)[k * 2 + 1]? = some (.string ⟨l[k].content.toArray⟩) := by
  rw [Nat.mul_comm]
  exact ⟨fl_cell hk, fl_cell2' hk⟩

set_option maxRecDepth 100000 in
set_option maxHeartbeats 8000000 in
theorem owners_any (b : Nat) (l : List M.Pk) (w : World) (hl : SetIn w b l) (hn : l.length ≤ 100000) (hs : ∀ p ∈ l, ReadP p) :
    Calls Tryz.prog 266 #[.map (some b)] w fun e w' => ∃ ob N, e = .returned (.map (some ob)) ∧ CntIn w' ob (fun x => (M.pathsOf l).count x) N ∧ N ≤ 1000000000 ∧ Below w.heap.size w w' := by
  have hmm := @run_makeMap Tryz.prog
  have HA : Hid (M.Apart l) := hl.apart
  have HS : Hid (∀ p ∈ l, ReadP p) := hs
  have hbl := hl.lt
  obtain ⟨f, m1, v1⟩ := hl
  have HTot : Hid ((M.pathsOf l).length ≤ 1000000000) := by
    show _ ≤ _
    have : ∀ k : List M.Pk, (∀ p ∈ k, ReadP p) → (M.pathsOf k).length ≤ k.length * 1000 := by
      intro k
      induction k with
      | nil => intro _; simp [M.pathsOf]
      | cons p k ih =>
        intro h
        have h1 := (h p (by simp)).short.filen
        have h2 := ih (fun q hq => h q (by simp [hq]))
        unfold M.pathsOf at h2 ⊢
        rw [List.flatMap_cons, List.length_append, List.length_map, List.length_cons]
        omega
    have := this l hs
    omega
  generalize hW1 : w.alloc (.map #[] 0) = W1
  have hga : w.grownBy W1 none := by rw [← hW1]; exact World.grownBy_alloc w _ none
  have s1 : W1.heap.size = w.heap.size + 1 := by rw [← hW1]; simp
  have hm0 : StrMap Tryz.prog 9 W1 w.heap.size [] := by rw [← hW1]; exact StrMap.made w
  have HB1 : Hid (Below w.heap.size w W1) := by rw [← hW1]; exact (Below.refl _ w).alloc (Nat.le_refl _) _
  have m1' := m1.kept hga (by simp)
  have HV : Hid (∀ p ∈ l, PkVal w p (f p)) := v1
  have HSh : Hid (∀ q ∈ l.map (fun p => (p.name, f p)), PkShape q.2) := fun q hq => by
    obtain ⟨p, hp, rfl⟩ := List.mem_map.1 hq
    exact (v1 p hp).shape
  have HPA : Hid ((l.map fun p => (p.name, f p)).flatMap (pathsAt l) = M.pathsOf l) := paths_all HA.out f
  generalize hL : (l.map fun p => (p.name, f p)) = L at m1' HSh HPA
  have HL : Hid ((l.map fun p => (p.name, f p)) = L) := hL
  clear v1 hs m1 hga hL
  go_enter Tryz.func266, Tryz.ntmps266
  go_wp2_with (first | (at_range; refine wpList_range_str rfl _ rfl Tryz.underlying9 setMap b L rfl m1' ?_; intro w0 hrg0 hg0 hs0) | go_in)
  go_frame
  rw [s1] at hrg0 hs0 ⊢
  have HC0 : Hid (CntIn w0 w.heap.size (fun _ => 0) 0) := ⟨[], hm0.kept hg0 (by simp), Nat.le_refl _, fun x => rfl⟩
  have hB0 : Below w.heap.size w w0 := HB1.out.grown hg0 HB1.out.size (fun j hj => by cases hj)
  go_loopw [5, 7] (fun _ _ wr => ∃ (todo : List KV) (cnt N : Nat) (c : List UInt8 → Nat), Ranging Tryz.prog 9 wr b (w.heap.size + 1) L todo cnt ∧ Hid (CntIn wr w.heap.size c N) ∧ Hid (∀ x, c x + (todo.flatMap (pathsAt l)).count x = (M.pathsOf l).count x) ∧ Hid (N + (todo.flatMap (pathsAt l)).length ≤ (M.pathsOf l).length) ∧ Below w.heap.size w wr) (fun _ _ wr => wr.rangeLeft b (w.heap.size + 1))
  case atStart => exact ⟨L, _, 0, fun _ => 0, hrg0, HC0, fun x => by rw [HPA.out]; simp, by show _ ≤ _; rw [HPA.out]; omega, hB0⟩
  case round =>
    obtain ⟨todo, cnt, N, c, hrg, HC, HX, HN, hBr⟩ := hrel
    go_wp2_with (first | (at_next; refine wpList_next_pk rfl _ rfl Tryz.underlying9 b (w.heap.size + 1) L todo cnt rfl hrg HSh.out ?_ ?_) | go_in)
    · intro hc0 ht0
      have HF : Hid (CntIn wr w.heap.size (fun x => (M.pathsOf l).count x) N) := by
        have e : c = fun x => (M.pathsOf l).count x := by
          funext x
          have := HX.out x
          rw [ht0] at this
          simpa using this
        rw [← e]
        exact HC.out
      have HNl : Hid (N ≤ 1000000000) := by show _ ≤ _; have := HN.out; have := HTot.out; omega
      clear hc0 ht0
      go_wp2
      go_ret
      exact ⟨_, N, rfl, HF.out, HNl.out, hBr⟩
    · intro k x y x1 n1 c1 x2 n2 c2 x3 n3 c3 todo' w' cnt' hks hperm hrg' hlt hg' hs' hen
      have hrr : w.heap.size ≠ w.heap.size + 1 := by omega
      -- whose package it is
      have hmem : (k.data.toList, Value.agg #[.string x, .string y, .slice x1 n1 c1, .slice x2 n2 c2, .slice x3 n3 c3]) ∈ L := by
        obtain ⟨_, _, _, _, _, _, _, h4⟩ := hrg
        exact ((h4 _).1 (hperm.mem_iff.2 List.mem_cons_self)).1
      obtain ⟨p, hp, hpe⟩ : ∃ p ∈ l, (p.name, f p) = (k.data.toList, Value.agg #[.string x, .string y, .slice x1 n1 c1, .slice x2 n2 c2, .slice x3 n3 c3]) := by
        rw [← HL.out] at hmem
        obtain ⟨p, hp, e⟩ := List.mem_map.1 hmem
        exact ⟨p, hp, e⟩
      have hpn : p.name = k.data.toList := congrArg Prod.fst hpe
      have hpv : f p = Value.agg #[.string x, .string y, .slice x1 n1 c1, .slice x2 n2 c2, .slice x3 n3 c3] := congrArg Prod.snd hpe
      have hrow : RowIn w 0 w.heap.size (.slice x3 n3 c3) p.files.length (flsCells p.files) ∧ n3 = p.files.length := by
        obtain ⟨nv, bv, fv, e, _, _, h3⟩ := HV.out p hp
        rw [hpv] at e
        simp only [Value.agg.injEq, Array.mk.injEq, List.cons.injEq, and_true] at e
        obtain ⟨_, _, _, _, rfl⟩ := e
        obtain ⟨_, _, e3⟩ := h3.form
        injection e3 with _ e3 _
        exact ⟨h3, e3⟩
      obtain ⟨hrow, rfl⟩ := hrow
      have HFR : Hid (RowIn w 0 w.heap.size (.slice x3 p.files.length c3) p.files.length (flsCells p.files)) := hrow
      have HPth : Hid (pathsAt l (k.data.toList, Value.agg #[.string x, .string y, .slice x1 n1 c1, .slice x2 n2 c2, .slice x3 p.files.length c3]) = p.files.map M.Fl.path) := by
        show _ = _
        rw [← hpn]
        exact pathsAt_is HA.out hp _
      have HSp : Hid (ReadP p) := HS.out p hp
      have hfn := HSp.out.short.filen
      have HX1 : Hid (∀ x, c x + ((p.files.map M.Fl.path).count x + (todo'.flatMap (pathsAt l)).count x) = (M.pathsOf l).count x) := fun z => by
        have := HX.out z
        rw [(hperm.flatMap_right (pathsAt l)).count_eq z, List.flatMap_cons, List.count_append, HPth.out] at this
        exact this
      have HN1 : Hid (N + (p.files.length + (todo'.flatMap (pathsAt l)).length) ≤ (M.pathsOf l).length) := by
        show _ ≤ _
        have := HN.out
        rw [(hperm.flatMap_right (pathsAt l)).length_eq, List.flatMap_cons, List.length_append, HPth.out, List.length_map] at this
        exact this
      have hc' : CntIn w' w.heap.size c N := HC.out.kept hg' (fun e => hrr (Option.some.inj e))
      have hBw' : Below w.heap.size w w' := hBr.grown hg' hBr.size (fun j hj => by cases hj; omega)
      clear hperm hmem HC HX HN hs' hpe hpv hpn hrow
      generalize hW2 : w'.alloc (.cells #[.string x, .string y, .slice x1 n1 c1, .slice x2 n2 c2, .slice x3 p.files.length c3] 108) = W2
      have hga : w'.grownBy W2 none := by rw [← hW2]; exact World.grownBy_alloc w' _ none
      have HC2 : Hid (CntIn W2 w.heap.size c N) := hc'.kept hga (by simp)
      have hrg2 := hrg'.kept hga (by simp) (by simp)
      have q4 : W2.cell? ⟨w'.heap.size, 4, none⟩ = some (.slice x3 p.files.length c3) := by rw [← hW2]; exact new_at w' [.string x, .string y, .slice x1 n1 c1, .slice x2 n2 c2, .slice x3 p.files.length c3] _ 4 _ rfl
      have hBw2 : Below w.heap.size w W2 := hBw'.grown hga hBw'.size (fun j hj => by cases hj)
      clear hc'
      go_wp2
      go_loopw [7, 18] (fun _ i wr => ∃ (j N2 : Nat) (c2 : List UInt8 → Nat), i = .int .i64 j ∧ j ≤ p.files.length ∧ Ranging Tryz.prog 9 wr b (w.heap.size + 1) L todo' cnt' ∧ Hid (CntIn wr w.heap.size c2 N2) ∧ Hid (∀ x, c2 x = c x + ((p.files.take j).map M.Fl.path).count x) ∧ Hid (N2 = N + j) ∧ Below w.heap.size w wr) (fun _ i _ => p.files.length - (intOf i).toNat)
      case atStart => exact ⟨0, N, c, rfl, Nat.zero_le _, hrg2, HC2, fun x => by simp, rfl, hBw2⟩
      case round =>
        obtain ⟨j, N2, c2, rfl, hj, hrj, HCj, HXj, HNj, hBj⟩ := hrel
        by_cases hlj : j < p.files.length
        · obtain ⟨gf, rfl, hgf, hcapf, hcf⟩ := HFR.out.cellAt (by omega)
          obtain ⟨f0, f1⟩ := file_cells hlj
          obtain ⟨Y, hY⟩ : ∃ Y : ByteArray, Y = ⟨p.files[j].path.toArray⟩ := ⟨_, rfl⟩
          have q0 : wr.cell? ⟨gf, j * 2, none⟩ = some (.string Y) := by rw [hY]; exact (hBj.cell (p := ⟨gf, j * 2, none⟩) hgf).trans (hcf _ _ f0)
          have q1 : wr.cell? ⟨gf, j * 2 + 1, none⟩ = some (.string ⟨p.files[j].content.toArray⟩) := (hBj.cell (p := ⟨gf, j * 2 + 1, none⟩) hgf).trans (hcf _ _ f1)
          have hYd : Y.data.toList = p.files[j].path := by rw [hY]
          have hYs : Y.size ≤ maxLen := by have := (HSp.out.short.files _ (List.getElem_mem hlj)).1; rw [size_of hYd]; unfold maxLen; omega
          generalize hW3 : wr.alloc (.cells #[.string Y, .string ⟨p.files[j].content.toArray⟩] 159) = W3
          have hgb : wr.grownBy W3 none := by rw [← hW3]; exact World.grownBy_alloc wr _ none
          have r0 : W3.cell? ⟨wr.heap.size, 0, none⟩ = some (.string Y) := by rw [← hW3]; exact new_at wr [.string Y, .string ⟨p.files[j].content.toArray⟩] _ 0 _ rfl
          have hrj3 := hrj.kept hgb (by simp) (by simp)
          obtain ⟨m, hm, hml, hmk⟩ := HCj.out.kept hgb (by simp)
          have hcb : c2 Y.data.toList ≤ 1000000000 := by
            have h1 := HXj.out Y.data.toList
            have h2 := HX1.out Y.data.toList
            have h3 := HTot.out
            have h4 := List.count_le_length (a := Y.data.toList) (l := M.pathsOf l)
            have h5 : ((p.files.take j).map M.Fl.path).count Y.data.toList ≤ (p.files.map M.Fl.path).count Y.data.toList := List.Sublist.count_le _ ((List.take_sublist j p.files).map _)
            omega
          have hlk : (Instr.lookup 280 (.map (some w.heap.size)) (.string Y) false).run Tryz.prog W3 = .ok (.int .i64 (c2 Y.data.toList)) W3 := by
            rw [hm.look Tryz.underlying9 cntMap (zeroInt_run W3) hYs, CntIn.get hmk]
          have hw1 : IntKind.i64.wrap ((c2 Y.data.toList : Int) + 1) = (c2 Y.data.toList : Int) + 1 := by rw [IntKind.wrap_i64]; omega
          have hmlen : m.length < maxLen := by
            have h1 := HNj.out
            have h2 := HN1.out
            have h3 := HTot.out
            unfold maxLen
            omega
          have HMk : Hid (∀ x, lookK m x = if c2 x = 0 then none else some (.int .i64 (c2 x))) := hmk
          have HX2 : Hid (∀ x, plus1 c2 Y.data.toList x = c x + ((p.files.take (j + 1)).map M.Fl.path).count x) := fun z => by
            rw [List.take_succ_eq_append_getElem hlj, List.map_append, List.count_append]
            unfold plus1
            have h1 := HXj.out z
            by_cases hz : z = Y.data.toList
            · subst hz
              rw [if_pos rfl, h1]
              simp [hYd]
              omega
            · rw [if_neg hz, h1]
              have : ([p.files[j]].map M.Fl.path).count z = 0 := by
                rw [List.count_eq_zero]
                simp
                rw [← hYd]
                exact hz
              omega
          have HNj2 : Hid (N2 + 1 = N + (j + 1)) := by show _ = _; rw [HNj.out]; omega
          have hBw3 : Below w.heap.size w W3 := hBj.grown hgb hBj.size (fun j hj => by cases hj)
          generalize hcY : c2 Y.data.toList = cy at hlk hcb hw1
          have HcY : Hid (c2 Y.data.toList = cy) := hcY
          clear hY hYd f0 f1 hcf hmk hcY HCj
          go_wp2_with (first | (at_mapUpdate; refine wpList_put_str rfl _ _ _ rfl Tryz.underlying9 cntMap w.heap.size m rfl hm hmlen Y (.int .i64 ((cy : Int) + 1)) rfl hYs rfl ?_; intro w6 hm6 hg6; go_frame) | go_in)
          have HC6 : Hid (CntIn w6 w.heap.size (plus1 c2 Y.data.toList) (N2 + 1)) := CntIn.put hml HMk.out (by rw [HcY.out]; exact hm6)
          have hrj6 := hrj3.kept hg6 (fun e => by have := Option.some.inj e; omega) (fun e => by have := Option.some.inj e; omega)
          have hB6 : Below w.heap.size w w6 := hBw3.grown hg6 hBw3.size (fun j hj => by cases hj; exact Nat.le_refl _)
          clear hm6 hg6 hm hlk
          go_wp2
          go_roundw
          case rel => exact ⟨j + 1, N2 + 1, _, by go_num, by omega, hrj6, HC6, HX2, HNj2, hB6⟩
          case measure => simp [intOf]; omega
        · have hjj : j = p.files.length := by omega
          have HX3 : Hid (∀ x, c2 x + (todo'.flatMap (pathsAt l)).count x = (M.pathsOf l).count x) := fun z => by
            have h1 := HXj.out z
            have h2 := HX1.out z
            rw [hjj, List.take_length] at h1
            omega
          have HN3 : Hid (N2 + (todo'.flatMap (pathsAt l)).length ≤ (M.pathsOf l).length) := by
            show _ ≤ _
            have h1 := HNj.out
            have h2 := HN1.out
            omega
          clear hjj
          go_wp2
          go_roundw
          case rel => exact ⟨todo', cnt', N2, c2, hrj, HCj, HX3, HN3, hBj⟩
          case measure => rw [hrj.left_eq, hrg.left_eq]; exact hlt
end Go.Proofs.YtgnfknjopafngaaGreatDoor
/-
  THE CODE, WALKED: the first path that two packages have, or that is a folder of another's path.
-/
namespace Go.Proofs.YtgnfknjopafngaaGreatDoor
open Go.RowKit Go.Maps

set_option maxRecDepth 100000 in
set_option maxHeartbeats 1000000 in
theorem found_any (F P : ByteArray) (fb : Nat) (w : World) (hP : P.toList.isEmpty = false) (hf : w.cell? ⟨fb, 0, none⟩ = some (.string F)) (hz : w.frozen? ⟨fb, 0, none⟩ = false) :
    Calls Tryz.prog 265 #[.string P, .pointer (some ⟨fb, 0, none⟩)] w fun e w' => e = .returned (.tuple #[]) ∧ w'.cell? ⟨fb, 0, none⟩ = some (.string (firstB F P)) ∧ w'.frozen? ⟨fb, 0, none⟩ = false ∧ w.grownBy w' (some fb) := by
  have hset : w.grownBy (w.setCell ⟨fb, 0, none⟩ (.string P)) (some fb) := ⟨rfl, rfl, rfl, by rw [setC_size]; exact Nat.le_refl _, fun k _ hne => by
    have hne' : k ≠ fb := fun e => hne (by rw [e])
    simp only [World.setCell]
    rw [Array.getElem?_modify, if_neg (fun e => hne' e.symm)]⟩
  by_cases h0 : F.toList.isEmpty = true
  · rw [firstB_b (.inl h0)]
    go_enter Tryz.func265, Tryz.ntmps265
    go_wp2
    go_end0
    exact ⟨rfl, World.cell?_setCell_same _ _ _ hf, by rw [World.frozen?_setCell]; exact hz, hset⟩
  · replace h0 : F.toList.isEmpty = false := by simpa using h0
    by_cases h1 : Op.bytesLess P.toList F.toList = true
    · rw [firstB_b (.inr ⟨hP, h1⟩)]
      go_enter Tryz.func265, Tryz.ntmps265
      go_wp2
      go_end0
      exact ⟨rfl, World.cell?_setCell_same _ _ _ hf, by rw [World.frozen?_setCell]; exact hz, hset⟩
    · replace h1 : Op.bytesLess P.toList F.toList = false := by simpa using h1
      rw [firstB_a h0 (.inr h1)]
      go_enter Tryz.func265, Tryz.ntmps265
      go_wp2
      go_end0
      exact ⟨rfl, hf, hz, ⟨rfl, rfl, rfl, Nat.le_refl _, fun _ _ _ => rfl⟩⟩
theorem wpList_next_cnt {P : Program} {K : TypeId} {w : World} {ops : Array Oper} {rest : List Oper} {o : Oper} {a : Act} {Q : Exit → Act → World → Prop} (hg : o.guard = none) (it : Operand) (hop : o.op = Op.next it false) (hk : P.underlying K = some .string) (b r : Nat) (l todo : List KV) (cnt : Nat) (hit : a.eval it = .pointer (some ⟨r, 0, none⟩)) (h : Ranging P K w b r l todo cnt) (hsh : ∀ p ∈ l, ∃ n : Nat, p.2 = .int .i64 n)
    (hDone : cnt = 0 → todo = [] → wpList P ops Q rest (a.put o.dst (.tuple #[.bool false])) w)
    (hMore : ∀ (s : ByteArray) (n : Nat) (todo' : List KV) (w' : World) (cnt' : Nat), s.size ≤ maxLen → todo.Perm ((s.data.toList, .int .i64 n) :: todo') → Ranging P K w' b r l todo' cnt' → cnt' < cnt → w.grownBy w' (some r) → w'.heap.size = w.heap.size →
      (Instr.entry (.pointer (some ⟨r, 0, none⟩))).run P w' = .ok (.tuple #[.string s, .int .i64 n]) w' → wpList P ops Q rest (a.put o.dst (.tuple #[.bool true, .string s, .int .i64 n])) w') :
    wpList P ops Q (o :: rest) a w := by
  have hsub : ∀ p ∈ todo, p ∈ l := by
    obtain ⟨_, _, _, _, _, _, _, h4⟩ := h
    exact fun p hp => ((h4 p).1 hp).1
  refine wpList_next_str hg it hop hk b r l todo cnt hit h hDone (fun s v todo' w' cnt' h1 h2 h3 h4 h5 h6 h7 => ?_)
  obtain ⟨n, e⟩ := hsh _ (hsub _ (h2.mem_iff.2 (List.mem_cons_self)))
  dsimp only at e
  subst e
  exact hMore s n todo' w' cnt' h1 h2 h3 h4 h5 h6 h7
/-- What a path brings: itself, if two have it; its folders that are paths. -/
def Brings (c : List UInt8 → Nat) (k : List UInt8) (x : List UInt8) : Prop := (1 < c k ∧ x = k) ∨ (x ∈ foldersS k ∧ 0 < c x)
theorem brings_shared {l : List M.Pk} {L : List KV} (hk : Keys L) (h : ∀ x, lookK L x = if (M.pathsOf l).count x = 0 then none else some (.int .i64 ((M.pathsOf l).count x))) (x : List UInt8) :
    (∃ q ∈ L, Brings (fun y => (M.pathsOf l).count y) q.1 x) ↔ M.Shared l x := by
  have hm : ∀ y, (∃ q ∈ L, q.1 = y) ↔ y ∈ M.pathsOf l := fun y => by
    rw [← List.count_pos_iff]
    constructor
    · rintro ⟨q, hq, rfl⟩
      have := (look_mem hk).2 (show (q.1, q.2) ∈ L from hq)
      rw [h] at this
      by_cases h0 : (M.pathsOf l).count q.1 = 0
      · rw [if_pos h0] at this; cases this
      · omega
    · intro hc
      have := h y
      rw [if_neg (by omega)] at this
      exact ⟨_, (look_mem hk).1 this, rfl⟩
  unfold M.Shared Brings
  constructor
  · rintro ⟨q, hq, ⟨h1, rfl⟩ | ⟨h1, h2⟩⟩
    · exact .inl h1
    · refine .inr ⟨List.count_pos_iff.1 h2, q.1, (hm q.1).1 ⟨q, hq, rfl⟩, ?_⟩
      rw [over_is]
      exact List.contains_iff_mem.2 h1
  · rintro (h1 | ⟨h1, y, hy, ho⟩)
    · obtain ⟨q, hq, e⟩ := (hm x).2 (List.count_pos_iff.1 (by omega))
      exact ⟨q, hq, .inl ⟨by rw [e]; exact h1, e.symm⟩⟩
    · obtain ⟨q, hq, e⟩ := (hm y).2 hy
      rw [over_is] at ho
      exact ⟨q, hq, .inr ⟨by rw [e]; exact List.contains_iff_mem.1 ho, List.count_pos_iff.2 h1⟩⟩
theorem not_empty {P : ByteArray} {x : List UInt8} (h : P.data.toList = x) (hx : x ≠ []) : P.toList.isEmpty = false := by
  rw [Lib.toList_data, h]
  cases x with
  | nil => exact absurd rfl hx
  | cons _ _ => rfl
theorem firstB_data (F P : ByteArray) : (firstB F P).data.toList = M.firstS F.data.toList P.data.toList := rfl

set_option maxRecDepth 100000 in
set_option maxHeartbeats 8000000 in
theorem firstShared_any (b : Nat) (l : List M.Pk) (w : World) (hl : SetIn w b l) (hn : l.length ≤ 100000) (hs : ∀ p ∈ l, ReadP p) :
    Calls Tryz.prog 237 #[.map (some b)] w fun e w' => ∃ T : ByteArray, e = .returned (.string T) ∧ T.data.toList = M.clashingS l ∧ Below w.heap.size w w' := by
  have HMin : Hid (M.IsMin (M.Shared l) (M.clashingS l)) := M.shared_min hl.apart (fun p hp => (hs p hp).good)
  have HNe : Hid (∀ x ∈ M.pathsOf l, x ≠ [] ∧ x.length ≤ 8000) := fun x hx => by
    obtain ⟨p, hp, f, hf, rfl⟩ := M.mem_paths.1 hx
    exact ⟨(hs p hp).good.paths f hf, ((hs p hp).short.files f hf).1⟩
  generalize hA1 : w.alloc (.cells #[.string ⟨#[]⟩] 9) = A1
  generalize hW1 : A1.setCell ⟨w.heap.size, 0, none⟩ (.string ⟨#[]⟩) = W1
  have HB1 : Hid (Below w.heap.size w W1) := by rw [← hW1, ← hA1]; exact ((Below.refl _ w).alloc (Nat.le_refl _) _).setCell (Nat.le_refl _) _
  have s1 : W1.heap.size = w.heap.size + 1 := by rw [← hW1, setC_size, ← hA1]; simp
  have f0 : A1.cell? ⟨w.heap.size, 0, none⟩ = some (.string ⟨#[]⟩) := by rw [← hA1]; exact new_at w [.string ⟨#[]⟩] _ 0 _ rfl
  have z0 : A1.frozen? ⟨w.heap.size, 0, none⟩ = false := by rw [← hA1]; exact (newB w [.string ⟨#[]⟩] 9 0).2.2.2 0
  have f1 : W1.cell? ⟨w.heap.size, 0, none⟩ = some (.string ⟨#[]⟩) := by rw [← hW1]; exact World.cell?_setCell_same _ _ _ f0
  have z1 : W1.frozen? ⟨w.heap.size, 0, none⟩ = false := by rw [← hW1, World.frozen?_setCell]; exact z0
  have cO := fun wx (hb : Below w.heap.size w wx) => owners_any b l wx (hl.below hb) hn hs
  have hmf : ∀ (fn : Fn) (first cap : Array Value) (w : World), (Instr.makeFunc fn first cap).run Tryz.prog w = .ok (.func fn first cap) w := fun _ _ _ _ => rfl
  clear hl hs
  go_enter Tryz.func237, Tryz.ntmps237
  go_wp2_with fail
  refine (cO _ HB1.out).mono ?_
  rintro e w2 ⟨ob, NN, rfl, hcnt, hNN, hB2⟩
  have f2 : w2.cell? ⟨w.heap.size, 0, none⟩ = some (.string ⟨#[]⟩) := (hB2.cell (p := ⟨w.heap.size, 0, none⟩) (by show w.heap.size < _; omega)).trans f1
  have z2 : w2.frozen? ⟨w.heap.size, 0, none⟩ = false := (hB2.frozen (p := ⟨w.heap.size, 0, none⟩) (by show w.heap.size < _; omega)).trans z1
  have hBw2 : Below w.heap.size w w2 := bt HB1.out hB2
  obtain ⟨L, hL, hLn, hLk⟩ := hcnt
  have hob : ob ≠ w.heap.size := by
    rintro rfl
    obtain ⟨es, cc, hb⟩ := hL.block?
    simp [World.cell?, hb] at f2
  have hobl := hL.lt
  have HKL : Hid (Keys L) := hL.keys
  have HLk : Hid (∀ x, lookK L x = if (M.pathsOf l).count x = 0 then none else some (.int .i64 ((M.pathsOf l).count x))) := hLk
  have HBr : Hid (∀ x, (∃ q ∈ L, Brings (fun y => (M.pathsOf l).count y) q.1 x) ↔ M.Shared l x) := brings_shared hL.keys hLk
  have HSh : Hid (∀ q ∈ L, q.2 = .int .i64 ((M.pathsOf l).count q.1) ∧ q.1 ∈ M.pathsOf l) := fun q hq => by
    have := (look_mem HKL.out).2 (show (q.1, q.2) ∈ L from hq)
    rw [hLk] at this
    by_cases h0 : (M.pathsOf l).count q.1 = 0
    · rw [if_pos h0] at this; cases this
    · rw [if_neg h0] at this
      exact ⟨(Option.some.inj this).symm, List.count_pos_iff.1 (by omega)⟩
  have HSn : Hid (∀ q ∈ L, ∃ n : Nat, q.2 = .int .i64 n) := fun q hq => ⟨_, (HSh.out q hq).1⟩
  generalize hc : (fun y => (M.pathsOf l).count y) = c at HBr
  have Hc : Hid (∀ y, (M.pathsOf l).count y = c y) := fun y => by rw [← hc]
  clear hLk hc cO
  go_wp2_with (first | (at_range; refine wpList_range_str rfl _ rfl Tryz.underlying9 cntMap ob L rfl hL ?_; intro w0 hrg0 hg0 hs0) | go_in)
  go_frame
  have hr2 : w2.heap.size ≠ w.heap.size := by have := hBw2.size; have := hB2.size; omega
  have f3 : w0.cell? ⟨w.heap.size, 0, none⟩ = some (.string ⟨#[]⟩) := (World.cell?_of_block (a := ⟨w.heap.size, 0, none⟩) (hg0.block w.heap.size (by have := hB2.size; omega) (by simp))).trans f2
  have z3 : w0.frozen? ⟨w.heap.size, 0, none⟩ = false := (World.frozen?_of_block (a := ⟨w.heap.size, 0, none⟩) (hg0.block w.heap.size (by have := hB2.size; omega) (by simp))).trans z2
  have hB0 : Below w.heap.size w w0 := hBw2.grown hg0 hBw2.size (fun j hj => by cases hj)
  clear f0 z0 f1 z1 f2 z2 hL hg0 hs0 hA1 hW1
  go_loopw [6, 7, 9] (fun _ _ _ wr => ∃ (todo done : List KV) (cnt : Nat) (F : ByteArray), Ranging Tryz.prog 9 wr ob w2.heap.size L todo cnt ∧ wr.cell? ⟨w.heap.size, 0, none⟩ = some (.string F) ∧ wr.frozen? ⟨w.heap.size, 0, none⟩ = false ∧ Hid ((done ++ todo).Perm L) ∧ Hid (M.IsMin (fun x => ∃ q ∈ done, Brings c q.1 x) F.data.toList) ∧ Below w.heap.size w wr) (fun _ _ _ wr => wr.rangeLeft ob w2.heap.size)
  case atStart => exact ⟨L, [], _, ⟨#[]⟩, hrg0, f3, z3, List.Perm.refl _, M.IsMin.start.congr (fun x => by simp), hB0⟩
  case round =>
    obtain ⟨todo, done, cnt, F, hrg, hF, hZ, HP, HI, hBr⟩ := hrel
    go_wp2_with (first | (at_next; refine wpList_next_cnt rfl _ rfl Tryz.underlying9 ob w2.heap.size L todo cnt rfl hrg HSn.out ?_ ?_) | go_in)
    · intro hc0 ht0
      have HE : Hid (F.data.toList = M.clashingS l) := by
        refine M.IsMin.unique (HI.out.congr (fun x => ?_)) HMin.out
        have hp := HP.out
        rw [ht0, List.append_nil] at hp
        rw [← HBr.out]
        constructor
        · rintro ⟨q, hq, h⟩; exact ⟨q, hp.mem_iff.1 hq, h⟩
        · rintro ⟨q, hq, h⟩; exact ⟨q, hp.mem_iff.2 hq, h⟩
      clear hc0 ht0
      go_wp2
      go_ret
      exact ⟨F, rfl, HE.out, hBr⟩
    · intro k n todo' w' cnt' hks hperm hrg' hlt hg' hs' hen
      have hmem : (k.data.toList, Value.int .i64 n) ∈ L := HP.out.mem_iff.1 (List.mem_append.2 (.inr (hperm.mem_iff.2 List.mem_cons_self)))
      have hkp : k.data.toList ∈ M.pathsOf l := (HSh.out _ hmem).2
      have hnc : n = c k.data.toList := by
        have := (HSh.out _ hmem).1
        dsimp only at this
        injection this with _ this
        rw [← Hc.out]
        exact_mod_cast this
      have hkne : k.toList.isEmpty = false := not_empty rfl (HNe.out _ hkp).1
      have hks2 : k.size ≤ 100000 := by have := (HNe.out _ hkp).2; rw [len_data] at this; omega
      have HPm : Hid (((done ++ [(k.data.toList, Value.int .i64 n)]) ++ todo').Perm L) := by
        show List.Perm _ _
        rw [List.append_assoc]
        exact (List.Perm.append_left done hperm.symm).trans HP.out
      have hlt' : w.heap.size < wr.heap.size := World.block_lt_of_cell? _ _ hF
      have hF' : w'.cell? ⟨w.heap.size, 0, none⟩ = some (.string F) := (World.cell?_of_block (a := ⟨w.heap.size, 0, none⟩) (hg'.block _ hlt' (fun e => hr2 (Option.some.inj e).symm))).trans hF
      have hZ' : w'.frozen? ⟨w.heap.size, 0, none⟩ = false := (World.frozen?_of_block (a := ⟨w.heap.size, 0, none⟩) (hg'.block _ hlt' (fun e => hr2 (Option.some.inj e).symm))).trans hZ
      have hB' : Below w.heap.size w w' := hBr.grown hg' hBr.size (fun j hj => by cases hj; exact hBw2.size)
      have cFo := fun wx => folders_any k wx hks2
      have HNc : Hid (n = c k.data.toList) := hnc
      clear hperm hmem HP hs' hnc hF hZ hBr hg'
      by_cases h1 : 1 < n
      · have h1' : ((n : Int) > 1) := by omega
        have cF := found_any F k w.heap.size w' hkne hF' hZ'
        have HIy : Hid (M.IsMin (fun x => (∃ q ∈ done, Brings c q.1 x) ∨ (1 < c k.data.toList ∧ x = k.data.toList)) (firstB F k).data.toList) := by
          rw [firstB_data]
          refine (HI.out.add (HNe.out _ hkp).1).congr (fun x => or_congr Iff.rfl ⟨fun e => ⟨by rw [← HNc.out]; exact h1, e⟩, fun e => e.2⟩)
        generalize firstB F k = F3 at cF HIy
        go_wp2_with fail
        refine cF.mono ?_
        rintro e w3 ⟨rfl, hF3, hZ3, hg3⟩
        have hrg3 := hrg'.kept hg3 (fun e => hob (Option.some.inj e)) (fun e => hr2 (Option.some.inj e))
        have hB3 : Below w.heap.size w w3 := hB'.grown hg3 hB'.size (fun i hi => by cases hi; exact Nat.le_refl _)
        clear cF hF' hZ' hg3 hrg' hB' hen HI
        have HI3 : Hid (M.IsMin (fun x => (∃ q ∈ done, Brings c q.1 x) ∨ (1 < c k.data.toList ∧ x = k.data.toList)) F3.data.toList) := HIy
        go_wp2_with fail
        refine (cFo _).mono ?_
        rintro e w4 ⟨v4, rfl, hrow4, hB4⟩
        obtain ⟨a4, c4, e4⟩ := own_form hrow4
        subst e4
        have HRow4 : Hid (RowIn w4 0 w4.heap.size (.slice a4 (foldersS k.data.toList).length c4) (foldersS k.data.toList).length ((foldersS k.data.toList).map strV)) := (RowIn.own hrow4).wide (Nat.zero_le _) (Nat.le_refl _)
        have hfl : (foldersS k.data.toList).length ≤ 100000 := by have := foldU_len k.data.toList k.data.toList.length; rw [← foldU_all, len_data] at this; omega
        have hl3 : w.heap.size < w3.heap.size := World.block_lt_of_cell? _ _ hF3
        have HGe : Hid (∀ gg o n, Value.slice a4 (foldersS k.data.toList).length c4 = .slice (some ⟨gg, o, none⟩) (foldersS k.data.toList).length n → w.heap.size < gg) := fun gg o n e => by
          obtain ⟨_, ⟨e', _⟩ | ⟨g', cap', cur', e', hb', _⟩⟩ := hrow4
          · rw [e'] at e; cases e
          · rw [e'] at e; cases e; omega
        have hF4 : w4.cell? ⟨w.heap.size, 0, none⟩ = some (.string F3) := (hB4.cell (p := ⟨w.heap.size, 0, none⟩) hl3).trans hF3
        have hZ4 : w4.frozen? ⟨w.heap.size, 0, none⟩ = false := (hB4.frozen (p := ⟨w.heap.size, 0, none⟩) hl3).trans hZ3
        have hrg4 := hrg3.below hB4
        have hB40 : Below w.heap.size w w4 := bt hB3 hB4
        generalize hFS : foldersS k.data.toList = FS at HRow4 hfl HGe
        have HFS : Hid (foldersS k.data.toList = FS) := hFS
        clear hrow4 hB4 cFo hrg3 hF3 hZ3 hB3 hFS
        go_wp2
        go_loopw [9, 28] (fun _ i wr => ∃ (j : Nat) (Fj : ByteArray), i = .int .i64 j ∧ j ≤ FS.length ∧ Ranging Tryz.prog 9 wr ob w2.heap.size L todo' cnt' ∧ wr.cell? ⟨w.heap.size, 0, none⟩ = some (.string Fj) ∧ wr.frozen? ⟨w.heap.size, 0, none⟩ = false ∧ Hid (M.IsMin (fun x => ((∃ q ∈ done, Brings c q.1 x) ∨ (1 < c k.data.toList ∧ x = k.data.toList)) ∨ (x ∈ FS.take j ∧ 0 < c x)) Fj.data.toList) ∧ w4.grownBy wr (some w.heap.size)) (fun _ i _ => FS.length - (intOf i).toNat)
        case atStart => exact ⟨0, F3, rfl, Nat.zero_le _, hrg4, hF4, hZ4, HI3.out.congr (fun x => by simp), ⟨rfl, rfl, rfl, Nat.le_refl _, fun _ _ _ => rfl⟩⟩
        case round =>
          obtain ⟨j, Fj, rfl, hj, hrj, hFj, hZj, HIj, hgj⟩ := hrel
          by_cases hlj : j < FS.length
          · obtain ⟨g, rfl, hg, hcap, hcc⟩ := HRow4.out.cellAt (by omega)
            obtain ⟨X, hX⟩ : ∃ X : ByteArray, X = ⟨FS[j].toArray⟩ := ⟨_, rfl⟩
            have hgne : g ≠ w.heap.size := by have := HGe.out g 0 c4 rfl; omega
            have q0 : wr.cell? ⟨g, j, none⟩ = some (.string X) := by
              rw [hX]
              exact (World.cell?_of_block (a := ⟨g, j, none⟩) (hgj.block g hg (fun e => hgne (Option.some.inj e)))).trans (hcc j _ (by rw [List.getElem?_map, List.getElem?_eq_getElem hlj]; rfl))
            have hXd : X.data.toList = FS[j] := by rw [hX]
            have hXs : X.size ≤ maxLen := by
              have h1 : X.data.toList.length ≤ k.data.toList.length := by
                have : FS[j] ∈ foldersS k.data.toList := by rw [HFS.out]; exact List.getElem_mem hlj
                unfold foldersS at this
                obtain ⟨i, _, hi⟩ := List.mem_flatMap.1 this
                split at hi
                · simp at hi; rw [hXd, hi, List.length_take]; omega
                · cases hi
              rw [len_data, len_data] at h1
              unfold maxLen
              omega
            have hlk : (Instr.lookup 280 (.map (some ob)) (.string X) false).run Tryz.prog wr = .ok (.int .i64 (c X.data.toList)) wr := by
              rw [hrj.map.look Tryz.underlying9 cntMap (zeroInt_run wr) hXs, CntIn.get HLk.out, Hc.out]
            obtain ⟨cx, hcx⟩ : ∃ cx, cx = c X.data.toList := ⟨_, rfl⟩
            rw [← hcx] at hlk
            have HCx : Hid (cx = c X.data.toList) := hcx
            have HXd : Hid (X.data.toList = FS[j]) := hXd
            clear hX hXd hcx hcc
            by_cases hpos : 0 < cx
            · have hXp : X.data.toList ∈ M.pathsOf l := List.count_pos_iff.1 (by rw [Hc.out, ← HCx.out]; exact hpos)
              have hXn : X.toList.isEmpty = false := not_empty rfl (HNe.out _ hXp).1
              have hpos' : ((cx : Int) > 0) := by omega
              have cF := found_any Fj X w.heap.size wr hXn hFj hZj
              have HI2 : Hid (M.IsMin (fun x => ((∃ q ∈ done, Brings c q.1 x) ∨ (1 < c k.data.toList ∧ x = k.data.toList)) ∨ (x ∈ FS.take (j + 1) ∧ 0 < c x)) (firstB Fj X).data.toList) := by
                rw [firstB_data]
                refine (HIj.out.add (HNe.out _ hXp).1).congr (fun x => ?_)
                rw [List.take_succ_eq_append_getElem hlj]
                constructor
                · rintro ((h | ⟨h1, h2⟩) | rfl)
                  · exact .inl h
                  · exact .inr ⟨List.mem_append.2 (.inl h1), h2⟩
                  · exact .inr ⟨List.mem_append.2 (.inr (by simp [HXd.out])), by rw [← HCx.out]; exact hpos⟩
                · rintro (h | ⟨h1, h2⟩)
                  · exact .inl (.inl h)
                  · rcases List.mem_append.1 h1 with h1 | h1
                    · exact .inl (.inr ⟨h1, h2⟩)
                    · simp at h1; exact .inr (by rw [h1, HXd.out])
              generalize firstB Fj X = F5 at cF HI2
              clear hXp hXn
              go_wp2_with fail
              refine cF.mono ?_
              rintro e w5 ⟨rfl, hF5, hZ5, hg5⟩
              have hrj5 := hrj.kept hg5 (fun e => hob (Option.some.inj e)) (fun e => hr2 (Option.some.inj e))
              have hgj5 := hgj.andThen hg5 (fun i hi => .inr hi)
              clear cF hg5 hlk hFj hZj
              go_wp2
              go_roundw
              case rel => exact ⟨j + 1, F5, by go_num, by omega, hrj5, hF5, hZ5, HI2, hgj5⟩
              case measure => simp [intOf]; omega
            · have hpos' : ¬ ((cx : Int) > 0) := by omega
              have HI2 : Hid (M.IsMin (fun x => ((∃ q ∈ done, Brings c q.1 x) ∨ (1 < c k.data.toList ∧ x = k.data.toList)) ∨ (x ∈ FS.take (j + 1) ∧ 0 < c x)) Fj.data.toList) := by
                refine HIj.out.congr (fun x => or_congr Iff.rfl ?_)
                rw [List.take_succ_eq_append_getElem hlj]
                constructor
                · rintro ⟨h1, h2⟩; exact ⟨List.mem_append.2 (.inl h1), h2⟩
                · rintro ⟨h1, h2⟩
                  rcases List.mem_append.1 h1 with h1 | h1
                  · exact ⟨h1, h2⟩
                  · simp at h1
                    rw [h1, ← HXd.out, ← HCx.out] at h2
                    exact absurd h2 hpos
              go_wp2
              go_roundw
              case rel => exact ⟨j + 1, Fj, by go_num, by omega, hrj, hFj, hZj, HI2, hgj⟩
              case measure => simp [intOf]; omega
          · have hjj : j = FS.length := by omega
            have HI6 : Hid (M.IsMin (fun x => ∃ q ∈ done ++ [(k.data.toList, Value.int .i64 n)], Brings c q.1 x) Fj.data.toList) := by
              refine HIj.out.congr (fun x => ?_)
              rw [hjj, List.take_length]
              constructor
              · rintro ((⟨q, hq, h⟩ | h) | ⟨h1, h2⟩)
                · exact ⟨q, List.mem_append.2 (.inl hq), h⟩
                · exact ⟨(k.data.toList, Value.int .i64 n), List.mem_append.2 (.inr (by simp)), .inl h⟩
                · exact ⟨(k.data.toList, Value.int .i64 n), List.mem_append.2 (.inr (by simp)), .inr ⟨by rw [HFS.out]; exact h1, h2⟩⟩
              · rintro ⟨q, hq, h⟩
                rcases List.mem_append.1 hq with hq | hq
                · exact .inl (.inl ⟨q, hq, h⟩)
                · simp at hq
                  subst hq
                  rcases h with h | ⟨h1, h2⟩
                  · exact .inl (.inr h)
                  · exact .inr ⟨by rw [← HFS.out]; exact h1, h2⟩
            have hB7 : Below w.heap.size w wr := hB40.grown hgj hB40.size (fun i hi => by cases hi; exact Nat.le_refl _)
            clear hjj
            go_wp2
            go_roundw
            case rel => exact ⟨todo', _, cnt', Fj, hrj, hFj, hZj, HPm, HI6, hB7⟩
            case measure => rw [hrj.left_eq, hrg.left_eq]; exact hlt
      · have h1' : ¬ ((n : Int) > 1) := by omega
        obtain ⟨w3, hw3⟩ : ∃ W, W = w' := ⟨_, rfl⟩
        subst hw3
        obtain ⟨F3, hF3e⟩ : ∃ X, X = F := ⟨_, rfl⟩
        subst hF3e
        have hF3 := hF'
        have hZ3 := hZ'
        have hrg3 := hrg'
        have hB3 := hB'
        have HIn : Hid (M.IsMin (fun x => (∃ q ∈ done, Brings c q.1 x) ∨ (1 < c k.data.toList ∧ x = k.data.toList)) F3.data.toList) := HI.out.skip (fun x h => by have := h.1; rw [← HNc.out] at this; exact h1 this)
        clear hF' hZ' hrg' hB' HI
        have HI3 : Hid (M.IsMin (fun x => (∃ q ∈ done, Brings c q.1 x) ∨ (1 < c k.data.toList ∧ x = k.data.toList)) F3.data.toList) := HIn
        go_wp2_with fail
        refine (cFo _).mono ?_
        rintro e w4 ⟨v4, rfl, hrow4, hB4⟩
        obtain ⟨a4, c4, e4⟩ := own_form hrow4
        subst e4
        have HRow4 : Hid (RowIn w4 0 w4.heap.size (.slice a4 (foldersS k.data.toList).length c4) (foldersS k.data.toList).length ((foldersS k.data.toList).map strV)) := (RowIn.own hrow4).wide (Nat.zero_le _) (Nat.le_refl _)
        have hfl : (foldersS k.data.toList).length ≤ 100000 := by have := foldU_len k.data.toList k.data.toList.length; rw [← foldU_all, len_data] at this; omega
        have hl3 : w.heap.size < w3.heap.size := World.block_lt_of_cell? _ _ hF3
        have HGe : Hid (∀ gg o n, Value.slice a4 (foldersS k.data.toList).length c4 = .slice (some ⟨gg, o, none⟩) (foldersS k.data.toList).length n → w.heap.size < gg) := fun gg o n e => by
          obtain ⟨_, ⟨e', _⟩ | ⟨g', cap', cur', e', hb', _⟩⟩ := hrow4
          · rw [e'] at e; cases e
          · rw [e'] at e; cases e; omega
        have hF4 : w4.cell? ⟨w.heap.size, 0, none⟩ = some (.string F3) := (hB4.cell (p := ⟨w.heap.size, 0, none⟩) hl3).trans hF3
        have hZ4 : w4.frozen? ⟨w.heap.size, 0, none⟩ = false := (hB4.frozen (p := ⟨w.heap.size, 0, none⟩) hl3).trans hZ3
        have hrg4 := hrg3.below hB4
        have hB40 : Below w.heap.size w w4 := bt hB3 hB4
        generalize hFS : foldersS k.data.toList = FS at HRow4 hfl HGe
        have HFS : Hid (foldersS k.data.toList = FS) := hFS
        clear hrow4 hB4 cFo hrg3 hF3 hZ3 hB3 hFS
        go_wp2
        go_loopw [9, 28] (fun _ i wr => ∃ (j : Nat) (Fj : ByteArray), i = .int .i64 j ∧ j ≤ FS.length ∧ Ranging Tryz.prog 9 wr ob w2.heap.size L todo' cnt' ∧ wr.cell? ⟨w.heap.size, 0, none⟩ = some (.string Fj) ∧ wr.frozen? ⟨w.heap.size, 0, none⟩ = false ∧ Hid (M.IsMin (fun x => ((∃ q ∈ done, Brings c q.1 x) ∨ (1 < c k.data.toList ∧ x = k.data.toList)) ∨ (x ∈ FS.take j ∧ 0 < c x)) Fj.data.toList) ∧ w4.grownBy wr (some w.heap.size)) (fun _ i _ => FS.length - (intOf i).toNat)
        case atStart => exact ⟨0, F3, rfl, Nat.zero_le _, hrg4, hF4, hZ4, HI3.out.congr (fun x => by simp), ⟨rfl, rfl, rfl, Nat.le_refl _, fun _ _ _ => rfl⟩⟩
        case round =>
          obtain ⟨j, Fj, rfl, hj, hrj, hFj, hZj, HIj, hgj⟩ := hrel
          by_cases hlj : j < FS.length
          · obtain ⟨g, rfl, hg, hcap, hcc⟩ := HRow4.out.cellAt (by omega)
            obtain ⟨X, hX⟩ : ∃ X : ByteArray, X = ⟨FS[j].toArray⟩ := ⟨_, rfl⟩
            have hgne : g ≠ w.heap.size := by have := HGe.out g 0 c4 rfl; omega
            have q0 : wr.cell? ⟨g, j, none⟩ = some (.string X) := by
              rw [hX]
              exact (World.cell?_of_block (a := ⟨g, j, none⟩) (hgj.block g hg (fun e => hgne (Option.some.inj e)))).trans (hcc j _ (by rw [List.getElem?_map, List.getElem?_eq_getElem hlj]; rfl))
            have hXd : X.data.toList = FS[j] := by rw [hX]
            have hXs : X.size ≤ maxLen := by
              have h1 : X.data.toList.length ≤ k.data.toList.length := by
                have : FS[j] ∈ foldersS k.data.toList := by rw [HFS.out]; exact List.getElem_mem hlj
                unfold foldersS at this
                obtain ⟨i, _, hi⟩ := List.mem_flatMap.1 this
                split at hi
                · simp at hi; rw [hXd, hi, List.length_take]; omega
                · cases hi
              rw [len_data, len_data] at h1
              unfold maxLen
              omega
            have hlk : (Instr.lookup 280 (.map (some ob)) (.string X) false).run Tryz.prog wr = .ok (.int .i64 (c X.data.toList)) wr := by
              rw [hrj.map.look Tryz.underlying9 cntMap (zeroInt_run wr) hXs, CntIn.get HLk.out, Hc.out]
            obtain ⟨cx, hcx⟩ : ∃ cx, cx = c X.data.toList := ⟨_, rfl⟩
            rw [← hcx] at hlk
            have HCx : Hid (cx = c X.data.toList) := hcx
            have HXd : Hid (X.data.toList = FS[j]) := hXd
            clear hX hXd hcx hcc
            by_cases hpos : 0 < cx
            · have hXp : X.data.toList ∈ M.pathsOf l := List.count_pos_iff.1 (by rw [Hc.out, ← HCx.out]; exact hpos)
              have hXn : X.toList.isEmpty = false := not_empty rfl (HNe.out _ hXp).1
              have hpos' : ((cx : Int) > 0) := by omega
              have cF := found_any Fj X w.heap.size wr hXn hFj hZj
              have HI2 : Hid (M.IsMin (fun x => ((∃ q ∈ done, Brings c q.1 x) ∨ (1 < c k.data.toList ∧ x = k.data.toList)) ∨ (x ∈ FS.take (j + 1) ∧ 0 < c x)) (firstB Fj X).data.toList) := by
                rw [firstB_data]
                refine (HIj.out.add (HNe.out _ hXp).1).congr (fun x => ?_)
                rw [List.take_succ_eq_append_getElem hlj]
                constructor
                · rintro ((h | ⟨h1, h2⟩) | rfl)
                  · exact .inl h
                  · exact .inr ⟨List.mem_append.2 (.inl h1), h2⟩
                  · exact .inr ⟨List.mem_append.2 (.inr (by simp [HXd.out])), by rw [← HCx.out]; exact hpos⟩
                · rintro (h | ⟨h1, h2⟩)
                  · exact .inl (.inl h)
                  · rcases List.mem_append.1 h1 with h1 | h1
                    · exact .inl (.inr ⟨h1, h2⟩)
                    · simp at h1; exact .inr (by rw [h1, HXd.out])
              generalize firstB Fj X = F5 at cF HI2
              clear hXp hXn
              go_wp2_with fail
              refine cF.mono ?_
              rintro e w5 ⟨rfl, hF5, hZ5, hg5⟩
              have hrj5 := hrj.kept hg5 (fun e => hob (Option.some.inj e)) (fun e => hr2 (Option.some.inj e))
              have hgj5 := hgj.andThen hg5 (fun i hi => .inr hi)
              clear cF hg5 hlk hFj hZj
              go_wp2
              go_roundw
              case rel => exact ⟨j + 1, F5, by go_num, by omega, hrj5, hF5, hZ5, HI2, hgj5⟩
              case measure => simp [intOf]; omega
            · have hpos' : ¬ ((cx : Int) > 0) := by omega
              have HI2 : Hid (M.IsMin (fun x => ((∃ q ∈ done, Brings c q.1 x) ∨ (1 < c k.data.toList ∧ x = k.data.toList)) ∨ (x ∈ FS.take (j + 1) ∧ 0 < c x)) Fj.data.toList) := by
                refine HIj.out.congr (fun x => or_congr Iff.rfl ?_)
                rw [List.take_succ_eq_append_getElem hlj]
                constructor
                · rintro ⟨h1, h2⟩; exact ⟨List.mem_append.2 (.inl h1), h2⟩
                · rintro ⟨h1, h2⟩
                  rcases List.mem_append.1 h1 with h1 | h1
                  · exact ⟨h1, h2⟩
                  · simp at h1
                    rw [h1, ← HXd.out, ← HCx.out] at h2
                    exact absurd h2 hpos
              go_wp2
              go_roundw
              case rel => exact ⟨j + 1, Fj, by go_num, by omega, hrj, hFj, hZj, HI2, hgj⟩
              case measure => simp [intOf]; omega
          · have hjj : j = FS.length := by omega
            have HI6 : Hid (M.IsMin (fun x => ∃ q ∈ done ++ [(k.data.toList, Value.int .i64 n)], Brings c q.1 x) Fj.data.toList) := by
              refine HIj.out.congr (fun x => ?_)
              rw [hjj, List.take_length]
              constructor
              · rintro ((⟨q, hq, h⟩ | h) | ⟨h1, h2⟩)
                · exact ⟨q, List.mem_append.2 (.inl hq), h⟩
                · exact ⟨(k.data.toList, Value.int .i64 n), List.mem_append.2 (.inr (by simp)), .inl h⟩
                · exact ⟨(k.data.toList, Value.int .i64 n), List.mem_append.2 (.inr (by simp)), .inr ⟨by rw [HFS.out]; exact h1, h2⟩⟩
              · rintro ⟨q, hq, h⟩
                rcases List.mem_append.1 hq with hq | hq
                · exact .inl (.inl ⟨q, hq, h⟩)
                · simp at hq
                  subst hq
                  rcases h with h | ⟨h1, h2⟩
                  · exact .inl (.inr h)
                  · exact .inr ⟨by rw [← HFS.out]; exact h1, h2⟩
            have hB7 : Below w.heap.size w wr := hB40.grown hgj hB40.size (fun i hi => by cases hi; exact Nat.le_refl _)
            clear hjj
            go_wp2
            go_roundw
            case rel => exact ⟨todo', _, cnt', Fj, hrj, hFj, hZj, HPm, HI6, hB7⟩
            case measure => rw [hrj.left_eq, hrg.left_eq]; exact hlt
end Go.Proofs.YtgnfknjopafngaaGreatDoor
