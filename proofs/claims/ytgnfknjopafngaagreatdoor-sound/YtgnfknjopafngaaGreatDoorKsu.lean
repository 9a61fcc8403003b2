import Derived.Test.YtgnfknjopafngaaGreatDoorKst
import Derived.Test.YtgnfknjopafngaaGreatDoorKsb
import Derived.Test.YtgnfknjopafngaaGreatDoorKsn
namespace Go.Proofs.YtgnfknjopafngaaGreatDoor
open Go.RowKit Go.Maps
theorem names_get {l : List M.Pk} {i : Nat} (hi : i < (M.sortN (l.map M.Pk.name)).length) : ∃ p ∈ l, p.name = (M.sortN (l.map M.Pk.name))[i] := by
  obtain ⟨p, hp, e⟩ := List.mem_map.1 ((M.sortN_perm _).mem_iff.1 (List.getElem_mem hi))
  exact ⟨p, hp, e⟩
theorem first_name {l : List M.Pk} {Q : M.Pk → Prop} {m : List UInt8} (ha : M.Apart l) (hm : M.IsMin (fun x => ∃ p ∈ l, Q p ∧ x = p.name) m) {i : Nat} {p : M.Pk} (hp : p ∈ l) (hi : (M.sortN (l.map M.Pk.name))[i]? = some p.name) (hQ : Q p) (hno : ∀ q ∈ l, q.name ∈ (M.sortN (l.map M.Pk.name)).take i → ¬ Q q) : m = p.name := by
  refine hm.unique ⟨hm.1, .inr ⟨⟨p, hp, hQ, rfl⟩, ?_⟩⟩
  rintro x ⟨q, hq, hQq, rfl⟩
  have hr := M.sortN_rising ha
  have hqm : q.name ∈ M.sortN (l.map M.Pk.name) := (M.sortN_perm _).mem_iff.2 (List.mem_map.2 ⟨q, hq, rfl⟩)
  obtain ⟨j, hj, e⟩ := List.getElem_of_mem hqm
  obtain ⟨hi1, hi2⟩ := List.getElem?_eq_some_iff.1 hi
  rw [← e, ← hi2]
  rcases Nat.lt_trichotomy j i with h | h | h
  · exact absurd hQq (hno q hq (by rw [← e]; rw [List.mem_take_iff_getElem]; exact ⟨j, by omega, rfl⟩))
  · subst h; exact M.less_irrefl _
  · exact M.less_asymm (List.pairwise_iff_getElem.1 hr i j hi1 hj h)
theorem no_name {l : List M.Pk} {Q : M.Pk → Prop} {m : List UInt8} (hm : M.IsMin (fun x => ∃ p ∈ l, Q p ∧ x = p.name) m) (hno : ∀ q ∈ l, q.name ∈ M.sortN (l.map M.Pk.name) → ¬ Q q) : m = [] := by
  refine hm.nil_iff.2 ?_
  rintro x ⟨p, hp, hQ, _⟩
  exact hno p hp ((M.sortN_perm _).mem_iff.2 (List.mem_map.2 ⟨p, hp, rfl⟩)) hQ
theorem field_needs (a b c d e : Value) (w : World) : (Instr.field 108 (.agg #[a, b, c, d, e]) 2).run Tryz.prog w = .ok c w := by kernel_rfl
theorem field_bars (a b c d e : Value) (w : World) : (Instr.field 108 (.agg #[a, b, c, d, e]) 3).run Tryz.prog w = .ok d w := by kernel_rfl
set_option maxRecDepth 100000 in
set_option maxHeartbeats 8000000 in
theorem firstLacking_any (b : Nat) (l : List M.Pk) (w : World) (hl : SetIn w b l) (hn : l.length ≤ 1000000) (hs : ∀ p ∈ l, ReadP p) :
    Calls Tryz.prog 122 #[.map (some b)] w fun e w' => ∃ T : ByteArray, e = .returned (.string T) ∧ T.data.toList = M.lackingS l ∧ Below w.heap.size w w' := by
  have cN := fun wx (hb : Below w.heap.size w wx) => names_any b l wx (hl.below hb) hn
  have HL : Hid (SetIn w b l) := hl
  have HA : Hid (M.Apart l) := hl.apart
  have HS : Hid (∀ p ∈ l, ReadP p) := hs
  have HMin : Hid (M.IsMin (fun x => ∃ p ∈ l, M.Lacks l p ∧ x = p.name) (M.lackingS l)) := M.lacking_min (fun p hp => (hs p hp).name)
  have HRL : Hid ((M.sortN (l.map M.Pk.name)).length = l.length) := by show _ = _; rw [(M.sortN_perm _).length_eq, List.length_map]
  generalize hr : M.sortN (l.map M.Pk.name) = r at HRL
  have HR : Hid (M.sortN (l.map M.Pk.name) = r) := hr
  clear hl hs hr
  go_enter Tryz.func122, Tryz.ntmps122
  go_wp2_with fail
  refine (cN _ (Below.refl _ _)).mono ?_
  rintro e w1 ⟨v, rfl, hrow, hB1⟩
  obtain ⟨a1, c1, e1⟩ := own_form hrow
  subst e1
  have HRow : Hid (RowIn w1 0 w1.heap.size (.slice a1 l.length c1) l.length (nmCells r)) := by rw [← HR.out]; exact (RowIn.own hrow).wide (Nat.zero_le _) (Nat.le_refl _)
  clear cN hrow
  go_wp2
  go_loopw [4, 6, 8, 12] (fun _ _ _ i wr => ∃ n : Nat, i = .int .i64 n ∧ n ≤ l.length ∧ Below w1.heap.size w1 wr ∧ Hid (∀ q ∈ l, q.name ∈ r.take n → ¬ M.Lacks l q)) (fun _ _ _ i _ => l.length - (intOf i).toNat)
  case atStart => exact ⟨0, rfl, Nat.zero_le _, Below.refl _ _, fun q _ hq => by simp at hq⟩
  case round =>
    obtain ⟨n, rfl, hn', hBr, HQ⟩ := hrel
    by_cases hlt : n < l.length
    · have hnr : n < r.length := by rw [HRL.out]; exact hlt
      obtain ⟨p, hp, hpn⟩ : ∃ p ∈ l, p.name = r[n] := by
        obtain ⟨p, hp, e⟩ := List.mem_map.1 ((M.sortN_perm (l.map M.Pk.name)).mem_iff.1 (by rw [HR.out]; exact List.getElem_mem hnr))
        exact ⟨p, hp, e⟩
      obtain ⟨g, rfl, hg, hcap, hc⟩ := HRow.out.cellAt (by omega)
      have c0 : wr.cell? ⟨g, n, none⟩ = some (.string ⟨p.name.toArray⟩) := (hBr.cell (p := ⟨g, n, none⟩) hg).trans (hc n _ (by unfold nmCells; rw [List.getElem?_map, List.getElem?_eq_getElem hnr, hpn]; rfl))
      obtain ⟨Y, hY⟩ : ∃ Y : ByteArray, Y = ⟨p.name.toArray⟩ := ⟨_, rfl⟩
      rw [← hY] at c0
      have hYd : Y.data.toList = p.name := by rw [hY]
      have hYs : Y.size ≤ maxLen := by have := (HS.out p hp).short.name; rw [size_of hYd]; unfold maxLen; omega
      have HYd : Hid (Y.data.toList = p.name) := hYd
      have hnn := (HS.out p hp).short.needn
      have HSp : Hid (ReadP p) := HS.out p hp
      have HNm : Hid (r[n]? = some p.name) := by show _ = _; rw [List.getElem?_eq_getElem hnr, hpn]
      obtain ⟨f, hm, hv⟩ := HL.out.below (bt hB1 hBr)
      obtain ⟨nv, bv, fv, ev, hN1, hN2, hN3⟩ := hv p hp
      obtain ⟨an, cn, en⟩ := hN1.form
      subst en
      have hr1 : (Instr.lookup 135 (.map (some b)) (.string Y) false).run Tryz.prog wr = .ok (.agg #[.string ⟨p.name.toArray⟩, .string ⟨p.ver.toArray⟩, .slice an p.needs.length cn, bv, fv]) wr := by
        rw [hm.look Tryz.underlying9 setMap (zeroPk_run wr) hYs, hYd, (look_mem hm.keys).2 (List.mem_map.2 ⟨p, hp, rfl⟩), Option.getD_some, ev]
      have HN : Hid (NeedsIn wr 0 wr.heap.size (.slice an p.needs.length cn) p.needs) := hN1
      clear hm hv ev hN1 hN2 hN3 hY hYd hc hpn
      obtain ⟨W0, hW0⟩ : ∃ W, W = wr := ⟨_, rfl⟩
      subst hW0
      have hfd := field_needs
      go_wp2
      go_step3
      go_wp2
      go_step3
      go_wp2
      clear hfd
      go_loopw [6, 8, 21] (fun _ _ i wr => ∃ m : Nat, i = .int .i64 m ∧ m ≤ p.needs.length ∧ Below W0.heap.size W0 wr ∧ Hid (∀ g ∈ p.needs.take m, M.any1S g l = true)) (fun _ _ i _ => p.needs.length - (intOf i).toNat)
      case atStart => exact ⟨0, rfl, Nat.zero_le _, Below.refl _ _, fun g hg => by simp at hg⟩
      case round =>
        obtain ⟨m, rfl, hm', hBm, HG⟩ := hrel
        by_cases hlm : m < p.needs.length
        · have hNw : NeedsIn wr 0 wr.heap.size (.slice an p.needs.length cn) p.needs := (HN.out.keep fun _ _ _ hg' => belowS hBm hg').wide (Nat.zero_le _) hBm.size
          obtain ⟨gn, au, cu, rfl, hgn, hcell, hrow⟩ := hNw.at m hlm
          have hncap : p.needs.length ≤ cn := by
            obtain ⟨vs, h1, _⟩ := hNw
            obtain ⟨_, h0, _⟩ | ⟨g', cap, e1, e2, _⟩ := h1
            · omega
            · cases e1; exact e2
          have HRw : Hid (RowIn wr 0 wr.heap.size (.slice au p.needs[m].length cu) p.needs[m].length (chsCells p.needs[m])) := hrow
          have hgl := (HSp.out.short.needs _ (List.getElem_mem hlm)).1
          clear hNw hrow
          obtain ⟨W2, hW2⟩ : ∃ W, W = wr := ⟨_, rfl⟩
          subst hW2
          go_wp2
          go_loopw [8, 27] (fun _ i wr => ∃ j : Nat, i = .int .i64 j ∧ j ≤ p.needs[m].length ∧ Below W2.heap.size W2 wr ∧ Hid (∀ c ∈ p.needs[m].take j, (l.any fun q => M.fitsS c q) = false)) (fun _ i _ => p.needs[m].length - (intOf i).toNat)
          case atStart => exact ⟨0, rfl, Nat.zero_le _, Below.refl _ _, fun c hc => by simp at hc⟩
          case round =>
            obtain ⟨j, rfl, hj', hBj, HC⟩ := hrel
            by_cases hlj : j < p.needs[m].length
            · obtain ⟨bg, rfl, hbg, hcapg, hcg⟩ := HRw.out.cellAt (by omega)
              obtain ⟨k0, k1, k2⟩ := ch_cell hlj
              have q0 : wr.cell? ⟨bg, j * 3, none⟩ = some (.string ⟨p.needs[m][j].name.toArray⟩) := (hBj.cell (p := ⟨bg, j * 3, none⟩) hbg).trans (hcg _ _ k0)
              have q1 : wr.cell? ⟨bg, j * 3 + 1, none⟩ = some (.string ⟨p.needs[m][j].sign.toArray⟩) := (hBj.cell (p := ⟨bg, j * 3 + 1, none⟩) hbg).trans (hcg _ _ k1)
              have q2 : wr.cell? ⟨bg, j * 3 + 2, none⟩ = some (.string ⟨p.needs[m][j].ver.toArray⟩) := (hBj.cell (p := ⟨bg, j * 3 + 2, none⟩) hbg).trans (hcg _ _ k2)
              have hsc := (HSp.out.short.needs _ (List.getElem_mem hlm)).2 _ (List.getElem_mem hlj)
              have hBw : Below w.heap.size w wr := bt hB1 (bt hBr (bt hBm hBj))
              have cH := fun wx (hb : Below wr.heap.size wr wx) => has_any b l p.needs[m][j] wx (HL.out.below (bt hBw hb)) (fun q hq => (HS.out q hq).smallQ.1) (HSp.out.good.needs _ (List.getElem_mem hlm) _ (List.getElem_mem hlj)) (by omega) (by omega)
              have hBa : Below wr.heap.size wr (wr.alloc (.cells #[.string ⟨p.needs[m][j].name.toArray⟩, .string ⟨p.needs[m][j].sign.toArray⟩, .string ⟨p.needs[m][j].ver.toArray⟩] 156)) := (Below.refl _ wr).alloc (Nat.le_refl _) _
              have HBa : Hid (Below wr.heap.size wr (wr.alloc (.cells #[.string ⟨p.needs[m][j].name.toArray⟩, .string ⟨p.needs[m][j].sign.toArray⟩, .string ⟨p.needs[m][j].ver.toArray⟩] 156))) := hBa
              clear hcg k0 k1 k2 hsc hBa
              go_wp2_with fail
              refine (cH _ HBa.out).mono ?_
              rintro e w5 ⟨rfl, hB5⟩
              have hB6 : Below wr.heap.size wr w5 := bt HBa.out hB5
              clear cH HBa hB5
              cases hB : (l.any fun q => M.fitsS p.needs[m][j] q) with
              | true =>
                have HG2 : Hid (∀ g ∈ p.needs.take (m + 1), M.any1S g l = true) := fun g hg => by
                  rw [List.take_succ_eq_append_getElem hlm] at hg
                  rcases List.mem_append.1 hg with hg | hg
                  · exact HG.out g hg
                  · simp at hg
                    subst hg
                    exact List.any_eq_true.2 ⟨_, List.getElem_mem hlj, hB⟩
                have hB7 : Below W0.heap.size W0 w5 := bt hBm (bt hBj hB6)
                clear hB
                go_wp2
                go_roundw
                case rel => exact ⟨m + 1, by go_num, by omega, hB7, HG2⟩
                case measure => simp [intOf]; omega
              | false =>
                have HC2 : Hid (∀ c ∈ p.needs[m].take (j + 1), (l.any fun q => M.fitsS c q) = false) := fun c hc => by
                  rw [List.take_succ_eq_append_getElem hlj] at hc
                  rcases List.mem_append.1 hc with hc | hc
                  · exact HC.out c hc
                  · simp at hc
                    subst hc
                    exact hB
                have hB7 : Below W2.heap.size W2 w5 := bt hBj hB6
                clear hB
                go_wp2
                go_roundw
                case rel => exact ⟨j + 1, by go_num, by omega, hB7, HC2⟩
                case measure => simp [intOf]; omega
            · have hjj : j = p.needs[m].length := by omega
              have HLk : Hid (M.lackingS l = p.name) := by
                refine first_name HA.out HMin.out hp (by rw [HR.out]; exact HNm.out) ⟨p.needs[m], List.getElem_mem hlm, ?_⟩ (by rw [HR.out]; exact HQ.out)
                unfold M.any1S
                rw [List.any_eq_false]
                intro c hc
                have := HC.out c (by rw [hjj, List.take_length]; exact hc)
                rw [this]
                simp
              have hBw : Below w.heap.size w wr := bt hB1 (bt hBr (bt hBm hBj))
              clear hjj
              go_wp2
              rw [Exit.noGoto_ret]
              go_wp2
              go_ret
              exact ⟨Y, rfl, by rw [HLk.out]; exact HYd.out, hBw⟩
        · have hmm : m = p.needs.length := by omega
          have HQ2 : Hid (∀ q ∈ l, q.name ∈ r.take (n + 1) → ¬ M.Lacks l q) := fun q hq hqn => by
            rw [List.take_succ_eq_append_getElem hnr] at hqn
            rcases List.mem_append.1 hqn with hqn | hqn
            · exact HQ.out q hq hqn
            · simp at hqn
              have e : q = p := HA.out.eq hq hp (by
                have := HNm.out
                rw [List.getElem?_eq_getElem hnr] at this
                rw [hqn]
                exact Option.some.inj this)
              subst e
              rintro ⟨g, hg, hno⟩
              rw [HG.out g (by rw [hmm, List.take_length]; exact hg)] at hno
              cases hno
          have hB7 : Below w1.heap.size w1 wr := bt hBr hBm
          clear hmm
          go_wp2
          rw [Exit.noGoto_normal]
          go_wp2
          go_roundw
          case rel => exact ⟨n + 1, by go_num, by omega, hB7, HQ2⟩
          case measure => simp [intOf]; omega
    · have hnn : n = l.length := by omega
      have HE : Hid (M.lackingS l = []) := by
        refine no_name HMin.out (fun q hq hqn => HQ.out q hq ?_)
        rw [hnn, ← HRL.out, List.take_length, ← HR.out]
        exact hqn
      have hBw : Below w.heap.size w wr := bt hB1 hBr
      clear hnn
      go_wp2
      go_ret
      exact ⟨⟨#[]⟩, rfl, by rw [HE.out], hBw⟩
end Go.Proofs.YtgnfknjopafngaaGreatDoor
namespace Go.Proofs.YtgnfknjopafngaaGreatDoor
open Go.RowKit
set_option maxRecDepth 100000 in
set_option maxHeartbeats 2000000 in
theorem writeChoice_walk (N S V : ByteArray) (w : World) (hN : N.size ≤ 8000) (hS : S.size ≤ 8000) (hV : V.size ≤ 8000) :
    Calls Tryz.prog 91 #[.agg #[.string N, .string S, .string V]] w fun e w' => ∃ T : ByteArray, e = .returned (.string T) ∧ T.data.toList = M.chText ⟨N.data.toList, S.data.toList, V.data.toList⟩ ∧ Below w.heap.size w w' := by
  by_cases h0 : S.toList.isEmpty = true
  · have HE : Hid (M.chText ⟨N.data.toList, S.data.toList, V.data.toList⟩ = N.data.toList) := by
      show _ = _
      unfold M.chText
      rw [if_pos (by rw [Lib.toList_data, List.isEmpty_iff] at h0; exact h0)]
    go_enter Tryz.func91, Tryz.ntmps91
    go_wp2
    go_ret
    exact ⟨N, rfl, HE.out.symm, (Below.refl _ w).alloc (Nat.le_refl _) _⟩
  · have h0' : S.toList.isEmpty = false := by simpa using h0
    have HE : Hid (M.chText ⟨N.data.toList, S.data.toList, V.data.toList⟩ = N.data.toList ++ [32, 40] ++ S.data.toList ++ [32] ++ V.data.toList ++ [41]) := by
      show _ = _
      unfold M.chText
      rw [if_neg (by rw [Lib.toList_data, List.isEmpty_iff] at h0; exact h0)]
    clear h0
    go_enter Tryz.func91, Tryz.ntmps91
    go_wp2
    go_ret
    refine ⟨_, rfl, ?_, (Below.refl _ w).alloc (Nat.le_refl _) _⟩
    rw [HE.out]
    simp only [cat_toList]
theorem writeChoice_any (c : M.Ch) (w : World) (hN : c.name.length ≤ 8000) (hS : c.sign.length ≤ 8000) (hV : c.ver.length ≤ 8000) :
    Calls Tryz.prog 91 #[.agg #[.string ⟨c.name.toArray⟩, .string ⟨c.sign.toArray⟩, .string ⟨c.ver.toArray⟩]] w fun e w' => e = .returned (.string ⟨(M.chText c).toArray⟩) ∧ Below w.heap.size w w' := by
  have sz : ∀ l : List UInt8, (ByteArray.mk l.toArray).size = l.length := fun l => by rw [← len_data]
  refine (writeChoice_walk ⟨c.name.toArray⟩ ⟨c.sign.toArray⟩ ⟨c.ver.toArray⟩ w (by rw [sz]; exact hN) (by rw [sz]; exact hS) (by rw [sz]; exact hV)).mono fun e w' h => ?_
  obtain ⟨T, h1, h2, h3⟩ := h
  refine ⟨?_, h3⟩
  rw [h1]
  have : T = ⟨(M.chText c).toArray⟩ := bytes_of h2
  rw [this]
theorem joinS_is (sep : List UInt8) : ∀ l : List (List UInt8), M.joinS sep l = Lib.join l sep
  | [] => rfl
  | [x] => by simp [M.joinS, Lib.join, List.intercalate]
  | x :: y :: r => by
    have ih := joinS_is sep (y :: r)
    rw [M.joinS, ih]
    simp [Lib.join, List.intercalate]
theorem joinS_len (sep : List UInt8) (m : Nat) : ∀ l : List (List UInt8), (∀ x ∈ l, x.length ≤ m) → (M.joinS sep l).length ≤ l.length * (m + sep.length)
  | [], _ => by simp [M.joinS]
  | [x], h => by
    have := h x (by simp)
    simp [M.joinS]
    omega
  | x :: y :: r, h => by
    have ih := joinS_len sep m (y :: r) (fun z hz => h z (by simp at hz ⊢; exact .inr hz))
    have := h x (by simp)
    rw [M.joinS, List.length_append, List.length_append, List.length_cons, Nat.add_mul]
    omega
theorem chText_len (c : M.Ch) (hN : c.name.length ≤ 8000) (hS : c.sign.length ≤ 8000) (hV : c.ver.length ≤ 8000) : (M.chText c).length ≤ 300010 := by
  unfold M.chText
  split
  · omega
  · simp; omega
theorem join_lib (l : List (List UInt8)) (sep : ByteArray) (v : Value) (B : Nat) (w : World) (h : w.ownsRow B 9 1 v l.length (l.map strV)) (hn : l.length ≤ 1000) (hsep : sep.size ≤ 1000) (hl : ∀ x ∈ l, x.length ≤ 1000000000) :
    Calls Tryz.prog 94 #[v, .string sep] w fun e w' => e = .returned (.string ⟨(M.joinS sep.data.toList l).toArray⟩) ∧ Below w.heap.size w w' := by
  rcases RowIn.own h with ⟨rfl, h0, _⟩ | ⟨g, cap, rfl, h1, h2, h3, h4⟩
  · obtain rfl := List.length_eq_zero_iff.mp h0
    exact (Tryz.strings_Join_none none 0 sep w).mono fun e w' h => ⟨h.1, by rw [h.2]; exact Below.refl _ _⟩
  · have em : (l.map fun q => (⟨q.toArray⟩ : ByteArray)).map (fun p => p.data.toList) = l := by
      rw [List.map_map]
      exact List.map_id'' (fun _ => rfl) l
    have hlen := joinS_len sep.data.toList 1000000000 l hl
    have hsl := len_data sep
    have hb : l.length * (1000000000 + sep.data.toList.length) ≤ 1000 * (1000000000 + 1000) := Nat.mul_le_mul hn (by omega)
    have hc := Tryz.strings_Join g 0 cap (l.map fun q => ⟨q.toArray⟩) sep w (fun j x hx => by
      rw [Nat.zero_add]
      rw [List.getElem?_map] at hx
      obtain ⟨q, hq, rfl⟩ := Option.map_eq_some_iff.1 hx
      exact h4 j (strV q) (by rw [List.getElem?_map, hq]; rfl)) h3.1 (by simp; omega) (by simpa using h1) (by rw [em, ← joinS_is]; omega)
    rw [em, ← joinS_is, List.length_map] at hc
    exact hc
theorem join_lib2 (l : List (List UInt8)) (sep : ByteArray) (v : Value) (B : Nat) (w : World) (h : w.ownsRow B 9 1 v l.length (l.map strV)) (hn : l.length ≤ 1000) (hlen : (M.joinS sep.data.toList l).length ≤ 100000000000000) :
    Calls Tryz.prog 94 #[v, .string sep] w fun e w' => e = .returned (.string ⟨(M.joinS sep.data.toList l).toArray⟩) ∧ Below w.heap.size w w' := by
  rcases RowIn.own h with ⟨rfl, h0, _⟩ | ⟨g, cap, rfl, h1, h2, h3, h4⟩
  · obtain rfl := List.length_eq_zero_iff.mp h0
    exact (Tryz.strings_Join_none none 0 sep w).mono fun e w' h => ⟨h.1, by rw [h.2]; exact Below.refl _ _⟩
  · have em : (l.map fun q => (⟨q.toArray⟩ : ByteArray)).map (fun p => p.data.toList) = l := by
      rw [List.map_map]
      exact List.map_id'' (fun _ => rfl) l
    have hc := Tryz.strings_Join g 0 cap (l.map fun q => ⟨q.toArray⟩) sep w (fun j x hx => by
      rw [Nat.zero_add]
      rw [List.getElem?_map] at hx
      obtain ⟨q, hq, rfl⟩ := Option.map_eq_some_iff.1 hx
      exact h4 j (strV q) (by rw [List.getElem?_map, hq]; rfl)) h3.1 (by simp; omega) (by simpa using h1) (by rw [em, ← joinS_is]; omega)
    rw [em, ← joinS_is, List.length_map] at hc
    exact hc
end Go.Proofs.YtgnfknjopafngaaGreatDoor
namespace Go.Proofs.YtgnfknjopafngaaGreatDoor
open Go.RowKit
set_option maxRecDepth 100000 in
set_option maxHeartbeats 2000000 in
theorem writeChoices_any (v : Value) (l : List M.Ch) (sep : ByteArray) (w : World) (hv : RowIn w 0 w.heap.size v l.length (chsCells l)) (hsh : ShortC l) (hsep : sep.size ≤ 1000) :
    Calls Tryz.prog 90 #[v, .string sep, .func (.func 91) #[] #[]] w fun e w' => e = .returned (.string ⟨(M.printedS sep.data.toList l).toArray⟩) ∧ Below w.heap.size w w' := by
  obtain ⟨i0, hi0, hz0, hz1, hz2⟩ := info_parts infoStr
  obtain ⟨av, cv, ev⟩ := hv.form
  subst ev
  obtain ⟨hn, hsh⟩ := hsh
  have HSH : Hid (∀ c ∈ l, c.name.length ≤ 8000 ∧ c.sign.length ≤ 8000 ∧ c.ver.length ≤ 8000) := hsh
  have HV : Hid (RowIn w 0 w.heap.size (.slice av l.length cv) l.length (chsCells l)) := hv
  have eR : ∀ args w, (callFunc 91 args).run Tryz.prog w = .ok (.enter 91 args) w := enters_of Tryz.func91 (by kernel_rfl) rfl
  clear hsh hv
  go_enter Tryz.func90, Tryz.ntmps90
  go_wp2_with fail
  go_loopw [7, 9, 12] (fun v _ i wr => ∃ (ts : List (List UInt8)) (k : Nat), i = .int .i64 k ∧ k ≤ l.length ∧ ts.length = k ∧ wr.ownsRow w.heap.size 9 1 v k (ts.map strV) ∧ Below w.heap.size w wr ∧ Hid (ts = (l.take k).map M.chText)) (fun _ _ i _ => l.length - (intOf i).toNat)
  case atStart => exact ⟨[], 0, rfl, Nat.zero_le _, rfl, World.ownsRow_nil _ _ _ _, Below.refl _ _, rfl⟩
  case round =>
    obtain ⟨ts, k, rfl, hk, hlk, hown, hBr, HR⟩ := hrel
    have hsr := hBr.size
    by_cases hlt : k < l.length
    · obtain ⟨g, rfl, hg, hcap, hc⟩ := HV.out.cellAt (by omega)
      obtain ⟨k0, k1, k2⟩ := ch_cell hlt
      have hb := HSH.out _ (List.getElem_mem hlt)
      have cx : wr.cell? ⟨g, k * 3, none⟩ = some (.string ⟨l[k].name.toArray⟩) := (hBr.cell (p := ⟨g, k * 3, none⟩) hg).trans (hc _ _ k0)
      have cy : wr.cell? ⟨g, k * 3 + 1, none⟩ = some (.string ⟨l[k].sign.toArray⟩) := (hBr.cell (p := ⟨g, k * 3 + 1, none⟩) hg).trans (hc _ _ k1)
      have cz : wr.cell? ⟨g, k * 3 + 2, none⟩ = some (.string ⟨l[k].ver.toArray⟩) := (hBr.cell (p := ⟨g, k * 3 + 2, none⟩) hg).trans (hc _ _ k2)
      have cK := fun wx => writeChoice_any l[k] wx hb.1 hb.2.1 hb.2.2
      obtain ⟨t, ht⟩ : ∃ t : List UInt8, t = M.chText l[k] := ⟨_, rfl⟩
      rw [← ht] at cK
      have HT : Hid (ts ++ [t] = (l.take (k + 1)).map M.chText) := by
        show _ = _
        rw [List.take_succ_eq_append_getElem hlt, List.map_append, ht, HR.out]; rfl
      clear hc k0 k1 k2 hb ht
      go_wp2_with fail
      refine (cK _).mono ?_
      rintro e w2 ⟨rfl, hB2⟩
      clear cK
      replace hB2 : Below wr.heap.size wr w2 := bt ((Below.refl _ wr).alloc (Nat.le_refl _) _) hB2
      have hown2 := own_below hown hB2
      have hs2 := hB2.size
      go_wp2_with (at_builtin; refine wpList_append_own _ rfl _ _ 43 rfl w.heap.size 9 i0 (.string ⟨#[]⟩) 1 16 Tryz.underlying43 hi0 hz0 hz1 hz2 rfl (by decide) _ _ _ rfl (hown2.alloc _) ⟨w2.heap.size, 0, none⟩ 1 1 [.string ⟨t.toArray⟩] rfl rfl ?c1 ?c2 ?c3 ?c4 ?c5 ?_)
      case c1 => exact one_new _ _ _
      case c2 => intro u hu; simp at hu; subst hu; rfl
      case c3 => unfold maxLen; omega
      case c4 => omega
      case c5 => simp; omega
      intro v' w3 hown' hgrow _
      have R1 : w3.ownsRow w.heap.size 9 1 v' (k + 1) ((ts ++ [t]).map strV) := by
        rw [List.map_append]; exact hown'
      have R2 : Below w.heap.size w w3 :=
        ((hBr.trans (hB2.mono hsr)).alloc (by omega) _).grown hgrow (by simp; omega) (fun j hj => (hown.lt j hj).1)
      clear hown' hgrow hown hown2
      go_wp2
      go_roundw
      case rel => exact ⟨_, k + 1, by go_num, by omega, by simp; omega, R1, R2, HT⟩
      case measure => simp [intOf]; omega
    · have hkk : k = l.length := by omega
      have HR2 := HR.out
      rw [hkk, List.take_length] at HR2
      subst HR2
      have hown' := hown
      rw [← hlk] at hown'
      have cJ := join_lib _ sep _ _ wr hown' (by simpa using hn) hsep (fun x hx => by
        obtain ⟨c, hcm, rfl⟩ := List.mem_map.1 hx
        have := HSH.out c hcm
        have := chText_len c this.1 this.2.1 this.2.2
        omega)
      obtain ⟨aw, cw, ew⟩ := own_form hown
      subst ew
      subst hkk
      clear hown hown' HR hlk hk hlt
      go_wp2_with fail
      refine cJ.mono ?_
      rintro e w9 ⟨rfl, hB9⟩
      go_wp2
      go_ret
      exact ⟨rfl, bt hBr hB9⟩
end Go.Proofs.YtgnfknjopafngaaGreatDoor
namespace Go.Proofs.YtgnfknjopafngaaGreatDoor
open Go.RowKit
set_option maxHeartbeats 1000000 in
theorem writeGroup_any (v : Value) (l : List M.Ch) (w : World) (hv : RowIn w 0 w.heap.size v l.length (chsCells l)) (hsh : ShortC l) :
    Calls Tryz.prog 89 #[v] w fun e w' => e = .returned (.string ⟨(M.printedS [32, 124, 32] l).toArray⟩) ∧ Below w.heap.size w w' := by
  have cW := writeChoices_any v l ⟨#[32, 124, 32]⟩ w hv hsh (by decide)
  have e0 : (ByteArray.mk #[32, 124, 32]).data.toList = [32, 124, 32] := rfl
  rw [e0] at cW
  obtain ⟨av, cv, ev⟩ := hv.form
  subst ev
  generalize M.printedS [32, 124, 32] l = t at cW ⊢
  clear hv hsh
  go_enter Tryz.func89, Tryz.ntmps89
  go_wp2_with fail
  refine cW.mono ?_
  rintro e w2 ⟨rfl, hB2⟩
  go_wp2
  go_ret
  exact ⟨rfl, hB2⟩
theorem printed_len (l : List M.Ch) (h : ShortC l) : (M.printedS [32, 124, 32] l).length ≤ 400000000 := by
  have h1 := joinS_len [32, 124, 32] 300010 (l.map M.chText) (fun x hx => by
    obtain ⟨c, hcm, rfl⟩ := List.mem_map.1 hx
    have := h.2 c hcm
    exact chText_len c this.1 this.2.1 this.2.2)
  have h2 := h.1
  rw [List.length_map] at h1
  have h3 : l.length * (300010 + [32, 124, 32].length) ≤ 1000 * (300010 + [32, 124, 32].length) := Nat.mul_le_mul_right _ h2
  unfold M.printedS
  simp only [List.length_cons, List.length_nil] at h1 h3
  omega
set_option maxRecDepth 100000 in
set_option maxHeartbeats 2000000 in
theorem writeGroups_any (v : Value) (l : List (List M.Ch)) (sep : ByteArray) (w : World) (hv : NeedsIn w 0 w.heap.size v l) (hn : l.length ≤ 1000) (hsh : ∀ x ∈ l, ShortC x) (hsep : sep.size ≤ 1000) :
    Calls Tryz.prog 88 #[v, .string sep, .func (.func 89) #[] #[]] w fun e w' => e = .returned (.string ⟨(M.joinS sep.data.toList (l.map (M.printedS [32, 124, 32]))).toArray⟩) ∧ Below w.heap.size w w' := by
  obtain ⟨i0, hi0, hz0, hz1, hz2⟩ := info_parts infoStr
  obtain ⟨av, cv, ev⟩ := hv.form
  subst ev
  have HSH : Hid (∀ x ∈ l, ShortC x) := hsh
  have HV : Hid (NeedsIn w 0 w.heap.size (.slice av l.length cv) l) := hv
  have eR : ∀ args w, (callFunc 89 args).run Tryz.prog w = .ok (.enter 89 args) w := enters_of Tryz.func89 (by kernel_rfl) rfl
  clear hsh hv
  go_enter Tryz.func88, Tryz.ntmps88
  go_wp2_with fail
  go_loopw [7, 9, 12] (fun v _ i wr => ∃ (ts : List (List UInt8)) (k : Nat), i = .int .i64 k ∧ k ≤ l.length ∧ ts.length = k ∧ wr.ownsRow w.heap.size 9 1 v k (ts.map strV) ∧ Below w.heap.size w wr ∧ Hid (ts = (l.take k).map (M.printedS [32, 124, 32]))) (fun _ _ i _ => l.length - (intOf i).toNat)
  case atStart => exact ⟨[], 0, rfl, Nat.zero_le _, rfl, World.ownsRow_nil _ _ _ _, Below.refl _ _, rfl⟩
  case round =>
    obtain ⟨ts, k, rfl, hk, hlk, hown, hBr, HR⟩ := hrel
    have hsr := hBr.size
    by_cases hlt : k < l.length
    · obtain ⟨g, au, cu, rfl, hg, hcell, hrow⟩ := HV.out.at k hlt
      have hb := HSH.out _ (List.getElem_mem hlt)
      have cx : wr.cell? ⟨g, k, none⟩ = some (.slice au l[k].length cu) := (hBr.cell (p := ⟨g, k, none⟩) hg).trans hcell
      have hrow2 : RowIn wr 0 wr.heap.size (.slice au l[k].length cu) l[k].length (chsCells l[k]) := (hrow.keep fun g' o _ hg' => belowS hBr hg').wide (Nat.zero_le _) hsr
      have cK := writeGroup_any (.slice au l[k].length cu) l[k] wr hrow2 hb
      obtain ⟨t, ht⟩ : ∃ t : List UInt8, t = (M.printedS [32, 124, 32]) l[k] := ⟨_, rfl⟩
      rw [← ht] at cK
      have HT : Hid (ts ++ [t] = (l.take (k + 1)).map (M.printedS [32, 124, 32])) := by
        show _ = _
        rw [List.take_succ_eq_append_getElem hlt, List.map_append, ht, HR.out]; rfl
      clear hcell hrow hrow2 hb ht
      go_wp2_with fail
      refine cK.mono ?_
      rintro e w2 ⟨rfl, hB2⟩
      clear cK
      have hown2 := own_below hown hB2
      have hs2 := hB2.size
      go_wp2_with (at_builtin; refine wpList_append_own _ rfl _ _ 43 rfl w.heap.size 9 i0 (.string ⟨#[]⟩) 1 16 Tryz.underlying43 hi0 hz0 hz1 hz2 rfl (by decide) _ _ _ rfl (hown2.alloc _) ⟨w2.heap.size, 0, none⟩ 1 1 [.string ⟨t.toArray⟩] rfl rfl ?c1 ?c2 ?c3 ?c4 ?c5 ?_)
      case c1 => exact one_new _ _ _
      case c2 => intro u hu; simp at hu; subst hu; rfl
      case c3 => unfold maxLen; omega
      case c4 => omega
      case c5 => simp; omega
      intro v' w3 hown' hgrow _
      have R1 : w3.ownsRow w.heap.size 9 1 v' (k + 1) ((ts ++ [t]).map strV) := by
        rw [List.map_append]; exact hown'
      have R2 : Below w.heap.size w w3 :=
        ((hBr.trans (hB2.mono hsr)).alloc (by omega) _).grown hgrow (by simp; omega) (fun j hj => (hown.lt j hj).1)
      clear hown' hgrow hown hown2
      go_wp2
      go_roundw
      case rel => exact ⟨_, k + 1, by go_num, by omega, by simp; omega, R1, R2, HT⟩
      case measure => simp [intOf]; omega
    · have hkk : k = l.length := by omega
      have HR2 := HR.out
      rw [hkk, List.take_length] at HR2
      subst HR2
      have hown' := hown
      rw [← hlk] at hown'
      have cJ := join_lib _ sep _ _ wr hown' (by simpa using hn) hsep (fun x hx => by
        obtain ⟨c, hcm, rfl⟩ := List.mem_map.1 hx
        have := printed_len _ (HSH.out c hcm)
        omega)
      obtain ⟨aw, cw, ew⟩ := own_form hown
      subst ew
      subst hkk
      clear hown hown' HR hlk hk hlt
      go_wp2_with fail
      refine cJ.mono ?_
      rintro e w9 ⟨rfl, hB9⟩
      go_wp2
      go_ret
      exact ⟨rfl, bt hBr hB9⟩
end Go.Proofs.YtgnfknjopafngaaGreatDoor
namespace Go.Proofs.YtgnfknjopafngaaGreatDoor
open Go.RowKit
def flText (f : M.Fl) : List UInt8 := [102, 105, 108, 101, 32] ++ f.path ++ [61] ++ f.content
set_option maxRecDepth 100000 in
set_option maxHeartbeats 2000000 in
theorem writeFile_walk (P C : ByteArray) (w : World) (hP : P.size ≤ 8000) (hC : C.size ≤ 8000) :
    Calls Tryz.prog 93 #[.agg #[.string P, .string C]] w fun e w' => ∃ T : ByteArray, e = .returned (.string T) ∧ T.data.toList = [102, 105, 108, 101, 32] ++ P.data.toList ++ [61] ++ C.data.toList ∧ Below w.heap.size w w' := by
  go_enter Tryz.func93, Tryz.ntmps93
  go_wp2
  go_ret
  refine ⟨_, rfl, ?_, (Below.refl _ w).alloc (Nat.le_refl _) _⟩
  simp only [cat_toList]
  rfl
theorem writeFile_any (f : M.Fl) (w : World) (hP : f.path.length ≤ 8000) (hC : f.content.length ≤ 8000) :
    Calls Tryz.prog 93 #[.agg #[.string ⟨f.path.toArray⟩, .string ⟨f.content.toArray⟩]] w fun e w' => e = .returned (.string ⟨(flText f).toArray⟩) ∧ Below w.heap.size w w' := by
  have sz : ∀ l : List UInt8, (ByteArray.mk l.toArray).size = l.length := fun l => by rw [← len_data]
  refine (writeFile_walk ⟨f.path.toArray⟩ ⟨f.content.toArray⟩ w (by rw [sz]; exact hP) (by rw [sz]; exact hC)).mono fun e w' h => ?_
  obtain ⟨T, h1, h2, h3⟩ := h
  refine ⟨?_, h3⟩
  rw [h1]
  have : T = ⟨(flText f).toArray⟩ := bytes_of h2
  rw [this]
set_option maxRecDepth 100000 in
set_option maxHeartbeats 2000000 in
theorem writeFiles_any (v : Value) (l : List M.Fl) (sep : ByteArray) (w : World) (hv : RowIn w 0 w.heap.size v l.length (flsCells l)) (hn : l.length ≤ 1000) (hsh : ∀ f ∈ l, f.path.length ≤ 8000 ∧ f.content.length ≤ 8000) (hsep : sep.size ≤ 1000) :
    Calls Tryz.prog 92 #[v, .string sep, .func (.func 93) #[] #[]] w fun e w' => e = .returned (.string ⟨(M.joinS sep.data.toList (l.map flText)).toArray⟩) ∧ Below w.heap.size w w' := by
  obtain ⟨i0, hi0, hz0, hz1, hz2⟩ := info_parts infoStr
  obtain ⟨av, cv, ev⟩ := hv.form
  subst ev
  have HSH : Hid (∀ f ∈ l, f.path.length ≤ 8000 ∧ f.content.length ≤ 8000) := hsh
  have HV : Hid (RowIn w 0 w.heap.size (.slice av l.length cv) l.length (flsCells l)) := hv
  have eR : ∀ args w, (callFunc 93 args).run Tryz.prog w = .ok (.enter 93 args) w := enters_of Tryz.func93 (by kernel_rfl) rfl
  clear hsh hv
  go_enter Tryz.func92, Tryz.ntmps92
  go_wp2_with fail
  go_loopw [7, 9, 12] (fun v _ i wr => ∃ (ts : List (List UInt8)) (k : Nat), i = .int .i64 k ∧ k ≤ l.length ∧ ts.length = k ∧ wr.ownsRow w.heap.size 9 1 v k (ts.map strV) ∧ Below w.heap.size w wr ∧ Hid (ts = (l.take k).map flText)) (fun _ _ i _ => l.length - (intOf i).toNat)
  case atStart => exact ⟨[], 0, rfl, Nat.zero_le _, rfl, World.ownsRow_nil _ _ _ _, Below.refl _ _, rfl⟩
  case round =>
    obtain ⟨ts, k, rfl, hk, hlk, hown, hBr, HR⟩ := hrel
    have hsr := hBr.size
    by_cases hlt : k < l.length
    · obtain ⟨g, rfl, hg, hcap, hc⟩ := HV.out.cellAt (by omega)
      have k0 := fl_cell hlt
      have k1 := fl_cell2 hlt
      rw [Nat.mul_comm] at k0 k1
      have hb := HSH.out _ (List.getElem_mem hlt)
      have cx : wr.cell? ⟨g, k * 2, none⟩ = some (.string ⟨l[k].path.toArray⟩) := (hBr.cell (p := ⟨g, k * 2, none⟩) hg).trans (hc _ _ k0)
      have cy : wr.cell? ⟨g, k * 2 + 1, none⟩ = some (.string ⟨l[k].content.toArray⟩) := (hBr.cell (p := ⟨g, k * 2 + 1, none⟩) hg).trans (hc _ _ k1)
      have cK := fun wx => writeFile_any l[k] wx hb.1 hb.2
      obtain ⟨t, ht⟩ : ∃ t : List UInt8, t = flText l[k] := ⟨_, rfl⟩
      rw [← ht] at cK
      have HT : Hid (ts ++ [t] = (l.take (k + 1)).map flText) := by
        show _ = _
        rw [List.take_succ_eq_append_getElem hlt, List.map_append, ht, HR.out]; rfl
      clear hc k0 k1 hb ht
      go_wp2_with fail
      refine (cK _).mono ?_
      rintro e w2 ⟨rfl, hB2⟩
      clear cK
      replace hB2 : Below wr.heap.size wr w2 := bt ((Below.refl _ wr).alloc (Nat.le_refl _) _) hB2
      have hown2 := own_below hown hB2
      have hs2 := hB2.size
      go_wp2_with (at_builtin; refine wpList_append_own _ rfl _ _ 43 rfl w.heap.size 9 i0 (.string ⟨#[]⟩) 1 16 Tryz.underlying43 hi0 hz0 hz1 hz2 rfl (by decide) _ _ _ rfl (hown2.alloc _) ⟨w2.heap.size, 0, none⟩ 1 1 [.string ⟨t.toArray⟩] rfl rfl ?c1 ?c2 ?c3 ?c4 ?c5 ?_)
      case c1 => exact one_new _ _ _
      case c2 => intro u hu; simp at hu; subst hu; rfl
      case c3 => unfold maxLen; omega
      case c4 => omega
      case c5 => simp; omega
      intro v' w3 hown' hgrow _
      have R1 : w3.ownsRow w.heap.size 9 1 v' (k + 1) ((ts ++ [t]).map strV) := by
        rw [List.map_append]; exact hown'
      have R2 : Below w.heap.size w w3 :=
        ((hBr.trans (hB2.mono hsr)).alloc (by omega) _).grown hgrow (by simp; omega) (fun j hj => (hown.lt j hj).1)
      clear hown' hgrow hown hown2
      go_wp2
      go_roundw
      case rel => exact ⟨_, k + 1, by go_num, by omega, by simp; omega, R1, R2, HT⟩
      case measure => simp [intOf]; omega
    · have hkk : k = l.length := by omega
      have HR2 := HR.out
      rw [hkk, List.take_length] at HR2
      subst HR2
      have hown' := hown
      rw [← hlk] at hown'
      have cJ := join_lib _ sep _ _ wr hown' (by simpa using hn) hsep (fun x hx => by
        obtain ⟨c, hcm, rfl⟩ := List.mem_map.1 hx
        have := HSH.out c hcm
        unfold flText
        simp only [List.length_append, List.length_cons, List.length_nil]
        omega)
      obtain ⟨aw, cw, ew⟩ := own_form hown
      subst ew
      subst hkk
      clear hown hown' HR hlk hk hlt
      go_wp2_with fail
      refine cJ.mono ?_
      rintro e w9 ⟨rfl, hB9⟩
      go_wp2
      go_ret
      exact ⟨rfl, bt hBr hB9⟩
end Go.Proofs.YtgnfknjopafngaaGreatDoor
