import Derived.Test.YtgnfknjopafngaaGreatDoorKsap
import Derived.Test.YtgnfknjopafngaaGreatDoorKsab
import Derived.Test.YtgnfknjopafngaaGreatDoorKsan
import Derived.Carry
namespace Go.Proofs.YtgnfknjopafngaaGreatDoor
namespace M
theorem begins_take {s t : List UInt8} (h : begins s t = true) : s.take t.length = t := by
  unfold begins at h
  rw [Bool.and_eq_true] at h
  exact eq_of_beq h.2
theorem file_not {s : List UInt8} (h : begins s fileW = true) {t : List UInt8} (ht : t.take 1 ≠ [102]) (hl : 1 ≤ t.length) : begins s t = false := by
  cases hb : begins s t with
  | false => rfl
  | true =>
    exfalso
    have h1 := congrArg (fun l => l.take 1) (begins_take h)
    have h2 := congrArg (fun l => l.take 1) (begins_take hb)
    simp only [List.take_take] at h1 h2
    rw [show min 1 fileW.length = 1 from rfl] at h1
    rw [show min 1 t.length = 1 by omega] at h2
    rw [h1] at h2
    exact ht h2.symm
theorem title_not {s : List UInt8} (h : begins s fileW = true) : titleS s = none := by
  unfold titleS
  split
  · rename_i a b c e
    rw [if_neg]
    rintro ⟨h1, _, _⟩
    have h2 := join_cut s [32]
    rw [e, eq_of_beq h1] at h2
    have h3 := congrArg (fun l => l.take 1) (begins_take h)
    simp only [List.take_take] at h3
    rw [← h2] at h3
    revert h3
    simp [joinS, fileW]
  · rfl
theorem ln_owns {p q : Pk} {k : Nat} {s : List UInt8} (h : lineS p k s = some q) (hb : begins s fileW = true) : ∃ f ∈ q.files, fileS (s.drop 5) = some f := by
  unfold lineS at h
  rw [title_not hb, file_not hb (t := needsW) (by decide) (by decide), file_not hb (t := barsW) (by decide) (by decide)] at h
  split at h
  · cases h
  · rw [if_neg (by simp), if_neg (by simp)] at h
    split at h
    · split at h
      · cases h
      · rename_i f hf
        split at h
        · cases h
          exact ⟨f, by simp, hf⟩
        · cases h
    · cases h
theorem ln_keep {p q : Pk} {k : Nat} {s : List UInt8} (h : lineS p k s = some q) {f : Fl} (hf : f ∈ p.files) : f ∈ q.files := by
  unfold lineS at h
  split at h
  · split at h
    · cases h
    · cases h
      exact hf
  · split at h
    · split at h
      · cases h
      · split at h
        · cases h
          exact hf
        · cases h
    · split at h
      · split at h
        · cases h
        · cases h
          exact hf
      · split at h
        · split at h
          · cases h
          · split at h
            · cases h
              exact List.mem_append_left _ hf
            · cases h
        · cases h
theorem lns_keep : ∀ (ls : List (List UInt8)) (k : Nat) (p q : Pk), linesS ls k p = .inr q → ∀ f ∈ p.files, f ∈ q.files
  | [], k, p, q, h, f, hf => by cases h; exact hf
  | s :: ls, k, p, q, h, f, hf => by
    unfold linesS at h
    split at h
    · cases h
    · rename_i r hr
      exact lns_keep ls _ _ _ h f (ln_keep hr hf)
theorem lns_own : ∀ (ls : List (List UInt8)) (k : Nat) (p q : Pk), linesS ls k p = .inr q → ∀ s ∈ ls, begins s fileW = true → ∃ f ∈ q.files, fileS (s.drop 5) = some f
  | [], k, p, q, h, s, hs, hb => by cases hs
  | t :: ls, k, p, q, h, s, hs, hb => by
    unfold linesS at h
    split at h
    · cases h
    · rename_i r hr
      rcases List.mem_cons.1 hs with rfl | hs
      · obtain ⟨f, h1, h2⟩ := ln_owns hr hb
        exact ⟨f, lns_keep ls _ _ _ h f h1, h2⟩
      · exact lns_own ls _ _ _ h s hs hb
theorem Clean.last : ∀ {t : List UInt8}, Clean t → t.getLast? ≠ some 10
  | [], h => by cases h
  | [a], h => by simpa [Clean] using h
  | a :: b :: r, h => by
    have := Clean.last (t := b :: r) h.2
    rwa [List.getLast?_cons_cons]
theorem owned_line {p : Pk} (hb : Back p) {s : List UInt8} (hs : s ∈ cutS (printS p) [10]) (h5 : begins s fileW = true) : ∃ f ∈ p.files, f.path = (s.drop 5).take (lead (fun c => decide (c ≠ 61)) (s.drop 5)) := by
  have hc := print_clean hb
  have ht : trimS (printS p) = printS p := by
    unfold trimS
    rw [if_neg hc.last]
  unfold Back readS at hb
  rw [ht] at hb
  split at hb
  · cases hb
  · split at hb
    · cases hb
    · rename_i q hq
      obtain ⟨f, h1, h2⟩ := lns_own _ _ _ _ hq s hs h5
      have hp : p.files = sortF q.files := by
        have := (Sum.inr.inj hb)
        rw [← this]
      refine ⟨f, by rw [hp]; exact (sortF_perm _).mem_iff.2 h1, ?_⟩
      unfold fileS at h2
      split at h2
      · cases h2
      · split at h2
        · cases h2
          rfl
        · cases h2
theorem path_one {l : List Pk} (h : Tog l) {p q : Pk} (hp : p ∈ l) (hq : q ∈ l) {x : List UInt8} (h1 : ∃ f ∈ p.files, f.path = x) (h2 : ∃ f ∈ q.files, f.path = x) : q.name = p.name := by
  obtain ⟨f, f1, f2⟩ := h1
  obtain ⟨g, g1, g2⟩ := h2
  rw [← owner_one h hp (x := x) (List.any_eq_true.2 ⟨f, f1, by simpa using f2⟩), ← owner_one h hq (x := x) (List.any_eq_true.2 ⟨g, g1, by simpa using g2⟩)]
end M
end Go.Proofs.YtgnfknjopafngaaGreatDoor
namespace Go.Proofs.YtgnfknjopafngaaGreatDoor
open Go.RowKit Go.Maps
def nlB : ByteArray := ⟨#[10]⟩
theorem nl_hit (T : ByteArray) (k : Nat) (hk : k < T.size) : ((T.extract k (k + nlB.size)).toList == nlB.toList) = decide ((T[k].toNat : Int) = 10) := by
  have e : (T.extract k (k + nlB.size)).toList = [T[k]] := by
    rw [Lib.toList_data, Lib.extract_data, show k + nlB.size - k = 1 by simp [nlB]; rfl]
    have h1 : k < T.data.toList.length := by simpa using hk
    rw [List.drop_eq_getElem_cons h1]
    simp
    rfl
  have e2 : nlB.toList = [10] := by rw [Lib.toList_data]; rfl
  rw [e, e2]
  by_cases h : T[k] = 10
  · rw [h]; rfl
  · rw [decide_eq_false (fun hc => h (UInt8.toNat_inj.1 (by have : ((10 : UInt8).toNat : Int) = 10 := rfl; omega)))]
    simp [h]
set_option maxRecDepth 100000 in
set_option maxHeartbeats 1000000 in
theorem klines_any (s : ByteArray) (w : World) (hl : s.size ≤ 1000000) :
    Calls Tryz.prog 52 #[.string s] w fun e w' => ∃ v, e = .returned v ∧ w'.ownsRow w.heap.size 9 1 v (cutB s nlB).length ((cutB s nlB).map strV) ∧ Below w.heap.size w w' := by
  obtain ⟨i0, hi0, hz0, hz1, hz2⟩ := info_parts infoStr
  have hn1 : nlB.size = 1 := rfl
  go_enter Tryz.func52, Tryz.ntmps52
  go_wp2
  go_loopw [3, 4, 5] (fun v f i wr => ∃ (os : List (List UInt8)) (fn k : Nat), f = .int .i64 fn ∧ i = .int .i64 k ∧ wr.ownsRow w.heap.size 9 1 v os.length (os.map strV) ∧ Below w.heap.size w wr ∧ os.length ≤ k ∧ fn ≤ 1000001 ∧ ((k ≤ s.size ∧ fn ≤ k ∧ Hid (cutRel s nlB os fn k)) ∨ (k = s.size + 1 ∧ Hid (os = cutB s nlB)))) (fun _ _ i _ => s.size + 1 - (intOf i).toNat)
  case atStart => exact ⟨[], 0, 0, rfl, rfl, World.ownsRow_nil _ _ _ _, Below.refl _ _, Nat.zero_le _, Nat.zero_le _, .inl ⟨Nat.zero_le _, Nat.le_refl _, cutRel_start s nlB⟩⟩
  case round =>
    obtain ⟨os, fn, k, rfl, rfl, hown, hB, hok, hf1, ⟨hk, hfk, HR⟩ | ⟨rfl, HR⟩⟩ := hrel
    · have hsz := hB.size
      by_cases hlt : k < s.size
      · have hne : ((k : Int) == (s.size : Int)) = false := by simp; omega
        have hne2 : ¬ ((k : Int) = (s.size : Int)) := by omega
        by_cases h1 : (s[k].toNat : Int) = 10
        · have HM : Hid (((s.extract k (k + nlB.size)).toList == nlB.toList) = true) := by show _ = _; rw [nl_hit s k hlt]; exact decide_eq_true h1
          go_wp2_with (at_builtin; refine wpList_append_own _ rfl _ _ 43 rfl w.heap.size 9 i0 (.string ⟨#[]⟩) 1 16 Tryz.underlying43 hi0 hz0 hz1 hz2 rfl (by decide) _ _ _ rfl (hown.alloc _) ⟨wr.heap.size, 0, none⟩ 1 1 [.string (s.extract fn k)] rfl rfl ?c1 ?c2 ?c3 ?c4 ?c5 ?_)
          case c1 => exact one_new _ _ _
          case c2 => intro u hu; simp at hu; subst hu; rfl
          case c3 => unfold maxLen; omega
          case c4 => omega
          case c5 => simp; omega
          intro v' w1 hown' hgrow _
          have R1 : w1.ownsRow w.heap.size 9 1 v' (os ++ [(s.data.toList.drop fn).take (k - fn)]).length ((os ++ [(s.data.toList.drop fn).take (k - fn)]).map strV) := by
            rw [strV_ext] at hown'; simpa using hown'
          have R2 := below_push hB hsz hown hgrow
          clear hown' hgrow hown
          go_wp2
          go_roundw
          case rel => exact ⟨_, k + 1, k + 1, by go_num, by go_num, R1, R2, by simp; omega, by omega, .inl ⟨by omega, Nat.le_refl _, cutRel_hit HR.out (by decide) (by rw [hn1]; omega) HM.out⟩⟩
          case measure => simp [intOf]; omega
        · have h2 : ((s[k].toNat : Int) == 10) = false := by simpa using h1
          have HM : Hid (((s.extract k (k + nlB.size)).toList == nlB.toList) = false) := by show _ = _; rw [nl_hit s k hlt]; exact decide_eq_false h1
          go_wp2
          go_roundw
          case rel => exact ⟨_, fn, k + 1, rfl, by go_num, hown, hB, by omega, hf1, .inl ⟨by omega, by omega, cutRel_miss HR.out (by decide) (by rw [hn1]; omega) HM.out⟩⟩
          case measure => simp [intOf]; omega
      · have hkk : k = s.size := by omega
        subst hkk
        go_wp2_with (at_builtin; refine wpList_append_own _ rfl _ _ 43 rfl w.heap.size 9 i0 (.string ⟨#[]⟩) 1 16 Tryz.underlying43 hi0 hz0 hz1 hz2 rfl (by decide) _ _ _ rfl (hown.alloc _) ⟨wr.heap.size, 0, none⟩ 1 1 [.string (s.extract fn s.size)] rfl rfl ?c1 ?c2 ?c3 ?c4 ?c5 ?_)
        case c1 => exact one_new _ _ _
        case c2 => intro u hu; simp at hu; subst hu; rfl
        case c3 => unfold maxLen; omega
        case c4 => omega
        case c5 => simp; omega
        intro v' w1 hown' hgrow _
        have HE : Hid (cutB s nlB = os ++ [s.data.toList.drop fn]) := cutRel_end HR.out (by rw [hn1]; omega)
        have R1 : w1.ownsRow w.heap.size 9 1 v' (os ++ [s.data.toList.drop fn]).length ((os ++ [s.data.toList.drop fn]).map strV) := by
          rw [strV_ext, List.take_of_length_le (by simp)] at hown'
          simpa using hown'
        have R2 := below_push hB hsz hown hgrow
        clear hown' hgrow hown
        go_wp2
        go_roundw
        case rel => exact ⟨_, s.size + 1, s.size + 1, by go_num, by go_num, R1, R2, by simp; omega, by omega, .inr ⟨rfl, HE.out.symm⟩⟩
        case measure => simp [intOf]
    · have hnl : ¬ (((s.size + 1 : Nat) : Int) ≤ (s.size : Int)) := by omega
      have R1 := hown
      rw [HR.out] at R1
      clear hown
      go_wp2
      go_ret
      exact ⟨_, rfl, R1, hB⟩
def fileWB : ByteArray := ⟨#[102, 105, 108, 101, 32]⟩
theorem file_begins (S : ByteArray) (h5 : 5 ≤ S.size) (h : S.extract 0 5 = fileWB) : M.begins S.data.toList M.fileW = true := by
  unfold M.begins
  have h1 : S.data.toList.take 5 = M.fileW := by rw [← ext_upto, h]; rfl
  rw [show M.fileW.length = 5 from rfl, h1]
  simp
  omega
set_option maxRecDepth 100000 in
set_option maxHeartbeats 4000000 in
theorem kowned_any (x : Nat) (l : List M.Pk) (p : M.Pk) (T : ByteArray) (w : World) (hO : ∀ wx, Below w.heap.size w wx → ∀ S : ByteArray, Calls Tryz.prog 53 #[.pointer (some ⟨x, 0, none⟩), .string S] wx (OwnerPost l S.data.toList wx)) (ht : M.Tog l) (hp : p ∈ l) (hT : T.data.toList = M.printS p) :
    Calls Tryz.prog 28 #[.pointer (some ⟨x, 0, none⟩), .string T] w fun e w' => e = .returned (.bool true) ∧ Below w.heap.size w w' := by
  have hbk := ht.back p hp
  have hrp := ReadP.of hbk
  have hTs : T.size ≤ 300 := by have := hrp.len; rw [← len_data, hT]; exact this
  obtain ⟨N, hN⟩ : ∃ N : ByteArray, N = ⟨p.name.toArray⟩ := ⟨_, rfl⟩
  have hNd : N.data.toList = p.name := by rw [hN]
  have cN := kname_any T N (p.ver ++ M.needsText p.needs ++ M.barsText p.bars ++ p.files.flatMap M.fileText) w (by rw [hT, hNd]; unfold M.printS; simp) (by rw [hNd]; exact hbk.blank) (by omega)
  have cL := fun wx => klines_any T wx (by omega)
  have HL : Hid (∀ s ∈ cutB T nlB, M.begins s M.fileW = true → ∃ f ∈ p.files, f.path = (s.drop 5).take (M.lead neqP (s.drop 5))) := fun s hs h5 => by
    unfold cutB at hs
    rw [hT] at hs
    exact M.owned_line hbk hs h5
  have HNm : Hid (∀ q ∈ l, ∀ X : List UInt8, (∃ f ∈ p.files, f.path = X) → (∃ f ∈ q.files, f.path = X) → (⟨q.name.toArray⟩ : ByteArray) = N) := fun q hq X h1 h2 => by rw [hN, M.path_one ht hp hq h1 h2]
  have HLen : Hid (∀ s ∈ cutB T nlB, s.length ≤ 300) := fun s hs => by
    have := M.cutS_mem _ _ s hs
    rw [len_data] at this
    omega
  have HP : Hid (p ∈ l) := hp
  have hcl : (cutB T nlB).length ≤ 1000 := by
    have := (M.cutS_len T.data.toList nlB.data.toList).2
    rw [len_data] at this
    unfold cutB
    omega
  generalize cutB T nlB = L at cL HL HLen hcl
  clear hbk hrp hN hNd hT ht hp
  go_enter Tryz.func28, Tryz.ntmps28
  go_wp2_with fail
  refine cN.mono ?_
  rintro e w1 ⟨rfl, hB1⟩
  go_wp2_with fail
  refine (cL _).mono ?_
  rintro e w2 ⟨v, rfl, hown, hB2⟩
  have hB3 := bt hB1 hB2
  obtain ⟨a, c, ev⟩ := own_form hown
  subst ev
  have HOw : Hid (StrsIn w2 (.slice a L.length c) (L.map fun t : List UInt8 => (⟨t.toArray⟩ : ByteArray))) := strs_own hown
  have HO : Hid _ := hO
  clear hB1 hB2 cN cL hown hO
  go_wp2
  go_loopw [7, 8, 9, 10, 11] (fun i _ _ _ _ wr => ∃ k : Nat, i = .int .i64 k ∧ k ≤ L.length ∧ Below w2.heap.size w2 wr) (fun i _ _ _ _ _ => L.length - (intOf i).toNat)
  case atStart => exact ⟨0, rfl, Nat.zero_le _, Below.refl _ _⟩
  case round =>
    obtain ⟨k, rfl, hk, hBr⟩ := hrel
    by_cases hlt : k < L.length
    · have hlt' : k < (L.map fun t : List UInt8 => (⟨t.toArray⟩ : ByteArray)).length := by simpa using hlt
      obtain ⟨g, rfl, hg, hcap, hc⟩ := HOw.out.cellAt (by simp; omega)
      have c0 : wr.cell? ⟨g, k, none⟩ = some (.string ⟨L[k].toArray⟩) := (hBr.cell (p := ⟨g, k, none⟩) hg).trans (hc k _ (by simp [hlt]))
      obtain ⟨S, hS⟩ : ∃ S : ByteArray, S = ⟨L[k].toArray⟩ := ⟨_, rfl⟩
      have hSd : S.data.toList = L[k] := by rw [hS]
      have hsz : S.size ≤ 300 := by rw [← len_data, hSd]; exact HLen.out _ (List.getElem_mem hlt)
      have HF : Hid (M.begins S.data.toList M.fileW = true → ∃ f ∈ p.files, f.path = (S.data.toList.drop 5).take (M.lead neqP (S.data.toList.drop 5))) := fun h => by
        rw [hSd] at h ⊢
        exact HL.out _ (List.getElem_mem hlt) h
      rw [← hS] at c0
      clear hS hSd hc hlt'
      by_cases h5 : S.size < 5
      · go_wp2
        go_roundw
        case rel => exact ⟨k + 1, by go_num, by omega, hBr⟩
        case measure => simp [intOf]; omega
      · have h5' : ¬ ((S.size : Int) < 5) := by omega
        by_cases hE : S.extract 0 5 = ⟨#[102, 105, 108, 101, 32]⟩
        · have hEq : ((S.extract 0 5).toList == [102, 105, 108, 101, 32]) = true := by rw [hE, Lib.toList_data]; rfl
          have HF2 : Hid (∃ f ∈ p.files, f.path = (S.data.toList.drop 5).take (M.lead neqP (S.data.toList.drop 5))) := HF.out (file_begins S (by omega) hE)
          clear hE HF
          obtain ⟨P, hP⟩ : ∃ P : ByteArray, P = S.extract 5 S.size := ⟨_, rfl⟩
          have hPd : P.data.toList = S.data.toList.drop 5 := by rw [hP, ext_from]
          have hPs : P.size ≤ 300 := by have := ext_size S 5 S.size; rw [hP]; omega
          rw [← hPd] at HF2
          clear hPd
          go_wp2
          rw [← hP]
          clear hP
          go_loop [9] (fun i => ∃ m : Nat, m ≤ P.size ∧ i = .int .i64 m ∧ Hid (∀ j (h : j < P.data.toList.length), j < m → neqP (P.data.toList[j]).toNat = true)) (fun i => P.size - (intOf i).toNat)
          case atStart => exact ⟨0, Nat.zero_le _, rfl, fun j _ h => by omega⟩
          case round =>
            obtain ⟨m, hm1, rfl, HA⟩ := hrel
            by_cases hml : m < P.size
            · by_cases h1 : (P[m].toNat : Int) = 61
              · have h1' : ((P[m].toNat : Int) != 61) = false := by simpa using h1
                have hlead : M.lead neqP P.data.toList = m := M.lead_eq HA.out (by simpa using hm1) (fun _ => by show neqP P[m].toNat = false; unfold neqP; simp; omega)
                have HK : Hid (∃ f ∈ p.files, f.path = (P.extract 0 m).data.toList) := by
                  obtain ⟨f, f1, f2⟩ := HF2.out
                  refine ⟨f, f1, ?_⟩
                  rw [f2, ext_upto, hlead]
                have cO := HO.out wr (bt hB3 hBr) (P.extract 0 m)
                clear hlead HA
                go_wp2_with fail
                refine cO.mono ?_
                rintro e w4 ⟨hB4, ⟨q, hq, hf, rfl⟩ | ⟨hf, rfl⟩⟩
                · have hNq := HNm.out q hq _ HK.out hf
                  rw [hNq]
                  have hBn := bt hBr hB4
                  clear hq hf hNq cO hB4
                  go_wp2
                  go_roundw
                  case rel => exact ⟨k + 1, by go_num, by omega, hBn⟩
                  case measure => simp [intOf]; omega
                · exfalso
                  obtain ⟨f, f1, f2⟩ := HK.out
                  exact hf p HP.out f f1 f2
              · have h1' : ((P[m].toNat : Int) != 61) = true := by simpa using h1
                have HA2 : Hid (∀ j (h : j < P.data.toList.length), j < m + 1 → neqP (P.data.toList[j]).toNat = true) := fun j h hj => by
                  by_cases e : j = m
                  · subst e
                    show neqP P[j].toNat = true
                    unfold neqP
                    simp
                    omega
                  · exact HA.out j h (by omega)
                go_wp2
                go_round
                case rel => exact ⟨m + 1, by omega, by go_num, HA2⟩
                case measure => simp [intOf]; omega
            · have hlead : M.lead neqP P.data.toList = m := M.lead_eq HA.out (by simpa using hm1) (fun h => by rw [len_data] at h; omega)
              have HK : Hid (∃ f ∈ p.files, f.path = (P.extract 0 m).data.toList) := by
                obtain ⟨f, f1, f2⟩ := HF2.out
                refine ⟨f, f1, ?_⟩
                rw [f2, ext_upto, hlead]
              have cO := HO.out wr (bt hB3 hBr) (P.extract 0 m)
              clear hlead HA
              go_wp2_with fail
              refine cO.mono ?_
              rintro e w4 ⟨hB4, ⟨q, hq, hf, rfl⟩ | ⟨hf, rfl⟩⟩
              · have hNq := HNm.out q hq _ HK.out hf
                rw [hNq]
                have hBn := bt hBr hB4
                clear hq hf hNq cO hB4
                go_wp2
                go_roundw
                case rel => exact ⟨k + 1, by go_num, by omega, hBn⟩
                case measure => simp [intOf]; omega
              · exfalso
                obtain ⟨f, f1, f2⟩ := HK.out
                exact hf p HP.out f f1 f2
        · have hne : ((S.extract 0 5).toList == [102, 105, 108, 101, 32]) = false := by
            rw [← show (⟨#[102, 105, 108, 101, 32]⟩ : ByteArray).toList = [102, 105, 108, 101, 32] from by rw [Lib.toList_data]]
            exact ba_ne hE
          clear hE HF
          go_wp2
          go_roundw
          case rel => exact ⟨k + 1, by go_num, by omega, hBr⟩
          case measure => simp [intOf]; omega
    · go_wp2
      go_ret
      exact ⟨rfl, bt hB3 hBr⟩
end Go.Proofs.YtgnfknjopafngaaGreatDoor
namespace Go.Proofs.YtgnfknjopafngaaGreatDoor
open Go.RowKit Go.Maps
theorem XAt.chgS {W W' : World} {F : Nat → Prop} {B x n : Nat} {l : List M.Pk} (h : XAt W B x n l) (hc : Chg F W W') (ht : NoText F W) (hh : ∀ j, F j → 1 < j) (hs : ∀ j, F j → ∃ c f, W.heap[j]? = some (.cells c 9 f)) : XAt W' B x n l := by
  obtain ⟨d, s, k, b, half, hv, sv, lv, D, h1, h2, h3⟩ := h
  have hd : ∀ j, xFoot x d s k hv sv lv j → ¬ F j := fun j hj e => by
    obtain ⟨c, f, he⟩ := hs j e
    rcases hj with rfl | rfl | rfl | hj
    · exact ty_ne he h1.sess (by decide) rfl
    · exact ty_ne he h1.store (by decide) rfl
    · exact ty_ne he h1.known (by decide) rfl
    · exact h1.disk.off he (by decide) (by decide) (by decide) hj
  have hu : NoU8 F W := fun j hj cur fz e => by
    obtain ⟨c, f, he⟩ := hs j hj
    rw [e] at he
    cases he
  refine ⟨d, s, k, b, half, hv, sv, lv, D, ⟨h1.ready.chg hc hh, h1.sess.chg hc (hd x (.inl rfl)), ?_, ?_, h1.disk.chg hc hu (fun j hj => hd j (.inr (.inr (.inr hj)))), h1.set.chg hc ht (fun p hp => (h1.tog.back p hp).few), h1.n1, h1.n2, h1.ho, h1.rest, h1.left, h1.tog, h1.room, h1.high⟩, h2, h3⟩
  · exact (hc.block s (Array.getElem?_eq_some_iff.1 h1.store).1 (hd s (.inr (.inl rfl)))).trans h1.store
  · exact (hc.block k (Array.getElem?_eq_some_iff.1 h1.known).1 (hd k (.inr (.inr (.inl rfl))))).trans h1.known
theorem XAt.push {wr w1 : World} {o : Obj} {B base m x n : Nat} {v : Value} {ts : List ByteArray} {l : List M.Pk} (h : XAt wr B x n l) (hown : wr.ownsRow base 9 1 v m (ts.map Value.string)) (h0 : m = 0 → v = .slice none 0 0) (hg : (wr.alloc o).grownBy w1 v.ownBlock) (hb : 1 < base) : XAt w1 B x n l := by
  have hB : Below wr.heap.size wr (wr.alloc o) := (Below.refl _ wr).alloc (Nat.le_refl _) _
  have hc : Chg (fun k => v.ownBlock = some k) wr w1 := (Chg.below hB).then (Chg.grown (F := fun k => v.ownBlock = some k) hg (fun k e _ => e)) (fun _ _ e => e)
  by_cases hm : m = 0
  · refine h.chgS hc (fun j hj => ?_) (fun j hj => ?_) (fun j hj => ?_) <;> (rw [h0 hm] at hj; cases hj)
  · refine h.chgS hc (NoText.strs hown (fun u hu => ?_) (by omega)) (fun j hj => ?_) (fun j hj => ?_)
    · obtain ⟨s, _, rfl⟩ := List.mem_map.1 hu
      exact ⟨s, rfl⟩
    · have := (hown.lt j hj).1
      omega
    · obtain ⟨g, cap, cur, e, hg', _, hb'⟩ := own_cells hown (by omega)
      rw [hb'] at hj
      cases hj
      exact ⟨_, _, hg'⟩
theorem x_fill {w : World} {B x n : Nat} {l : List M.Pk} (h : XAt w B x n l) : Calls Tryz.prog 27 #[.pointer (some ⟨x, 0, none⟩)] w fun e w' => ∃ q, e = .returned (.float .f64 q) ∧ ¬ (FloatKind.f64.format.order q 4607182418800017408 = some Ordering.gt) ∧ ¬ (FloatKind.f64.format.order q 0 = some Ordering.lt) ∧ Below w.heap.size w w' := by
  obtain ⟨d, s, k, b, half, hv, sv, lv, D, h1, h2, h3⟩ := h
  obtain ⟨z1, z2⟩ := h1.size
  have n1 := h1.n1
  have n2 := h1.n2
  have hS : SecsOf w d n := by
    have := h1.disk.secsOf (by rw [h1.secs.1]; omega)
    rwa [h1.secs.1] at this
  refine (xFill_any x s k b d half n l w h1.sess h1.store h1.known hS h1.n1 h1.n2 h1.set h1.reads (by omega)).mono ?_
  rintro e w' ⟨q, hq, rfl, hB⟩
  have hr : (24 * ((n : Int) - 8)) = ((24 * (n - 8) : Nat) : Int) := by omega
  obtain ⟨q', hq', _, ho⟩ := fill_bits (M.sizeS l) (24 * (n - 8)) (by omega) (by omega) (by omega)
  rw [hr, hq'] at hq
  cases hq
  have hle := h1.room
  obtain ⟨o1, o2⟩ := ho (by omega)
  exact ⟨_, rfl, o1, o2, hB⟩
theorem x_owner {w : World} {B x n : Nat} {l : List M.Pk} (h : XAt w B x n l) (S : ByteArray) : Calls Tryz.prog 53 #[.pointer (some ⟨x, 0, none⟩), .string S] w (OwnerPost l S.data.toList w) := by
  obtain ⟨d, s, k, b, half, hv, sv, lv, D, h1, h2, h3⟩ := h
  exact xOwner_any x d s k b S l w h1.sess h1.store h1.set h1.reads
theorem x_owned {w : World} {B x n : Nat} {l : List M.Pk} (h : XAt w B x n l) (T : ByteArray) (hT : T ∈ txsB l) :
    Calls Tryz.prog 28 #[.pointer (some ⟨x, 0, none⟩), .string T] w fun e w' => e = .returned (.bool true) ∧ Below w.heap.size w w' := by
  obtain ⟨htog, _⟩ := h.tog
  unfold txsB at hT
  obtain ⟨t, ht, rfl⟩ := List.mem_map.1 hT
  have hp := (M.texts_prints htog.apart).mem_iff.1 ht
  obtain ⟨p, hp1, hp2⟩ := List.mem_map.1 hp
  exact kowned_any x l p _ w (fun wx hb S => x_owner (h.below hb) S) htog hp1 hp2.symm
theorem x_plan0 {w : World} {B x n : Nat} {l : List M.Pk} (h : XAt w B x n l) :
    Calls Tryz.prog 26 #[.pointer (some ⟨x, 0, none⟩), .slice none 0 0] w fun e w' => ∃ a c, e = .returned (.tuple #[.slice a 0 c, okV]) ∧ Below w.heap.size w w' := by
  refine (x_plan h (.slice none 0 0) [] (StrsIn.none w).txts (by decide) (fun t ht => by cases ht)).mono ?_
  rintro e w' ⟨a, c, he, _, hB⟩
  rw [List.map_nil, M.plan_none h.tog.1] at he
  exact ⟨a, c, he, hB⟩
theorem txts_tail {w : World} {g n c : Nat} {t : ByteArray} {ts : List ByteArray} (h : TxtsIn w (.slice (some ⟨g, 0, none⟩) n c) (t :: ts)) :
    ∃ v, (Instr.slice 43 (.slice (some ⟨g, 0, none⟩) n c) (some (.int .i64 1)) none none).run Tryz.prog w = .ok v w ∧ TxtsIn w v ts := by
  obtain ⟨e, _⟩ | ⟨g', off, cap, e, h1, h2, h3⟩ := h
  · cases e
  · cases e
    rw [run_slice_l w _ _ _ _ strs_elem _ _ (by omega) (by simp; omega), strs_size]
    simp only [Result.andThen, sliced]
    by_cases hc : c = 1
    · subst hc
      have : ts = [] := List.length_eq_zero_iff.1 (by simpa using h1)
      subst this
      exact ⟨_, rfl, .inl ⟨rfl, _, _, rfl⟩⟩
    · refine ⟨_, rfl, .inr ⟨g, 1, c - 1, ?_, by simp at h1; omega, h2, fun j hj => ?_⟩⟩
      · simp [hc, Addr.add_lit]
      · have := h3 (j + 1) (by simp; omega)
        rw [show 0 + (j + 1) = 1 + j by omega] at this
        rw [this]
        simp
end Go.Proofs.YtgnfknjopafngaaGreatDoor
namespace Go.Proofs.YtgnfknjopafngaaGreatDoor
open Go.RowKit Go.Maps
set_option maxRecDepth 100000 in
set_option maxHeartbeats 16000000 in
theorem sound_law (sectors : Int) (tv : Value) (lists : List ByteArray) (w : World) (hR : Ready w) (ht : TxtsIn w tv lists) (t1 : lists.length ≤ 1000000000000000000) (t2 : ∀ t ∈ lists, t.size ≤ 1000000000000000000) :
    Calls Tryz.prog 8 #[.int .i64 sectors, tv] w fun e w' => e = .returned (.bool true) ∧ Below w.heap.size w w' := by
  have cS1 := ksmall_any tv lists w ht t1 t2
  obtain ⟨at', ct, et⟩ := ht.form
  subst et
  have HT : Hid (TxtsIn w (.slice at' lists.length ct) lists) := ht
  have HR : Hid (Ready w) := hR
  clear ht hR t1 t2
  cases hs1 : smallB lists with
  | false =>
    rw [hs1] at cS1
    go_enter Tryz.func8, Tryz.ntmps8
    go_wp2_with fail
    refine cS1.mono ?_
    rintro e w1 ⟨rfl, hB1⟩
    go_wp2
    go_ret
    exact ⟨rfl, hB1⟩
  | true =>
    rw [hs1] at cS1
    obtain ⟨v1, v2⟩ := small_sz hs1
    have HVz : Hid (∀ t ∈ lists, t.size ≤ 8192) := fun t h => Nat.le_trans (v2 t h) (by decide)
    have cA := fun wx (hb : Below w.heap.size w wx) => anchored_any wx (HR.out.below hb)
    have cN := fun wx (hb : Below w.heap.size w wx) => x_new sectors wx (HR.out.below hb)
    obtain ⟨i0, hi0, hz0, hz1, hz2⟩ := info_parts infoStr
    generalize hn : sectorsN sectors = n at cN
    clear hs1 v2 hn
    go_enter Tryz.func8, Tryz.ntmps8
    go_wp2_with fail
    refine cS1.mono ?_
    rintro e w1 ⟨rfl, hB1⟩
    clear cS1
    go_wp2_with fail
    refine (cA _ hB1).mono ?_
    rintro e w3 ⟨rfl, hB4⟩
    have hB5 := bt hB1 hB4
    clear hB1 hB4 cA
    go_wp2_with fail
    refine (cN _ hB5).mono ?_
    rintro e w4 ⟨x, rfl, hX, hB6⟩
    obtain ⟨A4, hA4⟩ : ∃ A4, A4 = w4.alloc (.cells okC 23) := ⟨_, rfl⟩
    have hBA4 : Below w4.heap.size w4 A4 := by rw [hA4]; exact (Below.refl _ w4).alloc (Nat.le_refl _) _
    have HA4 : Hid (A4 = w4.alloc (.cells okC 23)) := hA4
    have hX4 : XAt A4 w3.heap.size x n [] := hX.below hBA4
    have hB7 : Below w3.heap.size w3 A4 := bt hB6 hBA4
    have hhi : 1 < A4.heap.size := by have := hX4.ready.lt; omega
    have h34 := hB7.size
    have HLow : Hid (∀ W, Below w3.heap.size w3 W → TxtsIn W (.slice at' lists.length ct) lists ∧ Below w.heap.size w W) := fun W hb => ⟨HT.out.below (bt hB5 hb), bt hB5 hb⟩
    have HX4 : Hid (XAt A4 w3.heap.size x n []) := hX4
    clear hX hX4 cN hB6 hBA4 HT HR
    rw [hA4] at hB7
    go_wp2
    rw [← HA4.out] at hB7 ⊢
    clear hA4
    go_loopw [9, 10, 11, 12, 13, 14, 15, 16, 17] (fun lv i _ _ _ _ _ _ _ wr => ∃ (k : Nat) (ts : List ByteArray) (L : List M.Pk), i = .int .i64 k ∧ k ≤ lists.length + 1 ∧ ts.length ≤ k ∧ (ts.length = 0 → lv = .slice none 0 0) ∧ Hid (∀ t ∈ ts, t.size ≤ 8192) ∧ wr.ownsRow A4.heap.size 9 1 lv ts.length (ts.map Value.string) ∧ Hid (XAt wr w3.heap.size x n L) ∧ Below w3.heap.size w3 wr ∧ A4.heap.size ≤ wr.heap.size) (fun _ i _ _ _ _ _ _ _ _ => lists.length + 1 - (intOf i).toNat)
    case atStart => exact ⟨0, [], [], rfl, Nat.zero_le _, Nat.zero_le _, fun _ => rfl, (fun t ht => by cases ht), World.ownsRow_nil _ _ _ _, HX4, hB7, Nat.le_refl _⟩
    case round =>
      obtain ⟨k, ts, L, rfl, hk, htk, h0, HZ, hown, HX, hBr, hAr⟩ := hrel
      by_cases hle : k ≤ lists.length
      · obtain ⟨av, cv, ev⟩ := own_form hown
        subst ev
        by_cases hT : ∃ h : k < lists.length, lists[k] ≠ ⟨#[]⟩
        · obtain ⟨hlt, hne⟩ := hT
          obtain ⟨g, off, eat, hg, hcap, hc⟩ := (HLow.out _ hBr).1.cellAt (by omega)
          subst eat
          have p0 : wr.cell? ⟨g, off + k, none⟩ = some (.string lists[k]) := hc k hlt
          have HS : Hid (lists[k].size ≤ 8192) := HVz.out _ (List.getElem_mem hlt)
          have hne2 : (lists[k].toList == []) = false := by
            have := ba_ne hne
            rwa [show (⟨#[]⟩ : ByteArray).toList = [] from by rw [Lib.toList_data]] at this
          clear hc hne
          generalize lists[k] = S at p0 HS hne2
          have HOw : Hid (wr.ownsRow A4.heap.size 9 1 (.slice av ts.length cv) ts.length (ts.map Value.string)) := hown
          go_wp2_with (at_builtin; refine wpList_append_own _ rfl _ _ 43 rfl A4.heap.size 9 i0 (.string ⟨#[]⟩) 1 16 Tryz.underlying43 hi0 hz0 hz1 hz2 rfl (by decide) _ _ _ rfl (hown.alloc _) ⟨wr.heap.size, 0, none⟩ 1 1 [.string S] rfl rfl ?c1 ?c2 ?c3 ?c4 ?c5 ?_)
          case c1 => exact one_new _ _ _
          case c2 => intro u hu; simp at hu; subst hu; rfl
          case c3 => unfold maxLen; omega
          case c4 => omega
          case c5 => simp; omega
          intro v' w5 hown' hgrow _
          have R1 : w5.ownsRow A4.heap.size 9 1 v' (ts ++ [S]).length ((ts ++ [S]).map Value.string) := by simpa using hown'
          have R2 : Below w3.heap.size w3 w5 := (hBr.alloc hBr.size _).grown hgrow (by simp; omega) (fun j hj => by have := (HOw.out.lt j hj).1; omega)
          have R3 : Hid (XAt w5 w3.heap.size x n L) := HX.out.push HOw.out h0 hgrow hhi
          have R4 : A4.heap.size ≤ w5.heap.size := by have := hgrow.size; simp at this; omega
          have R5 : Hid (∀ t ∈ ts ++ [S], t.size ≤ 8192) := fun t ht => by
            rcases List.mem_append.1 ht with e | e
            · exact HZ.out t e
            · rw [List.mem_singleton.1 e]; exact HS.out
          clear hown' hgrow hown h0
          go_wp2
          go_roundw
          case rel => exact ⟨k + 1, ts ++ [S], L, by go_num, by omega, by simp; omega, fun e => by simp at e, R5, R1, R3, R2, R4⟩
          case measure => simp [intOf]; omega
        · have hor : k = lists.length ∨ ∃ h : k < lists.length, lists[k] = ⟨#[]⟩ := by
            by_cases h : k < lists.length
            · exact .inr ⟨h, Classical.byContradiction fun e => hT ⟨h, e⟩⟩
            · exact .inl (by omega)
          clear hT
          rcases hor with rfl | ⟨hlt, hemp⟩
          · have hnl : ¬ ((lists.length : Int) < (lists.length : Int)) := by omega
            have HSx : Hid (StrsIn wr (.slice av ts.length cv) ts) := by
              have h1 : wr.ownsRow A4.heap.size 9 1 (.slice av ts.length cv) (ts.map fun t => t.data.toList).length ((ts.map fun t => t.data.toList).map strV) := by
                rw [List.length_map, List.map_map]
                exact hown
              have h2 := strs_own h1
              rwa [List.map_map, show ((fun t : List UInt8 => (⟨t.toArray⟩ : ByteArray)) ∘ fun t : ByteArray => t.data.toList) = id from rfl, List.map_id] at h2
            by_cases hm0 : ts.length = 0
            · obtain rfl : ts = [] := List.length_eq_zero_iff.1 hm0
              have e0 := h0 rfl
              cases e0
              have cI := (x_install HX.out hBr.size (.slice none 0 0) [] HSx.out.txts (by simp) HZ.out).mono (fun e w' hp => x_uni HX.out hBr.size hp)
              generalize afterI L (M.installedS L (([] : List ByteArray).map fun t => t.data.toList) (24 * ((n : Int) - 8))) = L5 at cI
              generalize faultI (M.installedS L (([] : List ByteArray).map fun t => t.data.toList) (24 * ((n : Int) - 8))) = f5 at cI
              clear hown h0 HSx hm0
              go_wp2_with fail
              refine cI.mono ?_
              rintro e w5 ⟨rfl, hX5, hO5⟩
              clear cI
              have hB6 : Below w3.heap.size w3 w5 := hBr.trans hO5.low
              have hs5 : A4.heap.size ≤ w5.heap.size := by have := hO5.low.size; omega
              have HX5 : Hid (XAt w5 w3.heap.size x n L5) := hX5
              have cP := x_plan0 hX5
              clear hX5 hO5
              go_wp2_with fail
              refine cP.mono ?_
              rintro e w6 ⟨a6, c6, rfl, hB7⟩
              obtain ⟨A6, hA6⟩ : ∃ A6, A6 = w6.alloc (.cells okC 23) := ⟨_, rfl⟩
              have hBA : Below w6.heap.size w6 A6 := by rw [hA6]; exact (Below.refl _ w6).alloc (Nat.le_refl _) _
              have hg6 : A6.heap[w6.heap.size]? = some (.cells okC 23 (0, 0)) := by rw [hA6]; exact heap_alloc_new w6 _
              have HG : Hid (A6.heap[w6.heap.size]? = some (.cells okC 23 (0, 0))) := hg6
              have HA6 : Hid (A6 = w6.alloc (.cells okC 23)) := hA6
              have hX6 := HX5.out.below (bt hB7 hBA)
              have hB8 : Below w3.heap.size w3 A6 := hB6.trans ((bt hB7 hBA).mono hB6.size)
              have hs6 : A4.heap.size ≤ A6.heap.size := by have := (bt hB7 hBA).size; omega
              have HX6 : Hid (XAt A6 w3.heap.size x n L5) := hX6
              have cF := x_fill hX6
              clear cP hX6 hg6 hBA hB7 hA6 hB6 HX5
              go_wp2_with fail
              rw [← HA6.out]
              refine cF.mono ?_
              rintro e w7 ⟨q, rfl, o1, o2, hB9⟩
              have o3 : (FloatKind.f64.format.order q 4607182418800017408 == some Ordering.gt) = false := beq_eq_false_iff_ne.2 o1
              have o4 : (FloatKind.f64.format.order q 0 == some Ordering.lt) = false := beq_eq_false_iff_ne.2 o2
              obtain ⟨z0, z1, z2, z3, zf⟩ := okC_cell ((hB9.block _ (Array.getElem?_eq_some_iff.1 HG.out).1).trans HG.out)
              have hX7 := HX6.out.below hB9
              have hB10 : Below w3.heap.size w3 w7 := hB8.trans (hB9.mono hB8.size)
              have hs7 : A4.heap.size ≤ w7.heap.size := by have := hB9.size; omega
              have HX7 : Hid (XAt w7 w3.heap.size x n L5) := hX7
              have cK := x_packs hX7
              have h600 := hX7.tog.2
              clear cF hX7 hB9 hB8 HG HX6
              go_wp2_with fail
              refine cK.mono ?_
              rintro e w8 ⟨a8, c8, rfl, hs8, hB11⟩
              have HS8 : Hid (StrsIn w8 (.slice a8 L5.length c8) (txsB L5)) := hs8
              have hs8' : A4.heap.size ≤ w8.heap.size := by have := hB11.size; omega
              have HX8 : Hid (XAt w8 w3.heap.size x n L5) := HX7.out.below hB11
              have hB12 : Below w3.heap.size w3 w8 := hB10.trans (hB11.mono hB10.size)
              clear cK hs8 hB11 HX7 z0 z1 z2 z3 zf o1 o2 o3 o4
              go_wp2
              go_loopw [15, 16, 17] (fun b i _ wr => ∃ m : Nat, b = .bool true ∧ i = .int .i64 m ∧ m ≤ L5.length ∧ Below w8.heap.size w8 wr) (fun _ i _ _ => L5.length - (intOf i).toNat)
              case atStart => exact ⟨0, rfl, rfl, Nat.zero_le _, Below.refl _ _⟩
              case round =>
                obtain ⟨m, rfl, rfl, hm, hBq⟩ := hrel
                by_cases hml : m < L5.length
                · obtain ⟨g2, rfl, hg2, hcap2, hc2⟩ := HS8.out.cellAt (by rw [txsB_len]; omega)
                  have hmt : m < (txsB L5).length := by rw [txsB_len]; exact hml
                  have c0 : wr.cell? ⟨g2, m, none⟩ = some (.string (txsB L5)[m]) := (hBq.cell (p := ⟨g2, m, none⟩) hg2).trans (hc2 m _ (by simp [hmt]))
                  have cO := x_owned (HX8.out.below hBq) _ (List.getElem_mem hmt)
                  generalize (txsB L5)[m] = T at c0 cO
                  clear hc2 hmt
                  go_wp2_with fail
                  refine cO.mono ?_
                  rintro e w9 ⟨rfl, hB13⟩
                  have hB14 := bt hBq hB13
                  clear cO hB13
                  go_wp2
                  go_roundw
                  case rel => exact ⟨m + 1, rfl, by go_num, by omega, hB14⟩
                  case measure => simp [intOf]; omega
                · have hB15 : Below w3.heap.size w3 wr := hB12.trans (hBq.mono hB12.size)
                  have HX9 : Hid (XAt wr w3.heap.size x n L5) := HX8.out.below hBq
                  go_wp2
                  go_roundw
                  case rel => exact ⟨lists.length + 1, [], L5, by go_num, by omega, by simp, fun _ => rfl, (fun t ht => by cases ht), World.ownsRow_nil _ _ _ _, HX9, hB15, by have := hBq.size; omega⟩
                  case measure => simp [intOf]
            · obtain ⟨t0, tr, hts⟩ := List.exists_cons_of_length_pos (show 0 < ts.length by omega)
              have hpos : (0 : Int) < (ts.length : Int) := by omega
              obtain ⟨g1, rfl, hg1, hcap1, hc1⟩ := HSx.out.cellAt (by omega)
              have q0 : wr.cell? ⟨g1, 0, none⟩ = some (.string t0) := hc1 0 _ (by rw [hts]; rfl)
              have HTt : Hid (ts = t0 :: tr) := hts
              clear hc1 hts
              by_cases hd : t0 = ⟨#[45]⟩
              · have hq : (t0.toList == [45]) = true := by rw [hd, Lib.toList_data]; rfl
                have h5 : TxtsIn wr (.slice (some ⟨g1, 0, none⟩) ts.length cv) (t0 :: tr) := by
                  have := HSx.out.txts
                  rw [HTt.out] at this ⊢
                  exact this
                obtain ⟨rv, hrun, htr⟩ := txts_tail h5
                have cI := (x_remove HX.out hBr.size rv tr htr (by have := congrArg List.length HTt.out; simp at this; omega) (fun t ht => HZ.out t (by rw [HTt.out]; exact List.mem_cons_of_mem _ ht))).mono (fun e w' hp => x_uni HX.out hBr.size hp)
                generalize afterI L (M.removedS L (tr.map fun t => t.data.toList)) = L5 at cI
                generalize faultI (M.removedS L (tr.map fun t => t.data.toList)) = f5 at cI
                clear hown h0 HSx hm0 hd h5 htr
                go_wp2_with fail
                refine cI.mono ?_
                rintro e w5 ⟨rfl, hX5, hO5⟩
                clear cI
                have hB6 : Below w3.heap.size w3 w5 := hBr.trans hO5.low
                have hs5 : A4.heap.size ≤ w5.heap.size := by have := hO5.low.size; omega
                have HX5 : Hid (XAt w5 w3.heap.size x n L5) := hX5
                have cP := x_plan0 hX5
                clear hX5 hO5
                go_wp2_with fail
                refine cP.mono ?_
                rintro e w6 ⟨a6, c6, rfl, hB7⟩
                obtain ⟨A6, hA6⟩ : ∃ A6, A6 = w6.alloc (.cells okC 23) := ⟨_, rfl⟩
                have hBA : Below w6.heap.size w6 A6 := by rw [hA6]; exact (Below.refl _ w6).alloc (Nat.le_refl _) _
                have hg6 : A6.heap[w6.heap.size]? = some (.cells okC 23 (0, 0)) := by rw [hA6]; exact heap_alloc_new w6 _
                have HG : Hid (A6.heap[w6.heap.size]? = some (.cells okC 23 (0, 0))) := hg6
                have HA6 : Hid (A6 = w6.alloc (.cells okC 23)) := hA6
                have hX6 := HX5.out.below (bt hB7 hBA)
                have hB8 : Below w3.heap.size w3 A6 := hB6.trans ((bt hB7 hBA).mono hB6.size)
                have hs6 : A4.heap.size ≤ A6.heap.size := by have := (bt hB7 hBA).size; omega
                have HX6 : Hid (XAt A6 w3.heap.size x n L5) := hX6
                have cF := x_fill hX6
                clear cP hX6 hg6 hBA hB7 hA6 hB6 HX5
                go_wp2_with fail
                rw [← HA6.out]
                refine cF.mono ?_
                rintro e w7 ⟨q, rfl, o1, o2, hB9⟩
                have o3 : (FloatKind.f64.format.order q 4607182418800017408 == some Ordering.gt) = false := beq_eq_false_iff_ne.2 o1
                have o4 : (FloatKind.f64.format.order q 0 == some Ordering.lt) = false := beq_eq_false_iff_ne.2 o2
                obtain ⟨z0, z1, z2, z3, zf⟩ := okC_cell ((hB9.block _ (Array.getElem?_eq_some_iff.1 HG.out).1).trans HG.out)
                have hX7 := HX6.out.below hB9
                have hB10 : Below w3.heap.size w3 w7 := hB8.trans (hB9.mono hB8.size)
                have hs7 : A4.heap.size ≤ w7.heap.size := by have := hB9.size; omega
                have HX7 : Hid (XAt w7 w3.heap.size x n L5) := hX7
                have cK := x_packs hX7
                have h600 := hX7.tog.2
                clear cF hX7 hB9 hB8 HG HX6
                go_wp2_with fail
                refine cK.mono ?_
                rintro e w8 ⟨a8, c8, rfl, hs8, hB11⟩
                have HS8 : Hid (StrsIn w8 (.slice a8 L5.length c8) (txsB L5)) := hs8
                have hs8' : A4.heap.size ≤ w8.heap.size := by have := hB11.size; omega
                have HX8 : Hid (XAt w8 w3.heap.size x n L5) := HX7.out.below hB11
                have hB12 : Below w3.heap.size w3 w8 := hB10.trans (hB11.mono hB10.size)
                clear cK hs8 hB11 HX7 z0 z1 z2 z3 zf o1 o2 o3 o4
                go_wp2
                go_loopw [15, 16, 17] (fun b i _ wr => ∃ m : Nat, b = .bool true ∧ i = .int .i64 m ∧ m ≤ L5.length ∧ Below w8.heap.size w8 wr) (fun _ i _ _ => L5.length - (intOf i).toNat)
                case atStart => exact ⟨0, rfl, rfl, Nat.zero_le _, Below.refl _ _⟩
                case round =>
                  obtain ⟨m, rfl, rfl, hm, hBq⟩ := hrel
                  by_cases hml : m < L5.length
                  · obtain ⟨g2, rfl, hg2, hcap2, hc2⟩ := HS8.out.cellAt (by rw [txsB_len]; omega)
                    have hmt : m < (txsB L5).length := by rw [txsB_len]; exact hml
                    have c0 : wr.cell? ⟨g2, m, none⟩ = some (.string (txsB L5)[m]) := (hBq.cell (p := ⟨g2, m, none⟩) hg2).trans (hc2 m _ (by simp [hmt]))
                    have cO := x_owned (HX8.out.below hBq) _ (List.getElem_mem hmt)
                    generalize (txsB L5)[m] = T at c0 cO
                    clear hc2 hmt
                    go_wp2_with fail
                    refine cO.mono ?_
                    rintro e w9 ⟨rfl, hB13⟩
                    have hB14 := bt hBq hB13
                    clear cO hB13
                    go_wp2
                    go_roundw
                    case rel => exact ⟨m + 1, rfl, by go_num, by omega, hB14⟩
                    case measure => simp [intOf]; omega
                  · have hB15 : Below w3.heap.size w3 wr := hB12.trans (hBq.mono hB12.size)
                    have HX9 : Hid (XAt wr w3.heap.size x n L5) := HX8.out.below hBq
                    go_wp2
                    go_roundw
                    case rel => exact ⟨lists.length + 1, [], L5, by go_num, by omega, by simp, fun _ => rfl, (fun t ht => by cases ht), World.ownsRow_nil _ _ _ _, HX9, hB15, by have := hBq.size; omega⟩
                    case measure => simp [intOf]
              · have hq : (t0.toList == [45]) = false := by
                  rw [← show (⟨#[45]⟩ : ByteArray).toList = [45] from by rw [Lib.toList_data]]
                  exact ba_ne hd
                have cI := (x_install HX.out hBr.size (.slice (some ⟨g1, 0, none⟩) ts.length cv) ts HSx.out.txts (by omega) HZ.out).mono (fun e w' hp => x_uni HX.out hBr.size hp)
                generalize afterI L (M.installedS L (ts.map fun t => t.data.toList) (24 * ((n : Int) - 8))) = L5 at cI
                generalize faultI (M.installedS L (ts.map fun t => t.data.toList) (24 * ((n : Int) - 8))) = f5 at cI
                clear hown h0 HSx hm0 hd
                go_wp2_with fail
                refine cI.mono ?_
                rintro e w5 ⟨rfl, hX5, hO5⟩
                clear cI
                have hB6 : Below w3.heap.size w3 w5 := hBr.trans hO5.low
                have hs5 : A4.heap.size ≤ w5.heap.size := by have := hO5.low.size; omega
                have HX5 : Hid (XAt w5 w3.heap.size x n L5) := hX5
                have cP := x_plan0 hX5
                clear hX5 hO5
                go_wp2_with fail
                refine cP.mono ?_
                rintro e w6 ⟨a6, c6, rfl, hB7⟩
                obtain ⟨A6, hA6⟩ : ∃ A6, A6 = w6.alloc (.cells okC 23) := ⟨_, rfl⟩
                have hBA : Below w6.heap.size w6 A6 := by rw [hA6]; exact (Below.refl _ w6).alloc (Nat.le_refl _) _
                have hg6 : A6.heap[w6.heap.size]? = some (.cells okC 23 (0, 0)) := by rw [hA6]; exact heap_alloc_new w6 _
                have HG : Hid (A6.heap[w6.heap.size]? = some (.cells okC 23 (0, 0))) := hg6
                have HA6 : Hid (A6 = w6.alloc (.cells okC 23)) := hA6
                have hX6 := HX5.out.below (bt hB7 hBA)
                have hB8 : Below w3.heap.size w3 A6 := hB6.trans ((bt hB7 hBA).mono hB6.size)
                have hs6 : A4.heap.size ≤ A6.heap.size := by have := (bt hB7 hBA).size; omega
                have HX6 : Hid (XAt A6 w3.heap.size x n L5) := hX6
                have cF := x_fill hX6
                clear cP hX6 hg6 hBA hB7 hA6 hB6 HX5
                go_wp2_with fail
                rw [← HA6.out]
                refine cF.mono ?_
                rintro e w7 ⟨q, rfl, o1, o2, hB9⟩
                have o3 : (FloatKind.f64.format.order q 4607182418800017408 == some Ordering.gt) = false := beq_eq_false_iff_ne.2 o1
                have o4 : (FloatKind.f64.format.order q 0 == some Ordering.lt) = false := beq_eq_false_iff_ne.2 o2
                obtain ⟨z0, z1, z2, z3, zf⟩ := okC_cell ((hB9.block _ (Array.getElem?_eq_some_iff.1 HG.out).1).trans HG.out)
                have hX7 := HX6.out.below hB9
                have hB10 : Below w3.heap.size w3 w7 := hB8.trans (hB9.mono hB8.size)
                have hs7 : A4.heap.size ≤ w7.heap.size := by have := hB9.size; omega
                have HX7 : Hid (XAt w7 w3.heap.size x n L5) := hX7
                have cK := x_packs hX7
                have h600 := hX7.tog.2
                clear cF hX7 hB9 hB8 HG HX6
                go_wp2_with fail
                refine cK.mono ?_
                rintro e w8 ⟨a8, c8, rfl, hs8, hB11⟩
                have HS8 : Hid (StrsIn w8 (.slice a8 L5.length c8) (txsB L5)) := hs8
                have hs8' : A4.heap.size ≤ w8.heap.size := by have := hB11.size; omega
                have HX8 : Hid (XAt w8 w3.heap.size x n L5) := HX7.out.below hB11
                have hB12 : Below w3.heap.size w3 w8 := hB10.trans (hB11.mono hB10.size)
                clear cK hs8 hB11 HX7 z0 z1 z2 z3 zf o1 o2 o3 o4
                go_wp2
                go_loopw [15, 16, 17] (fun b i _ wr => ∃ m : Nat, b = .bool true ∧ i = .int .i64 m ∧ m ≤ L5.length ∧ Below w8.heap.size w8 wr) (fun _ i _ _ => L5.length - (intOf i).toNat)
                case atStart => exact ⟨0, rfl, rfl, Nat.zero_le _, Below.refl _ _⟩
                case round =>
                  obtain ⟨m, rfl, rfl, hm, hBq⟩ := hrel
                  by_cases hml : m < L5.length
                  · obtain ⟨g2, rfl, hg2, hcap2, hc2⟩ := HS8.out.cellAt (by rw [txsB_len]; omega)
                    have hmt : m < (txsB L5).length := by rw [txsB_len]; exact hml
                    have c0 : wr.cell? ⟨g2, m, none⟩ = some (.string (txsB L5)[m]) := (hBq.cell (p := ⟨g2, m, none⟩) hg2).trans (hc2 m _ (by simp [hmt]))
                    have cO := x_owned (HX8.out.below hBq) _ (List.getElem_mem hmt)
                    generalize (txsB L5)[m] = T at c0 cO
                    clear hc2 hmt
                    go_wp2_with fail
                    refine cO.mono ?_
                    rintro e w9 ⟨rfl, hB13⟩
                    have hB14 := bt hBq hB13
                    clear cO hB13
                    go_wp2
                    go_roundw
                    case rel => exact ⟨m + 1, rfl, by go_num, by omega, hB14⟩
                    case measure => simp [intOf]; omega
                  · have hB15 : Below w3.heap.size w3 wr := hB12.trans (hBq.mono hB12.size)
                    have HX9 : Hid (XAt wr w3.heap.size x n L5) := HX8.out.below hBq
                    go_wp2
                    go_roundw
                    case rel => exact ⟨lists.length + 1, [], L5, by go_num, by omega, by simp, fun _ => rfl, (fun t ht => by cases ht), World.ownsRow_nil _ _ _ _, HX9, hB15, by have := hBq.size; omega⟩
                    case measure => simp [intOf]
          · obtain ⟨g, off, eat, hg, hcap, hc⟩ := (HLow.out _ hBr).1.cellAt (by omega)
            subst eat
            have p0 : wr.cell? ⟨g, off + k, none⟩ = some (.string ⟨#[]⟩) := by rw [hc k hlt, hemp]
            have he : ((⟨#[]⟩ : ByteArray).toList == []) = true := by rw [Lib.toList_data]; rfl
            clear hc hemp
            have HSx : Hid (StrsIn wr (.slice av ts.length cv) ts) := by
              have h1 : wr.ownsRow A4.heap.size 9 1 (.slice av ts.length cv) (ts.map fun t => t.data.toList).length ((ts.map fun t => t.data.toList).map strV) := by
                rw [List.length_map, List.map_map]
                exact hown
              have h2 := strs_own h1
              rwa [List.map_map, show ((fun t : List UInt8 => (⟨t.toArray⟩ : ByteArray)) ∘ fun t : ByteArray => t.data.toList) = id from rfl, List.map_id] at h2
            by_cases hm0 : ts.length = 0
            · obtain rfl : ts = [] := List.length_eq_zero_iff.1 hm0
              have e0 := h0 rfl
              cases e0
              have cI := (x_install HX.out hBr.size (.slice none 0 0) [] HSx.out.txts (by simp) HZ.out).mono (fun e w' hp => x_uni HX.out hBr.size hp)
              generalize afterI L (M.installedS L (([] : List ByteArray).map fun t => t.data.toList) (24 * ((n : Int) - 8))) = L5 at cI
              generalize faultI (M.installedS L (([] : List ByteArray).map fun t => t.data.toList) (24 * ((n : Int) - 8))) = f5 at cI
              clear hown h0 HSx hm0
              go_wp2_with fail
              refine cI.mono ?_
              rintro e w5 ⟨rfl, hX5, hO5⟩
              clear cI
              have hB6 : Below w3.heap.size w3 w5 := hBr.trans hO5.low
              have hs5 : A4.heap.size ≤ w5.heap.size := by have := hO5.low.size; omega
              have HX5 : Hid (XAt w5 w3.heap.size x n L5) := hX5
              have cP := x_plan0 hX5
              clear hX5 hO5
              go_wp2_with fail
              refine cP.mono ?_
              rintro e w6 ⟨a6, c6, rfl, hB7⟩
              obtain ⟨A6, hA6⟩ : ∃ A6, A6 = w6.alloc (.cells okC 23) := ⟨_, rfl⟩
              have hBA : Below w6.heap.size w6 A6 := by rw [hA6]; exact (Below.refl _ w6).alloc (Nat.le_refl _) _
              have hg6 : A6.heap[w6.heap.size]? = some (.cells okC 23 (0, 0)) := by rw [hA6]; exact heap_alloc_new w6 _
              have HG : Hid (A6.heap[w6.heap.size]? = some (.cells okC 23 (0, 0))) := hg6
              have HA6 : Hid (A6 = w6.alloc (.cells okC 23)) := hA6
              have hX6 := HX5.out.below (bt hB7 hBA)
              have hB8 : Below w3.heap.size w3 A6 := hB6.trans ((bt hB7 hBA).mono hB6.size)
              have hs6 : A4.heap.size ≤ A6.heap.size := by have := (bt hB7 hBA).size; omega
              have HX6 : Hid (XAt A6 w3.heap.size x n L5) := hX6
              have cF := x_fill hX6
              clear cP hX6 hg6 hBA hB7 hA6 hB6 HX5
              go_wp2_with fail
              rw [← HA6.out]
              refine cF.mono ?_
              rintro e w7 ⟨q, rfl, o1, o2, hB9⟩
              have o3 : (FloatKind.f64.format.order q 4607182418800017408 == some Ordering.gt) = false := beq_eq_false_iff_ne.2 o1
              have o4 : (FloatKind.f64.format.order q 0 == some Ordering.lt) = false := beq_eq_false_iff_ne.2 o2
              obtain ⟨z0, z1, z2, z3, zf⟩ := okC_cell ((hB9.block _ (Array.getElem?_eq_some_iff.1 HG.out).1).trans HG.out)
              have hX7 := HX6.out.below hB9
              have hB10 : Below w3.heap.size w3 w7 := hB8.trans (hB9.mono hB8.size)
              have hs7 : A4.heap.size ≤ w7.heap.size := by have := hB9.size; omega
              have HX7 : Hid (XAt w7 w3.heap.size x n L5) := hX7
              have cK := x_packs hX7
              have h600 := hX7.tog.2
              clear cF hX7 hB9 hB8 HG HX6
              go_wp2_with fail
              refine cK.mono ?_
              rintro e w8 ⟨a8, c8, rfl, hs8, hB11⟩
              have HS8 : Hid (StrsIn w8 (.slice a8 L5.length c8) (txsB L5)) := hs8
              have hs8' : A4.heap.size ≤ w8.heap.size := by have := hB11.size; omega
              have HX8 : Hid (XAt w8 w3.heap.size x n L5) := HX7.out.below hB11
              have hB12 : Below w3.heap.size w3 w8 := hB10.trans (hB11.mono hB10.size)
              clear cK hs8 hB11 HX7 z0 z1 z2 z3 zf o1 o2 o3 o4
              go_wp2
              go_loopw [15, 16, 17] (fun b i _ wr => ∃ m : Nat, b = .bool true ∧ i = .int .i64 m ∧ m ≤ L5.length ∧ Below w8.heap.size w8 wr) (fun _ i _ _ => L5.length - (intOf i).toNat)
              case atStart => exact ⟨0, rfl, rfl, Nat.zero_le _, Below.refl _ _⟩
              case round =>
                obtain ⟨m, rfl, rfl, hm, hBq⟩ := hrel
                by_cases hml : m < L5.length
                · obtain ⟨g2, rfl, hg2, hcap2, hc2⟩ := HS8.out.cellAt (by rw [txsB_len]; omega)
                  have hmt : m < (txsB L5).length := by rw [txsB_len]; exact hml
                  have c0 : wr.cell? ⟨g2, m, none⟩ = some (.string (txsB L5)[m]) := (hBq.cell (p := ⟨g2, m, none⟩) hg2).trans (hc2 m _ (by simp [hmt]))
                  have cO := x_owned (HX8.out.below hBq) _ (List.getElem_mem hmt)
                  generalize (txsB L5)[m] = T at c0 cO
                  clear hc2 hmt
                  go_wp2_with fail
                  refine cO.mono ?_
                  rintro e w9 ⟨rfl, hB13⟩
                  have hB14 := bt hBq hB13
                  clear cO hB13
                  go_wp2
                  go_roundw
                  case rel => exact ⟨m + 1, rfl, by go_num, by omega, hB14⟩
                  case measure => simp [intOf]; omega
                · have hB15 : Below w3.heap.size w3 wr := hB12.trans (hBq.mono hB12.size)
                  have HX9 : Hid (XAt wr w3.heap.size x n L5) := HX8.out.below hBq
                  go_wp2
                  go_roundw
                  case rel => exact ⟨k + 1, [], L5, by go_num, by omega, by simp, fun _ => rfl, (fun t ht => by cases ht), World.ownsRow_nil _ _ _ _, HX9, hB15, by have := hBq.size; omega⟩
                  case measure => simp [intOf]; omega
            · obtain ⟨t0, tr, hts⟩ := List.exists_cons_of_length_pos (show 0 < ts.length by omega)
              have hpos : (0 : Int) < (ts.length : Int) := by omega
              obtain ⟨g1, rfl, hg1, hcap1, hc1⟩ := HSx.out.cellAt (by omega)
              have q0 : wr.cell? ⟨g1, 0, none⟩ = some (.string t0) := hc1 0 _ (by rw [hts]; rfl)
              have HTt : Hid (ts = t0 :: tr) := hts
              clear hc1 hts
              by_cases hd : t0 = ⟨#[45]⟩
              · have hq : (t0.toList == [45]) = true := by rw [hd, Lib.toList_data]; rfl
                have h5 : TxtsIn wr (.slice (some ⟨g1, 0, none⟩) ts.length cv) (t0 :: tr) := by
                  have := HSx.out.txts
                  rw [HTt.out] at this ⊢
                  exact this
                obtain ⟨rv, hrun, htr⟩ := txts_tail h5
                have cI := (x_remove HX.out hBr.size rv tr htr (by have := congrArg List.length HTt.out; simp at this; omega) (fun t ht => HZ.out t (by rw [HTt.out]; exact List.mem_cons_of_mem _ ht))).mono (fun e w' hp => x_uni HX.out hBr.size hp)
                generalize afterI L (M.removedS L (tr.map fun t => t.data.toList)) = L5 at cI
                generalize faultI (M.removedS L (tr.map fun t => t.data.toList)) = f5 at cI
                clear hown h0 HSx hm0 hd h5 htr
                go_wp2_with fail
                refine cI.mono ?_
                rintro e w5 ⟨rfl, hX5, hO5⟩
                clear cI
                have hB6 : Below w3.heap.size w3 w5 := hBr.trans hO5.low
                have hs5 : A4.heap.size ≤ w5.heap.size := by have := hO5.low.size; omega
                have HX5 : Hid (XAt w5 w3.heap.size x n L5) := hX5
                have cP := x_plan0 hX5
                clear hX5 hO5
                go_wp2_with fail
                refine cP.mono ?_
                rintro e w6 ⟨a6, c6, rfl, hB7⟩
                obtain ⟨A6, hA6⟩ : ∃ A6, A6 = w6.alloc (.cells okC 23) := ⟨_, rfl⟩
                have hBA : Below w6.heap.size w6 A6 := by rw [hA6]; exact (Below.refl _ w6).alloc (Nat.le_refl _) _
                have hg6 : A6.heap[w6.heap.size]? = some (.cells okC 23 (0, 0)) := by rw [hA6]; exact heap_alloc_new w6 _
                have HG : Hid (A6.heap[w6.heap.size]? = some (.cells okC 23 (0, 0))) := hg6
                have HA6 : Hid (A6 = w6.alloc (.cells okC 23)) := hA6
                have hX6 := HX5.out.below (bt hB7 hBA)
                have hB8 : Below w3.heap.size w3 A6 := hB6.trans ((bt hB7 hBA).mono hB6.size)
                have hs6 : A4.heap.size ≤ A6.heap.size := by have := (bt hB7 hBA).size; omega
                have HX6 : Hid (XAt A6 w3.heap.size x n L5) := hX6
                have cF := x_fill hX6
                clear cP hX6 hg6 hBA hB7 hA6 hB6 HX5
                go_wp2_with fail
                rw [← HA6.out]
                refine cF.mono ?_
                rintro e w7 ⟨q, rfl, o1, o2, hB9⟩
                have o3 : (FloatKind.f64.format.order q 4607182418800017408 == some Ordering.gt) = false := beq_eq_false_iff_ne.2 o1
                have o4 : (FloatKind.f64.format.order q 0 == some Ordering.lt) = false := beq_eq_false_iff_ne.2 o2
                obtain ⟨z0, z1, z2, z3, zf⟩ := okC_cell ((hB9.block _ (Array.getElem?_eq_some_iff.1 HG.out).1).trans HG.out)
                have hX7 := HX6.out.below hB9
                have hB10 : Below w3.heap.size w3 w7 := hB8.trans (hB9.mono hB8.size)
                have hs7 : A4.heap.size ≤ w7.heap.size := by have := hB9.size; omega
                have HX7 : Hid (XAt w7 w3.heap.size x n L5) := hX7
                have cK := x_packs hX7
                have h600 := hX7.tog.2
                clear cF hX7 hB9 hB8 HG HX6
                go_wp2_with fail
                refine cK.mono ?_
                rintro e w8 ⟨a8, c8, rfl, hs8, hB11⟩
                have HS8 : Hid (StrsIn w8 (.slice a8 L5.length c8) (txsB L5)) := hs8
                have hs8' : A4.heap.size ≤ w8.heap.size := by have := hB11.size; omega
                have HX8 : Hid (XAt w8 w3.heap.size x n L5) := HX7.out.below hB11
                have hB12 : Below w3.heap.size w3 w8 := hB10.trans (hB11.mono hB10.size)
                clear cK hs8 hB11 HX7 z0 z1 z2 z3 zf o1 o2 o3 o4
                go_wp2
                go_loopw [15, 16, 17] (fun b i _ wr => ∃ m : Nat, b = .bool true ∧ i = .int .i64 m ∧ m ≤ L5.length ∧ Below w8.heap.size w8 wr) (fun _ i _ _ => L5.length - (intOf i).toNat)
                case atStart => exact ⟨0, rfl, rfl, Nat.zero_le _, Below.refl _ _⟩
                case round =>
                  obtain ⟨m, rfl, rfl, hm, hBq⟩ := hrel
                  by_cases hml : m < L5.length
                  · obtain ⟨g2, rfl, hg2, hcap2, hc2⟩ := HS8.out.cellAt (by rw [txsB_len]; omega)
                    have hmt : m < (txsB L5).length := by rw [txsB_len]; exact hml
                    have c0 : wr.cell? ⟨g2, m, none⟩ = some (.string (txsB L5)[m]) := (hBq.cell (p := ⟨g2, m, none⟩) hg2).trans (hc2 m _ (by simp [hmt]))
                    have cO := x_owned (HX8.out.below hBq) _ (List.getElem_mem hmt)
                    generalize (txsB L5)[m] = T at c0 cO
                    clear hc2 hmt
                    go_wp2_with fail
                    refine cO.mono ?_
                    rintro e w9 ⟨rfl, hB13⟩
                    have hB14 := bt hBq hB13
                    clear cO hB13
                    go_wp2
                    go_roundw
                    case rel => exact ⟨m + 1, rfl, by go_num, by omega, hB14⟩
                    case measure => simp [intOf]; omega
                  · have hB15 : Below w3.heap.size w3 wr := hB12.trans (hBq.mono hB12.size)
                    have HX9 : Hid (XAt wr w3.heap.size x n L5) := HX8.out.below hBq
                    go_wp2
                    go_roundw
                    case rel => exact ⟨k + 1, [], L5, by go_num, by omega, by simp, fun _ => rfl, (fun t ht => by cases ht), World.ownsRow_nil _ _ _ _, HX9, hB15, by have := hBq.size; omega⟩
                    case measure => simp [intOf]; omega
              · have hq : (t0.toList == [45]) = false := by
                  rw [← show (⟨#[45]⟩ : ByteArray).toList = [45] from by rw [Lib.toList_data]]
                  exact ba_ne hd
                have cI := (x_install HX.out hBr.size (.slice (some ⟨g1, 0, none⟩) ts.length cv) ts HSx.out.txts (by omega) HZ.out).mono (fun e w' hp => x_uni HX.out hBr.size hp)
                generalize afterI L (M.installedS L (ts.map fun t => t.data.toList) (24 * ((n : Int) - 8))) = L5 at cI
                generalize faultI (M.installedS L (ts.map fun t => t.data.toList) (24 * ((n : Int) - 8))) = f5 at cI
                clear hown h0 HSx hm0 hd
                go_wp2_with fail
                refine cI.mono ?_
                rintro e w5 ⟨rfl, hX5, hO5⟩
                clear cI
                have hB6 : Below w3.heap.size w3 w5 := hBr.trans hO5.low
                have hs5 : A4.heap.size ≤ w5.heap.size := by have := hO5.low.size; omega
                have HX5 : Hid (XAt w5 w3.heap.size x n L5) := hX5
                have cP := x_plan0 hX5
                clear hX5 hO5
                go_wp2_with fail
                refine cP.mono ?_
                rintro e w6 ⟨a6, c6, rfl, hB7⟩
                obtain ⟨A6, hA6⟩ : ∃ A6, A6 = w6.alloc (.cells okC 23) := ⟨_, rfl⟩
                have hBA : Below w6.heap.size w6 A6 := by rw [hA6]; exact (Below.refl _ w6).alloc (Nat.le_refl _) _
                have hg6 : A6.heap[w6.heap.size]? = some (.cells okC 23 (0, 0)) := by rw [hA6]; exact heap_alloc_new w6 _
                have HG : Hid (A6.heap[w6.heap.size]? = some (.cells okC 23 (0, 0))) := hg6
                have HA6 : Hid (A6 = w6.alloc (.cells okC 23)) := hA6
                have hX6 := HX5.out.below (bt hB7 hBA)
                have hB8 : Below w3.heap.size w3 A6 := hB6.trans ((bt hB7 hBA).mono hB6.size)
                have hs6 : A4.heap.size ≤ A6.heap.size := by have := (bt hB7 hBA).size; omega
                have HX6 : Hid (XAt A6 w3.heap.size x n L5) := hX6
                have cF := x_fill hX6
                clear cP hX6 hg6 hBA hB7 hA6 hB6 HX5
                go_wp2_with fail
                rw [← HA6.out]
                refine cF.mono ?_
                rintro e w7 ⟨q, rfl, o1, o2, hB9⟩
                have o3 : (FloatKind.f64.format.order q 4607182418800017408 == some Ordering.gt) = false := beq_eq_false_iff_ne.2 o1
                have o4 : (FloatKind.f64.format.order q 0 == some Ordering.lt) = false := beq_eq_false_iff_ne.2 o2
                obtain ⟨z0, z1, z2, z3, zf⟩ := okC_cell ((hB9.block _ (Array.getElem?_eq_some_iff.1 HG.out).1).trans HG.out)
                have hX7 := HX6.out.below hB9
                have hB10 : Below w3.heap.size w3 w7 := hB8.trans (hB9.mono hB8.size)
                have hs7 : A4.heap.size ≤ w7.heap.size := by have := hB9.size; omega
                have HX7 : Hid (XAt w7 w3.heap.size x n L5) := hX7
                have cK := x_packs hX7
                have h600 := hX7.tog.2
                clear cF hX7 hB9 hB8 HG HX6
                go_wp2_with fail
                refine cK.mono ?_
                rintro e w8 ⟨a8, c8, rfl, hs8, hB11⟩
                have HS8 : Hid (StrsIn w8 (.slice a8 L5.length c8) (txsB L5)) := hs8
                have hs8' : A4.heap.size ≤ w8.heap.size := by have := hB11.size; omega
                have HX8 : Hid (XAt w8 w3.heap.size x n L5) := HX7.out.below hB11
                have hB12 : Below w3.heap.size w3 w8 := hB10.trans (hB11.mono hB10.size)
                clear cK hs8 hB11 HX7 z0 z1 z2 z3 zf o1 o2 o3 o4
                go_wp2
                go_loopw [15, 16, 17] (fun b i _ wr => ∃ m : Nat, b = .bool true ∧ i = .int .i64 m ∧ m ≤ L5.length ∧ Below w8.heap.size w8 wr) (fun _ i _ _ => L5.length - (intOf i).toNat)
                case atStart => exact ⟨0, rfl, rfl, Nat.zero_le _, Below.refl _ _⟩
                case round =>
                  obtain ⟨m, rfl, rfl, hm, hBq⟩ := hrel
                  by_cases hml : m < L5.length
                  · obtain ⟨g2, rfl, hg2, hcap2, hc2⟩ := HS8.out.cellAt (by rw [txsB_len]; omega)
                    have hmt : m < (txsB L5).length := by rw [txsB_len]; exact hml
                    have c0 : wr.cell? ⟨g2, m, none⟩ = some (.string (txsB L5)[m]) := (hBq.cell (p := ⟨g2, m, none⟩) hg2).trans (hc2 m _ (by simp [hmt]))
                    have cO := x_owned (HX8.out.below hBq) _ (List.getElem_mem hmt)
                    generalize (txsB L5)[m] = T at c0 cO
                    clear hc2 hmt
                    go_wp2_with fail
                    refine cO.mono ?_
                    rintro e w9 ⟨rfl, hB13⟩
                    have hB14 := bt hBq hB13
                    clear cO hB13
                    go_wp2
                    go_roundw
                    case rel => exact ⟨m + 1, rfl, by go_num, by omega, hB14⟩
                    case measure => simp [intOf]; omega
                  · have hB15 : Below w3.heap.size w3 wr := hB12.trans (hBq.mono hB12.size)
                    have HX9 : Hid (XAt wr w3.heap.size x n L5) := HX8.out.below hBq
                    go_wp2
                    go_roundw
                    case rel => exact ⟨k + 1, [], L5, by go_num, by omega, by simp, fun _ => rfl, (fun t ht => by cases ht), World.ownsRow_nil _ _ _ _, HX9, hB15, by have := hBq.size; omega⟩
                    case measure => simp [intOf]; omega
      · have hnl : ¬ ((k : Int) ≤ (lists.length : Int)) := by omega
        go_wp2
        go_ret
        exact ⟨rfl, (HLow.out _ hBr).2⟩
end Go.Proofs.YtgnfknjopafngaaGreatDoor
namespace Go.Proofs.YtgnfknjopafngaaGreatDoor
namespace SoundProof
theorem fact1 : (Rows.soundRow.inPlace == Tryz.prog.inPlace 8) = true := by kernel_rfl
theorem fact2 : (Rows.soundRow.unfollowed == Tryz.prog.unfollowed 8) = true := by kernel_rfl
theorem fact3 : (Rows.soundRow.recurses == Tryz.prog.recurses 8) = true := by kernel_rfl
theorem fact4 : (Rows.soundRow.named == Tryz.prog.varsNamed 8) = true := by kernel_rfl
theorem closed : joinedFacts Tryz.prog 8 Tryz.f8 Rows.soundSpec Rows.soundRow = true := by
  unfold joinedFacts
  rw [fact1, fact2, fact3, fact4]
  kernel_rfl
end SoundProof
end Go.Proofs.YtgnfknjopafngaaGreatDoor
namespace Go.Proofs.YtgnfknjopafngaaGreatDoor
namespace SoundProof
open Go.ChangeShapes Go.WideShapes Go.ChangeAt Go.RowKit
open LaidKit
set_option maxRecDepth 100000 in
theorem lifted (os : Os) (started : os.Started) (H : Type) (enc : TypeId × Value → H) :
    ReturnsInHanded {} Tryz.checked os 8 .any (fun w args => (Rows.soundSpec.pre enc Tryz.prog Tryz.f8 Rows.soundRow.domain false w args ∧ laidMetH Tryz.prog Rows.soundRow.laid w) ∧ sizedMet enc Tryz.prog Tryz.f8 (OpenSpec.ofChange Rows.soundSpec) false w args)
      (Rows.soundSpec.post enc Tryz.prog Tryz.f8 false true false false) := by
  refine returnsInHanded_of_calls (C := Tryz.checked) own started (by kernel_rfl)
    (ChangeSpec.witness_shaped (enc := enc) (C := Tryz.checked) (os := os) (X := fun w _ => laidMetH Tryz.prog Rows.soundRow.laid w) false ((witH (World.holding Tryz.prog os ⟨#[], #[], []⟩)).layVars Tryz.prog dataL) #[.int .i64 0, .slice none 0 0] 8 (wit_os os)
      (World.shaped_of_ZipB (by kernel_rfl) (by kernel_rfl)) (by kernel_rfl) (by kernel_rfl) (by kernel_rfl) (wit_met os _)) ?_
  intro w0 tape inp _ hsh _ hok hpre _
  obtain ⟨_, _, _, fn', hfn', _, _, _, _, hval0'⟩ := hok
  obtain rfl : fn' = Tryz.f8 := Option.some.inj (hfn'.symm.trans Tryz.func8)
  obtain ⟨⟨⟨ds, gs, before, hw, _⟩, hx⟩, hz⟩ := hpre
  have hW := DataW.Whole.of_heap (w' := w0.forCall tape inp) (by rfl) hw
  have hsz := hz.weights hw
  have hL : laidMetH Tryz.prog L (w0.forCall tape inp) := laidMetH.of_heap (by rfl) hx
  have hI := maxLen_int hsh
  suffices hc : Calls Tryz.prog 8 inp.args (w0.forCall tape inp) fun e W' => ∃ v, e = .returned v ∧ Rows.soundSpec.post enc Tryz.prog Tryz.f8 false true false false (w0.forCall tape inp) inp.args v W' by
    refine hc.mono fun e W' ⟨v, he, hp⟩ => ?_
    subst he
    exact ChangeSpec.post_blind hp
  clear hz hx hw hsh
  revert hval0' hW hsz hL hI
  generalize inp.args = args
  generalize w0.forCall tape inp = W
  intro hval0 hW hsz hL hI
  have hval : ∀ (j : Nat) t v, Tryz.f8.params[j]? = some t → args[j]? = some v → Value.okWide Tryz.prog W .any w0.heap.size t v := hval0
  have hW' := hW
  obtain ⟨p, q, hA0, hV, rfl, _, _⟩ := hW
  have hA : DataW.TrodAll enc Tryz.prog W 0 (fun _ => true) true Tryz.f8.params.toList args.toList ds p := hA0
  rw [Tryz.params8] at hA hval hsz
  obtain ⟨v0, v1, d0, d1, p0, p1, rfl, rfl, rfl, h0, h1⟩ := trodAll_two hA
  obtain ⟨rfl, rfl⟩ := trodVars_none hV
  have h1k := h1
  obtain ⟨n0, rfl, rfl, rfl, hn0⟩ := open_int Tryz.underlying3 (hval 0 3 v0 rfl rfl) h0
  obtain ⟨l1, t1, z1, y1⟩ := open_txts (okWide_slice Tryz.underlying43 (hval 1 43 v1 rfl rfl)) h1 (weights_of hsz (j := 1) rfl rfl)
  have hr := reachBytes_lt
  have hE : Ready W := ⟨laid_err hL, hI⟩
  have hlt : ∀ x ∈ p1, x.block < W.heap.size := fun x hx => hW'.lt x (by simpa using hx)
  refine (sound_law n0 v1 l1 W hE t1 (by omega) (fun t ht => by have := y1 t ht; omega)).mono fun e W' ⟨he, hb'⟩ => ?_
  subst he
  exact ⟨_, rfl, _, _, _, [], _, [], hW', trodAll_mk1 (shut_bool Tryz.underlying4 _), trodAll_mk2 (shut_int Tryz.underlying3 hn0) (Below.trod laidOut (by kernel_rfl) (of_decide_eq_true (by kernel_rfl)) h1k hb' (fun x hx => hlt x hx)), rfl, hb'.frame _, fun h => by cases h⟩
theorem said : Rows.SoundSaid :=
  OpenClaim.holds_of_wide 8 Tryz.f8 rfl rfl rfl rfl rfl rfl rfl ⟨rfl, rfl, rfl, rfl, rfl⟩ rfl rfl rfl rfl rfl (by kernel_rfl) Tryz.func8 closed
    (of_decide_eq_true (by kernel_rfl)) (by unfold Func.isWrapper; first | (rw [if_pos (by decide +kernel)]; kernel_rfl) | (rw [if_neg (by decide +kernel)]; exact ⟨rfl, rfl⟩))
    (fun os started H enc _ => lifted os started H enc)
theorem plain (f : FuncId) (fn : Func) (hf : Tryz.pinned.checked.prog.funcNamed "parcels/parcelskeep.Sound" = some f) (hfn : Tryz.pinned.checked.prog.funcs[f]? = some fn) :
    true = Tryz.pinned.checked.prog.looks [] ∧ ∀ (j : Nat) t, fn.params[j]? = some t → Tryz.pinned.checked.prog.wantsStandIn t = false := by
  obtain rfl : f = 8 := Option.some.inj ((show Tryz.prog.funcNamed "parcels/parcelskeep.Sound" = some 8 by kernel_rfl).symm.trans hf) |>.symm
  obtain rfl : fn = Tryz.f8 := (Option.some.inj (Tryz.func8.symm.trans hfn)).symm
  refine ⟨by kernel_rfl, fun j t ht => ?_⟩
  rw [Tryz.params8] at ht
  have hm : t ∈ [3, 43] := by simpa using Array.mem_of_getElem? ht
  rcases List.mem_cons.1 hm with rfl | hm
  · exact (show Tryz.prog.wantsStandIn 3 = false by kernel_rfl)
  · obtain rfl : t = 43 := by simpa using hm
    exact (show Tryz.prog.wantsStandIn 43 = false by kernel_rfl)
end SoundProof
theorem sound_card : Rows.SoundCardSaid :=
  Claim7.holds_tied_plain_at .later [] _ _ _ _ SoundProof.said (fun _ h => by cases h) (by kernel_rfl) (fun _ h => by cases h) sound_row_tie rfl ⟨rfl, rfl⟩ (by kernel_rfl) rfl SoundProof.plain (by kernel_rfl)
end Go.Proofs.YtgnfknjopafngaaGreatDoor
