import Derived.Test.YtgnfknjopafngaaGreatDoorKkap
import Derived.Test.YtgnfknjopafngaaGreatDoorKkao
import Derived.Test.YtgnfknjopafngaaGreatDoorKkl
import Derived.Deep.Strs
import Derived.SizedLaws
import Derived.Carry
import Derived.Test.YtgnfknjopafngaaGreatDoorKkm
namespace Go.Proofs.YtgnfknjopafngaaGreatDoor
open Go.RowKit Go.Maps
def bytesL (l : List ByteArray) : Nat := (l.map fun t => t.size).sum
theorem bytesL_take {l : List ByteArray} {k : Nat} (hk : k < l.length) : bytesL (l.take (k + 1)) = bytesL (l.take k) + l[k].size := by
  unfold bytesL
  rw [List.take_succ_eq_append_getElem hk, List.map_append, List.sum_append]
  simp
theorem bytesL_le (l : List ByteArray) (k : Nat) : bytesL (l.take k) ≤ bytesL l := by
  have h : bytesL l = bytesL (l.take k) + bytesL (l.drop k) := by
    unfold bytesL
    rw [← List.sum_append, ← List.map_append, List.take_append_drop]
  omega
def smallB (l : List ByteArray) : Bool := decide (l.length + bytesL l ≤ 4096)
set_option maxRecDepth 100000 in
set_option maxHeartbeats 2000000 in
theorem ksmall_any (v : Value) (l : List ByteArray) (w : World) (hv : TxtsIn w v l) (hl : l.length ≤ 1000000000000000000) (hs : ∀ t ∈ l, t.size ≤ 1000000000000000000) :
    Calls Tryz.prog 19 #[v] w fun e w' => e = .returned (.bool (smallB l)) ∧ Below w.heap.size w w' := by
  obtain ⟨a, cap, rfl⟩ := hv.form
  have HV : Hid (TxtsIn w (.slice a l.length cap) l) := hv
  have HS : Hid (∀ t ∈ l, t.size ≤ 1000000000000000000) := hs
  obtain ⟨D, hD⟩ : ∃ D, D = smallB l := ⟨_, rfl⟩
  have HD : Hid (D = smallB l) := hD
  rw [← hD]
  clear hv hs hD
  go_enter Tryz.func19, Tryz.ntmps19
  go_wp2
  go_loopw [3, 4] (fun n i wr => ∃ k : Nat, i = .int .i64 k ∧ k ≤ l.length ∧ ∃ m : Nat, n = .int .i64 m ∧ (0 < k → m ≤ 4096) ∧ m ≤ 1000000000000000000 ∧ Hid (m = l.length + bytesL (l.take k)) ∧ Below w.heap.size w wr) (fun _ i _ => l.length - (intOf i).toNat)
  case atStart => exact ⟨0, rfl, Nat.zero_le _, l.length, rfl, fun h => absurd h (Nat.lt_irrefl _), hl, by show _ = _; simp [bytesL], Below.refl _ _⟩
  case round =>
    obtain ⟨k, rfl, hk, m, rfl, hm4, hm, HM, hBr⟩ := hrel
    by_cases hlt : k < l.length
    · obtain ⟨g, off, rfl, hg, hcap, hc⟩ := HV.out.cellAt (by omega)
      have p3 := (hBr.cell (p := ⟨g, off + k, none⟩) hg).trans (hc k hlt)
      have hsz := HS.out _ (List.getElem_mem hlt)
      have HB : Hid (bytesL (l.take (k + 1)) = bytesL (l.take k) + l[k].size) := bytesL_take hlt
      generalize l[k] = S at p3 hsz HB
      clear hc
      by_cases hb : 4096 < m + S.size
      · have HD2 : Hid (D = false) := by
          show _ = _
          rw [HD.out]
          have h1 := bytesL_le l (k + 1)
          have h2 := HM.out
          have h3 := HB.out
          unfold smallB
          simp
          omega
        go_wp2
        go_ret
        exact ⟨by rw [HD2.out]; rfl, hBr⟩
      · go_wp2
        go_roundw
        case rel => exact ⟨k + 1, by go_num, by omega, m + S.size, by go_num, fun _ => by omega, by omega, by show _ = _; have h1 := HM.out; have h2 := HB.out; omega, hBr⟩
        case measure => simp [intOf]; omega
    · have HE : Hid (D = decide (m ≤ 4096)) := by
        show _ = _
        have h2 := HM.out
        have hkk : k = l.length := by omega
        rw [hkk, List.take_length] at h2
        rw [HD.out, h2]
        rfl
      go_wp2
      go_ret
      exact ⟨ret_bool (by rw [HE.out, decide_eq_decide]; omega), hBr⟩
set_option maxRecDepth 100000 in
set_option maxHeartbeats 2000000 in
theorem ksame_true (av bv : Value) (l : List ByteArray) (w : World) (ha : StrsIn w av l) (hb : StrsIn w bv l) (hn : l.length ≤ 1000000) :
    Calls Tryz.prog 25 #[av, bv] w fun e w' => e = .returned (.bool true) ∧ Below w.heap.size w w' := by
  obtain ⟨aa, ca, ea⟩ := ha.form
  obtain ⟨ab, cb, eb⟩ := hb.form
  subst ea eb
  have HA : Hid (StrsIn w (.slice aa l.length ca) l) := ha
  have HB : Hid (StrsIn w (.slice ab l.length cb) l) := hb
  clear ha hb
  go_enter Tryz.func25, Tryz.ntmps25
  go_wp2
  go_loopw [5] (fun i wr => ∃ k : Nat, i = .int .i64 k ∧ k ≤ l.length ∧ Below w.heap.size w wr) (fun i _ => l.length - (intOf i).toNat)
  case atStart => exact ⟨0, rfl, Nat.zero_le _, Below.refl _ _⟩
  case round =>
    obtain ⟨k, rfl, hk, hBr⟩ := hrel
    by_cases hlt : k < l.length
    · obtain ⟨ga, rfl, hga, hcapa, hca⟩ := HA.out.cellAt (by omega)
      obtain ⟨gb, rfl, hgb, hcapb, hcb⟩ := HB.out.cellAt (by omega)
      have c0 : wr.cell? ⟨ga, k, none⟩ = some (.string l[k]) := (hBr.cell (p := ⟨ga, k, none⟩) hga).trans (hca k _ (by simp [hlt]))
      have c1 : wr.cell? ⟨gb, k, none⟩ = some (.string l[k]) := (hBr.cell (p := ⟨gb, k, none⟩) hgb).trans (hcb k _ (by simp [hlt]))
      generalize l[k] = T at c0 c1
      clear hca hcb
      go_wp2
      go_region
      all_goals
        go_wp2
        go_roundw
        case rel => exact ⟨k + 1, by go_num, by omega, bt hBr (below_same wr 1)⟩
        case measure => simp [intOf]; omega
    · go_wp2
      go_ret
      exact ⟨rfl, hBr⟩
set_option maxRecDepth 100000 in
set_option maxHeartbeats 4000000 in
theorem ksame_any (av bv : Value) (l m : List ByteArray) (w : World) (ha : StrsIn w av l) (hb : StrsIn w bv m) (hn : l.length ≤ 1000000) (hm : m.length ≤ 1000000) :
    Calls Tryz.prog 25 #[av, bv] w fun e w' => e = .returned (.bool (decide (l = m))) ∧ Below w.heap.size w w' := by
  by_cases hlm : l = m
  · subst hlm
    rw [decide_eq_true rfl]
    exact ksame_true av bv l w ha hb hn
  · rw [decide_eq_false hlm]
    obtain ⟨aa, ca, ea⟩ := ha.form
    obtain ⟨ab, cb, eb⟩ := hb.form
    subst ea eb
    have HA : Hid (StrsIn w (.slice aa l.length ca) l) := ha
    have HB : Hid (StrsIn w (.slice ab m.length cb) m) := hb
    have HNe : Hid (l ≠ m) := hlm
    clear ha hb hlm
    by_cases hlen : l.length = m.length
    · have HL : Hid (l.length = m.length) := hlen
      rw [← hlen] at HB hm ⊢
      clear hlen
      go_enter Tryz.func25, Tryz.ntmps25
      go_wp2
      go_loopw [5] (fun i wr => ∃ k : Nat, i = .int .i64 k ∧ k ≤ l.length ∧ Hid (l.take k = m.take k) ∧ Below w.heap.size w wr) (fun i _ => l.length - (intOf i).toNat)
      case atStart => exact ⟨0, rfl, Nat.zero_le _, by show _ = _; simp, Below.refl _ _⟩
      case round =>
        obtain ⟨k, rfl, hk, HT, hBr⟩ := hrel
        by_cases hlt : k < l.length
        · obtain ⟨ga, rfl, hga, hcapa, hca⟩ := HA.out.cellAt (by omega)
          have hkm : k < m.length := by have := HL.out; omega
          obtain ⟨gb, rfl, hgb, hcapb, hcb⟩ := HB.out.cellAt (by omega)
          have c0 : wr.cell? ⟨ga, k, none⟩ = some (.string l[k]) := (hBr.cell (p := ⟨ga, k, none⟩) hga).trans (hca k _ (by simp [hlt]))
          have c1 : wr.cell? ⟨gb, k, none⟩ = some (.string m[k]) := (hBr.cell (p := ⟨gb, k, none⟩) hgb).trans (hcb k _ (by simp [hkm]))
          clear hca hcb
          by_cases he : l[k] = m[k]
          · have HT2 : Hid (l.take (k + 1) = m.take (k + 1)) := by
              show _ = _
              rw [List.take_succ_eq_append_getElem hlt, List.take_succ_eq_append_getElem hkm, HT.out, he]
            rw [← he] at c1
            clear he HT
            generalize l[k] = T at c0 c1
            go_wp2
            go_region
            all_goals
              go_wp2
              go_roundw
              case rel => exact ⟨k + 1, by go_num, by omega, HT2, bt hBr (below_same wr 1)⟩
              case measure => simp [intOf]; omega
          · have hne := ba_ne he
            clear he HT
            generalize l[k] = T at c0 hne
            generalize m[k] = U at c1 hne
            go_wp2
            go_region
            all_goals
              go_wp2
              go_ret
              exact ⟨rfl, bt hBr (below_same wr 1)⟩
        · have hkk : k = l.length := by omega
          have := HT.out
          rw [hkk, List.take_length, HL.out, List.take_length] at this
          exact absurd this HNe.out
    · have hne : ¬ ((l.length : Int) = (m.length : Int)) := by omega
      have hne2 : ((l.length : Int) == (m.length : Int)) = false := by simpa using hne
      clear hlen
      go_enter Tryz.func25, Tryz.ntmps25
      go_wp2
      go_ret
      exact ⟨rfl, Below.refl _ _⟩
end Go.Proofs.YtgnfknjopafngaaGreatDoor
namespace Go.Proofs.YtgnfknjopafngaaGreatDoor
open Go.RowKit Go.Maps
theorem small_sz {l : List ByteArray} (h : smallB l = true) : l.length ≤ 4096 ∧ ∀ t ∈ l, t.size ≤ 4096 := by
  unfold smallB at h
  have h1 : l.length + bytesL l ≤ 4096 := by simpa using h
  refine ⟨by omega, fun t ht => ?_⟩
  have := mem_le_sum (List.mem_map.2 ⟨t, ht, rfl⟩ : t.size ∈ l.map fun t => t.size)
  unfold bytesL at h1
  omega
theorem inst_plan (l : List M.Pk) (ts : List (List UInt8)) (room : Int) (hb : ∀ p ∈ l, M.Back p) (ha : M.Apart l) :
    (∃ f, M.plannedS l ts = .inl f ∧ M.installedS l ts room = .inl f ∧ 1 ≤ f.kind ∧ f.kind ≤ 8) ∨
    (∃ q, M.plannedS l ts = .inr q ∧ q.2.length = ts.length ∧ M.installedS l ts room = .inl ⟨8, 0, 0, []⟩) ∨
    (∃ q, M.plannedS l ts = .inr q ∧ q.2.length = ts.length ∧ M.installedS l ts room = .inr q.1 ∧ q.1.length = l.length + ts.length) := by
  cases hp : M.plannedS l ts with
  | inl f =>
    obtain ⟨k1, k2⟩ := planned_kinds hp
    exact .inl ⟨f, rfl, by unfold M.installedS; rw [hp], k1, k2⟩
  | inr q =>
    obtain ⟨all, names⟩ := q
    obtain ⟨fresh, _, q2, _, _, hl⟩ := M.planned_ok hp hb ha
    by_cases hr : room < M.sizeS all
    · exact .inr (.inl ⟨_, rfl, hl, by unfold M.installedS; rw [hp]; simp [hr]⟩)
    · have hi : M.installedS l ts room = .inr all := by unfold M.installedS; rw [hp]; simp [hr]
      obtain ⟨fr, nm, e1, e2, e3, _, e5, _⟩ := M.installed_ok hi hb ha
      exact .inr (.inr ⟨_, rfl, hl, hi, by show all.length = _; rw [e3, List.length_append, e5]⟩)
theorem XAt.tog {W : World} {B x n : Nat} {l : List M.Pk} (h : XAt W B x n l) : M.Tog l ∧ l.length ≤ 600 := by
  obtain ⟨d, s, k, b, half, hv, sv, lv, D, h1, h2, h3⟩ := h
  exact ⟨h1.tog, h1.size.2⟩
set_option maxRecDepth 100000 in
set_option maxHeartbeats 16000000 in
theorem refused_law (sectors : Int) (fv tv : Value) (first then_ : List ByteArray) (w : World) (hR : Ready w) (hf : TxtsIn w fv first) (ht : TxtsIn w tv then_) (f1 : first.length ≤ 1000000000000000000) (f2 : ∀ t ∈ first, t.size ≤ 1000000000000000000) (t1 : then_.length ≤ 1000000000000000000) (t2 : ∀ t ∈ then_, t.size ≤ 1000000000000000000) :
    Calls Tryz.prog 10 #[.int .i64 sectors, fv, tv] w fun e w' => e = .returned (.bool true) ∧ Below w.heap.size w w' := by
  have cS1 := ksmall_any fv first w hf f1 f2
  have cS2 := fun wx (hb : Below w.heap.size w wx) => ksmall_any tv then_ wx (ht.below hb) t1 t2
  obtain ⟨af, cf, ef⟩ := hf.form
  obtain ⟨at', ct, et⟩ := ht.form
  subst ef et
  have HF : Hid (TxtsIn w (.slice af first.length cf) first) := hf
  have HT : Hid (TxtsIn w (.slice at' then_.length ct) then_) := ht
  have HR : Hid (Ready w) := hR
  clear hf ht hR f1 f2 t1 t2
  cases hs1 : smallB first with
  | false =>
    rw [hs1] at cS1
    go_enter Tryz.func10, Tryz.ntmps10
    go_wp2_with fail
    refine cS1.mono ?_
    rintro e w1 ⟨rfl, hB1⟩
    go_wp2_with fail
    refine (cS2 _ hB1).mono ?_
    rintro e w2 ⟨rfl, hB2⟩
    have hB3 := bt hB1 hB2
    go_wp2
    go_ret
    exact ⟨rfl, hB3⟩
  | true =>
    rw [hs1] at cS1
    cases hs2 : smallB then_ with
    | false =>
      rw [hs2] at cS2
      go_enter Tryz.func10, Tryz.ntmps10
      go_wp2_with fail
      refine cS1.mono ?_
      rintro e w1 ⟨rfl, hB1⟩
      go_wp2_with fail
      refine (cS2 _ hB1).mono ?_
      rintro e w2 ⟨rfl, hB2⟩
      have hB3 := bt hB1 hB2
      go_wp2
      go_ret
      exact ⟨rfl, hB3⟩
    | true =>
      rw [hs2] at cS2
      obtain ⟨u1, u2⟩ := small_sz hs1
      obtain ⟨v1, v2⟩ := small_sz hs2
      have HU : Hid (∀ t ∈ first, t.size ≤ 8192) := fun t h => Nat.le_trans (u2 t h) (by decide)
      have HVz : Hid (∀ t ∈ then_, t.size ≤ 8192) := fun t h => Nat.le_trans (v2 t h) (by decide)
      have cA := fun wx (hb : Below w.heap.size w wx) => anchored_any wx (HR.out.below hb)
      have cN := fun wx (hb : Below w.heap.size w wx) => x_new sectors wx (HR.out.below hb)
      generalize hn : sectorsN sectors = n at cN
      clear hs1 hs2 u2 v2 hn
      go_enter Tryz.func10, Tryz.ntmps10
      go_wp2_with fail
      refine cS1.mono ?_
      rintro e w1 ⟨rfl, hB1⟩
      go_wp2_with fail
      refine (cS2 _ hB1).mono ?_
      rintro e w2 ⟨rfl, hB2⟩
      have hB3 := bt hB1 hB2
      clear cS1 cS2
      go_wp2_with fail
      refine (cA _ hB3).mono ?_
      rintro e w3 ⟨rfl, hB4⟩
      have hB5 := bt hB3 hB4
      clear hB1 hB2 hB3 hB4 cA
      go_wp2_with fail
      refine (cN _ hB5).mono ?_
      rintro e w4 ⟨x, rfl, hX, hB6⟩
      have HX0 : Hid (XAt (w4.alloc (.cells okC 23)) w3.heap.size x n []) := hX.below ((Below.refl _ w4).alloc (Nat.le_refl _) _)
      have hBA : Below w3.heap.size w3 (w4.alloc (.cells okC 23)) := bt hB6 ((Below.refl _ w4).alloc (Nat.le_refl _) _)
      have HLow : Hid (∀ W, Below w3.heap.size w3 W → TxtsIn W (.slice af first.length cf) first ∧ TxtsIn W (.slice at' then_.length ct) then_ ∧ Below w.heap.size w W) := fun W hb => ⟨HF.out.below (bt hB5 hb), HT.out.below (bt hB5 hb), bt hB5 hb⟩
      have cI := (x_install HX0.out hBA.size (.slice af first.length cf) first (HLow.out _ hBA).1 (by omega) HU.out).mono (fun e w' hp => x_uni HX0.out hBA.size hp)
      generalize hl0 : afterI [] (M.installedS [] (first.map fun t => t.data.toList) (24 * ((n : Int) - 8))) = l0 at cI
      generalize faultI (M.installedS [] (first.map fun t => t.data.toList) (24 * ((n : Int) - 8))) = fI at cI
      clear hX cN hl0 hB6
      unfold faV at cI
      generalize (ByteArray.mk fI.name.toArray) = fIn at cI
      go_wp2_with fail
      refine cI.mono ?_
      rintro e w5 ⟨rfl, hX5, hO5⟩
      have hB7 : Below w3.heap.size w3 w5 := hBA.trans hO5.low
      have hs5 : w3.heap.size ≤ w5.heap.size := hB7.size
      have HX5 : Hid (XAt w5 w3.heap.size x n l0) := hX5
      have cP1 := x_packs hX5
      obtain ⟨htog, hl600⟩ := hX5.tog
      clear cI hX5 hO5
      go_wp2_with fail
      refine cP1.mono ?_
      rintro e w6 ⟨a6, c6, rfl, hs6, hB8⟩
      have HX6 : Hid (XAt w6 w3.heap.size x n l0) := HX5.out.below hB8
      have HS6 : Hid (StrsIn w6 (.slice a6 l0.length c6) (txsB l0)) := hs6
      have hB9 : Below w3.heap.size w3 w6 := hB7.trans (hB8.mono hs5)
      clear cP1 hs6
      have cPl := x_plan HX6.out (.slice at' then_.length ct) then_ (HLow.out _ hB9).2.1 (by omega) HVz.out
      have hrel := inst_plan l0 (then_.map fun t => t.data.toList) (24 * ((n : Int) - 8)) htog.back htog.apart
      rw [List.length_map] at hrel
      generalize M.plannedS l0 (then_.map fun t => t.data.toList) = P at cPl hrel
      generalize hI : M.installedS l0 (then_.map fun t => t.data.toList) (24 * ((n : Int) - 8)) = I at hrel
      have HI : Hid (M.installedS l0 (then_.map fun t => t.data.toList) (24 * ((n : Int) - 8)) = I) := hI
      have hq : ((faultP P).kind = 0 → lenP P = then_.length) ∧ (((faultI I).kind = 0 ∧ (faultP P).kind = 0 ∧ (afterI l0 I).length = l0.length + then_.length) ∨ ((faultI I).kind ≠ 0 ∧ afterI l0 I = l0 ∧ (faultP P = faultI I ∨ ((faultP P).kind = 0 ∧ (faultI I).kind = 8)))) := by
        rcases hrel with ⟨f, rfl, rfl, k1, k2⟩ | ⟨q, rfl, e2, rfl⟩ | ⟨q, rfl, e2, rfl, e3⟩
        · refine ⟨fun e => ?_, .inr ⟨?_, rfl, .inl rfl⟩⟩
          · have e : f.kind = 0 := e
            omega
          · show f.kind ≠ 0
            omega
        · exact ⟨fun _ => e2, .inr ⟨by decide, rfl, .inr ⟨rfl, rfl⟩⟩⟩
        · exact ⟨fun _ => e2, .inl ⟨rfl, rfl, e3⟩⟩
      generalize hfp : faultP P = fp at cPl hq
      generalize hm : lenP P = m at cPl hq
      generalize hfg : faultI I = fg at hq
      generalize hl1 : afterI l0 I = l1 at hq
      have cI2 : ∀ wx, Below w6.heap.size w6 wx → Calls Tryz.prog 21 #[.pointer (some ⟨x, 0, none⟩), .slice at' then_.length ct] wx fun e w' => e = .returned (faV fg) ∧ XAt w' w3.heap.size x n l1 ∧ Over w3.heap.size wx w' := fun wx hb => by
        have hXx := HX6.out.below hb
        have hbx := hB9.trans (hb.mono hB9.size)
        have := (x_install hXx hbx.size (.slice at' then_.length ct) then_ (HLow.out _ hbx).2.1 (by omega) HVz.out).mono (fun e w' hp => x_uni hXx hbx.size hp)
        rw [HI.out, hfg, hl1] at this
        exact this
      obtain ⟨pk, pw, pl, pn⟩ := fp
      obtain ⟨gk, gw, gl, gn⟩ := fg
      have hq1 : pk = 0 → m = then_.length := hq.1
      have hq2 : (gk = 0 ∧ pk = 0 ∧ l1.length = l0.length + then_.length) ∨ (gk ≠ 0 ∧ l1 = l0 ∧ ((pk = gk ∧ pw = gw ∧ pl = gl ∧ pn = gn) ∨ (pk = 0 ∧ gk = 8))) := by
        rcases hq.2 with h | ⟨h1, h2, h3⟩
        · exact .inl h
        · refine .inr ⟨h1, h2, ?_⟩
          rcases h3 with h3 | h3
          · cases h3
            exact .inl ⟨rfl, rfl, rfl, rfl⟩
          · exact .inr h3
      have HQ : Hid (pk = 0 → m = then_.length) := hq1
      have HQ2 : Hid ((gk = 0 ∧ pk = 0 ∧ l1.length = l0.length + then_.length) ∨ (gk ≠ 0 ∧ l1 = l0 ∧ ((pk = gk ∧ pw = gw ∧ pl = gl ∧ pn = gn) ∨ (pk = 0 ∧ gk = 8)))) := hq2
      unfold faV at cPl cI2
      dsimp only at cPl cI2
      clear hq hq1 hq2 hrel hI hfp hm hfg hl1 htog HI
      go_wp2_with fail
      refine cPl.mono ?_
      rintro e w7 ⟨a7, c7, rfl, -, hB10⟩
      clear cPl
      obtain ⟨PN, hPN⟩ : ∃ PN : ByteArray, PN = ⟨pn.toArray⟩ := ⟨_, rfl⟩
      have HPN : Hid (PN = ⟨pn.toArray⟩) := hPN
      rw [← hPN]
      clear hPN
      generalize hA7 : w7.alloc (.cells #[.int .i64 pk, .int .i64 pw, .int .i64 pl, .string PN] 23) = A7
      have hBA7 : Below w7.heap.size w7 A7 := by rw [← hA7]; exact (Below.refl _ w7).alloc (Nat.le_refl _) _
      have hr7 : A7.heap[w7.heap.size]? = some (.cells #[.int .i64 pk, .int .i64 pw, .int .i64 pl, .string PN] 23 (0, 0)) := by rw [← hA7]; exact heap_alloc_new w7 _
      have hB67 : Below w6.heap.size w6 A7 := bt hB10 hBA7
      have HR7 : Hid (A7.heap[w7.heap.size]? = some (.cells #[.int .i64 pk, .int .i64 pw, .int .i64 pl, .string PN] 23 (0, 0))) := hr7
      have cP2 := x_packs (HX6.out.below hB67)
      clear hr7 hB10 hBA7
      go_wp2_with fail
      refine cP2.mono ?_
      rintro e w8 ⟨a8, c8, rfl, hs8, hB11⟩
      have hB68 : Below w6.heap.size w6 w8 := bt hB67 hB11
      have cSa := ksame_any (.slice a6 l0.length c6) (.slice a8 l0.length c8) (txsB l0) (txsB l0) w8 (HS6.out.below hB68) hs8 (by rw [txsB_len]; omega) (by rw [txsB_len]; omega)
      rw [decide_eq_true rfl] at cSa
      have HR8 : Hid (w8.heap[w7.heap.size]? = some (.cells #[.int .i64 pk, .int .i64 pw, .int .i64 pl, .string PN] 23 (0, 0))) := (hB11.block _ (Array.getElem?_eq_some_iff.1 HR7.out).1).trans HR7.out
      clear cP2 hs8 hB11
      go_wp2_with fail
      refine cSa.mono ?_
      rintro e w9 ⟨rfl, hB12⟩
      have hB69 : Below w6.heap.size w6 w9 := bt hB68 hB12
      have HR9 : Hid (w9.heap[w7.heap.size]? = some (.cells #[.int .i64 pk, .int .i64 pw, .int .i64 pl, .string PN] 23 (0, 0))) := (hB12.block _ (Array.getElem?_eq_some_iff.1 HR8.out).1).trans HR8.out
      have cI3 := cI2 w9 hB69
      clear cSa cI2 hB12
      go_wp2_with fail
      refine cI3.mono ?_
      rintro e w10 ⟨rfl, hX10, hO10⟩
      clear cI3
      obtain ⟨GN, hGN⟩ : ∃ GN : ByteArray, GN = ⟨gn.toArray⟩ := ⟨_, rfl⟩
      have HGN : Hid (GN = ⟨gn.toArray⟩) := hGN
      rw [← hGN]
      clear hGN
      generalize hA10 : w10.alloc (.cells #[.int .i64 gk, .int .i64 gw, .int .i64 gl, .string GN] 23) = A10
      have hBA10 : Below w10.heap.size w10 A10 := by rw [← hA10]; exact (Below.refl _ w10).alloc (Nat.le_refl _) _
      have hr10 : A10.heap[w10.heap.size]? = some (.cells #[.int .i64 gk, .int .i64 gw, .int .i64 gl, .string GN] 23 (0, 0)) := by rw [← hA10]; exact heap_alloc_new w10 _
      have hp10 : w10.heap[w7.heap.size]? = some (.cells #[.int .i64 pk, .int .i64 pw, .int .i64 pl, .string PN] 23 (0, 0)) := hO10.flt _ _ _ HR9.out
      have HR10 : Hid (A10.heap[w10.heap.size]? = some (.cells #[.int .i64 gk, .int .i64 gw, .int .i64 gl, .string GN] 23 (0, 0)) ∧ A10.heap[w7.heap.size]? = some (.cells #[.int .i64 pk, .int .i64 pw, .int .i64 pl, .string PN] 23 (0, 0))) := ⟨hr10, (hBA10.block _ (Array.getElem?_eq_some_iff.1 hp10).1).trans hp10⟩
      have HS10 : Hid (StrsIn A10 (.slice a6 l0.length c6) (txsB l0)) := (hO10.strs _ _ (HS6.out.below hB69)).below hBA10
      have HB10 : Hid (Below w3.heap.size w3 A10) := ((hB9.trans (hB69.mono hB9.size)).trans hO10.low).trans (hBA10.mono (by have := hO10.low.size; have := hB69.size; have := hB9.size; omega))
      have hXA := hX10.below hBA10
      have hl1600 := hXA.tog.2
      have cP3 := x_packs hXA
      clear hr10 hp10 hO10 hX10 hXA hBA10
      go_wp2_with fail
      refine cP3.mono ?_
      rintro e w11 ⟨a11, c11, rfl, hs11, hB13⟩
      have cSb := ksame_any (.slice a6 l0.length c6) (.slice a11 l1.length c11) (txsB l0) (txsB l1) w11 (HS10.out.below hB13) hs11 (by rw [txsB_len]; omega) (by rw [txsB_len]; omega)
      have HR11 : Hid (w11.heap[w10.heap.size]? = some (.cells #[.int .i64 gk, .int .i64 gw, .int .i64 gl, .string GN] 23 (0, 0)) ∧ w11.heap[w7.heap.size]? = some (.cells #[.int .i64 pk, .int .i64 pw, .int .i64 pl, .string PN] 23 (0, 0))) := ⟨(hB13.block _ (Array.getElem?_eq_some_iff.1 HR10.out.1).1).trans HR10.out.1, (hB13.block _ (Array.getElem?_eq_some_iff.1 HR10.out.2).1).trans HR10.out.2⟩
      have HB11 : Hid (Below w3.heap.size w3 w11) := HB10.out.trans (hB13.mono HB10.out.size)
      clear cP3 hs11 hB13
      go_wp2_with fail
      refine cSb.mono ?_
      rintro e w12 ⟨rfl, hB14⟩
      have HB12 : Hid (Below w.heap.size w w12) := (HLow.out _ (HB11.out.trans (hB14.mono HB11.out.size))).2.2
      have hg12 : w12.heap[w10.heap.size]? = some (.cells #[.int .i64 gk, .int .i64 gw, .int .i64 gl, .string GN] 23 (0, 0)) := (hB14.block _ (Array.getElem?_eq_some_iff.1 HR11.out.1).1).trans HR11.out.1
      have hp12 : w12.heap[w7.heap.size]? = some (.cells #[.int .i64 pk, .int .i64 pw, .int .i64 pl, .string PN] 23 (0, 0)) := (hB14.block _ (Array.getElem?_eq_some_iff.1 HR11.out.2).1).trans HR11.out.2
      have i0 : w12.cell? ⟨w10.heap.size, 0, none⟩ = some (.int .i64 gk) := (cell_of_row w12 _ 0 _ _ (0, 0) hg12).trans rfl
      have i1 : w12.cell? ⟨w10.heap.size, 1, none⟩ = some (.int .i64 gw) := (cell_of_row w12 _ 1 _ _ (0, 0) hg12).trans rfl
      have i2 : w12.cell? ⟨w10.heap.size, 2, none⟩ = some (.int .i64 gl) := (cell_of_row w12 _ 2 _ _ (0, 0) hg12).trans rfl
      have i3 : w12.cell? ⟨w10.heap.size, 3, none⟩ = some (.string GN) := (cell_of_row w12 _ 3 _ _ (0, 0) hg12).trans rfl
      have j0 : w12.cell? ⟨w7.heap.size, 0, none⟩ = some (.int .i64 pk) := (cell_of_row w12 _ 0 _ _ (0, 0) hp12).trans rfl
      have j1 : w12.cell? ⟨w7.heap.size, 1, none⟩ = some (.int .i64 pw) := (cell_of_row w12 _ 1 _ _ (0, 0) hp12).trans rfl
      have j2 : w12.cell? ⟨w7.heap.size, 2, none⟩ = some (.int .i64 pl) := (cell_of_row w12 _ 2 _ _ (0, 0) hp12).trans rfl
      have j3 : w12.cell? ⟨w7.heap.size, 3, none⟩ = some (.string PN) := (cell_of_row w12 _ 3 _ _ (0, 0) hp12).trans rfl
      clear cSb hg12 hp12 hB14 hA7 hA10
      rcases HQ2.out with ⟨rfl, rfl, hlen⟩ | ⟨hg0, rfl, ⟨rfl, rfl, rfl, rfl⟩ | ⟨rfl, rfl⟩⟩
      · have hm' := HQ.out rfl
        subst hm'
        go_wp2
        go_ret
        exact ⟨rfl, HB12.out⟩
      · have e1 : PN = GN := by rw [HPN.out, HGN.out]
        subst e1
        rw [decide_eq_true rfl]
        have hpk : ((pk : Int) == 0) = false := by simpa using hg0
        have hpk2 : ¬ ((pk : Int) = 0) := by omega
        go_wp2
        go_ret
        exact ⟨rfl, HB12.out⟩
      · have hm' := HQ.out rfl
        subst hm'
        rw [decide_eq_true rfl]
        go_wp2
        go_ret
        exact ⟨rfl, HB12.out⟩
end Go.Proofs.YtgnfknjopafngaaGreatDoor
namespace Go.Proofs.YtgnfknjopafngaaGreatDoor
namespace M
theorem title_blank {s a b : List UInt8} (h : titleS s = some (a, b)) : (32 : UInt8) ∉ a := by
  unfold titleS at h
  split at h
  · rename_i x y z e
    split at h
    · cases h
      exact cut_no s.length s (Nat.le_refl _) a (by rw [e]; simp)
    · cases h
  · cases h
theorem Back.blank {p : Pk} (h : Back p) : (32 : UInt8) ∉ p.name := by
  unfold Back readS at h
  split at h
  · cases h
  · split at h
    · cases h
    · rename_i q e
      have hl : cutS (trimS (printS p)) [10] ≠ [] := fun e2 => by
        have := (cutS_len (trimS (printS p)) [10]).1
        rw [e2] at this
        simp at this
      obtain ⟨_, _, ht⟩ := whole_valid hl e
      have hn : q.name = p.name := by cases h; rfl
      rw [← hn]
      exact title_blank ht
end M
end Go.Proofs.YtgnfknjopafngaaGreatDoor
namespace Go.Proofs.YtgnfknjopafngaaGreatDoor
open Go.RowKit Go.Maps
set_option maxRecDepth 100000 in
set_option maxHeartbeats 2000000 in
theorem kname_any (T N : ByteArray) (r : List UInt8) (w : World) (hT : T.data.toList = [112, 97, 99, 107, 97, 103, 101, 32] ++ (N.data.toList ++ 32 :: r)) (hN : (32 : UInt8) ∉ N.data.toList) (hs : T.size ≤ 1000000) :
    Calls Tryz.prog 23 #[.string T] w fun e w' => e = .returned (.string N) ∧ Below w.heap.size w w' := by
  have hsz : T.size = 8 + N.size + 1 + r.length := by
    rw [← len_data, hT, ← len_data]
    simp
    omega
  have hex : T.extract 8 (8 + N.size) = N := by
    apply bytes_same
    rw [ByteArray.data_extract, Array.toList_extract, hT, ← len_data]
    simp
  have hbyte : ∀ m (hm : m < T.size), 8 ≤ m → T[m] = (N.data.toList ++ 32 :: r)[m - 8]'(by rw [List.length_append, len_data, List.length_cons]; omega) := fun m hm h8 => by
    have h1 : T.data.toList[m]'(by rw [len_data]; exact hm) = T[m] := by rw [Array.getElem_toList]; rfl
    rw [← h1]
    simp only [hT]
    rw [List.getElem_append_right (by simpa using h8)]
    rfl
  have HB1 : Hid (∀ m (hm : m < T.size), 8 ≤ m → m < 8 + N.size → ((T[m]).toNat : Int) ≠ 32) := fun m hm h8 hlt e => by
    rw [hbyte m hm h8, List.getElem_append_left (by rw [len_data]; omega)] at e
    apply hN
    have e2 : N.data.toList[m - 8]'(by rw [len_data]; omega) = 32 := UInt8.toNat_inj.1 (by have : ((32 : UInt8).toNat : Int) = 32 := rfl; omega)
    rw [← e2]
    exact List.getElem_mem _
  have HB2 : Hid (∀ (hm : 8 + N.size < T.size), ((T[8 + N.size]).toNat : Int) = 32) := fun hm => by
    rw [hbyte _ hm (by omega), List.getElem_append_right (by rw [len_data]; omega)]
    simp only [len_data, Nat.add_sub_cancel_left, Nat.sub_self, List.getElem_cons_zero]
    rfl
  clear hT hN hbyte
  go_enter Tryz.func23, Tryz.ntmps23
  go_wp2
  go_loopw [3] (fun i wr => ∃ m : Nat, i = .int .i64 m ∧ 8 ≤ m ∧ m ≤ 8 + N.size ∧ w = wr) (fun i _ => 8 + N.size - (intOf i).toNat)
  case atStart => exact ⟨8, rfl, Nat.le_refl _, by omega, rfl⟩
  case round =>
    obtain ⟨m, rfl, h8, hm, rfl⟩ := hrel
    have hlt : m < T.size := by omega
    by_cases hk : m < 8 + N.size
    · have b1 := HB1.out m hlt h8 hk
      have b2 : (((T[m]'hlt).toNat : Int) == 32) = false := by simpa using b1
      go_wp2
      go_roundw
      case rel => exact ⟨m + 1, by go_num, by omega, by omega, by first | rfl | trivial⟩
      case measure => simp [intOf]; omega
    · have hmm : m = 8 + N.size := by omega
      subst hmm
      have b1 := HB2.out hlt
      go_wp2
      go_ret
      exact ⟨by show Ending.returned (.string (T.extract 8 (8 + N.size))) = _; rw [hex], Below.refl _ _⟩
end Go.Proofs.YtgnfknjopafngaaGreatDoor
namespace Go.Proofs.YtgnfknjopafngaaGreatDoor
open Go.RowKit
structure OpD where
  kind : Int
  a : Int
  b : Int
  s : ByteArray
def OpsIn (w : World) (v : Value) (ops : List OpD) : Prop := ∃ a cap, v = .slice a ops.length cap ∧ ops.length ≤ cap ∧ cap ≤ maxLen ∧ (0 < ops.length → ∃ g off, a = some ⟨g, off, none⟩ ∧ g < w.heap.size ∧
  ∀ i (hi : i < ops.length), w.cell? ⟨g, off + i * 4, none⟩ = some (.int .i64 ops[i].kind) ∧ w.cell? ⟨g, off + i * 4 + 1, none⟩ = some (.int .i64 ops[i].a) ∧ w.cell? ⟨g, off + i * 4 + 2, none⟩ = some (.int .i64 ops[i].b) ∧ w.cell? ⟨g, off + i * 4 + 3, none⟩ = some (.string ops[i].s))
theorem OpsIn.below {w w' : World} {v : Value} {ops : List OpD} (h : OpsIn w v ops) (hb : Below w.heap.size w w') : OpsIn w' v ops := by
  obtain ⟨a, cap, e, h1, h2, h3⟩ := h
  refine ⟨a, cap, e, h1, h2, fun h0 => ?_⟩
  obtain ⟨g, off, e1, hg, hc⟩ := h3 h0
  refine ⟨g, off, e1, Nat.lt_of_lt_of_le hg hb.size, fun i hi => ?_⟩
  obtain ⟨k0, k1, k2, k3⟩ := hc i hi
  exact ⟨(hb.cell (p := ⟨g, off + i * 4, none⟩) hg).trans k0, (hb.cell (p := ⟨g, off + i * 4 + 1, none⟩) hg).trans k1, (hb.cell (p := ⟨g, off + i * 4 + 2, none⟩) hg).trans k2, (hb.cell (p := ⟨g, off + i * 4 + 3, none⟩) hg).trans k3⟩
def bytesOf (ops : List OpD) : Nat := (ops.map fun o => o.s.size).sum
end Go.Proofs.YtgnfknjopafngaaGreatDoor
namespace Go.Proofs.YtgnfknjopafngaaGreatDoor
open Go.ChangeShapes Go.WideShapes Go.Deep
theorem weights_all {H : Type} {P : Program} {e : TypeId} : ∀ {l : List (DataW H)} {i : Nat} {d : DataW H}, l[i]? = some d → ∀ n ∈ d.weights P e, n ∈ DataW.weightsAll P e l
  | d0 :: l, 0, d, h, n, hn => by
    simp only [List.getElem?_cons_zero, Option.some.injEq] at h
    subst h
    simp only [DataW.weightsAll, List.mem_append]
    exact .inl hn
  | d0 :: l, i + 1, d, h, n, hn => by
    simp only [List.getElem?_cons_succ] at h
    simp only [DataW.weightsAll, List.mem_append]
    exact .inr (weights_all h n hn)
  | [], i, d, h, _, _ => by simp at h
theorem spot_none {w : World} {a : Addr} {v : Value} (h : w.cell? a = some v) : a.spot = none := by
  unfold World.cell? at h
  split at h
  · split at h
    · cases h
    · rename_i h1; simpa using h1
  · cases h
theorem addr_add {b o : Nat} (i : Nat) : (⟨b, o, none⟩ : Addr).add i = ⟨b, o + i, none⟩ := by
  unfold Addr.add
  by_cases h : i = 0
  · simp [h]
  · simp [h]
end Go.Proofs.YtgnfknjopafngaaGreatDoor
namespace Go.Proofs.YtgnfknjopafngaaGreatDoor
open Go.ChangeShapes Go.WideShapes Go.Deep
set_option maxRecDepth 10000 in
theorem open_txts {H : Type} {enc : TypeId × Value → H} {W : World} {spare : Nat → Bool} {held : Bool} {base : Nat} {v : Value} {d : DataW H} {p : List MemPlace} (hv : ∃ a l c, v = .slice a l c)
    (h : DataW.Trod enc Tryz.prog W base spare held 43 v d p) (hz : ∀ n ∈ d.weights Tryz.prog 43, n ≤ reachBytes) : ∃ l, TxtsIn W v l ∧ l.length ≤ reachBytes ∧ ∀ t ∈ l, t.size ≤ reachBytes := by
  obtain ⟨va, vl, vc, rfl⟩ := hv
  obtain ⟨fuel, h⟩ := h
  have cs : Tryz.prog.cellsOf 9 = 1 := by kernel_rfl
  have bs : Tryz.prog.bytesOf 9 = 16 := by kernel_rfl
  rcases open_slice Tryz.underlying43 h with ⟨h0, _⟩ | ⟨a, len, cap, m, n, D, Pl, h0, hb, hl, hm, hmm, hx, hel⟩
  · have e : Value.slice va vl vc = .slice none 0 0 := by simpa [Value.cells] using h0
    rw [e]
    exact ⟨[], .inl ⟨rfl, _, _, rfl⟩, Nat.zero_le _, fun o ho => by cases ho⟩
  · have e : Value.slice va vl vc = .slice (some a) len cap := by simpa [Value.cells] using h0
    rw [e]
    have hlm : len ≤ m := by rw [hmm]; split <;> omega
    have hlen : len ≤ reachBytes := by
      simp only [Prod.mk.injEq] at hx
      have := hz _ (by
        rw [hx.1]
        unfold DataW.weights
        rw [Tryz.underlying43]
        exact List.mem_cons_self)
      rw [bs, List.length_map, List.length_range] at this
      omega
    have each : ∀ i, i < len → ∃ s : ByteArray, W.cell? (a.add i) = some (.string s) ∧ s.size ≤ reachBytes := by
      intro i hi
      obtain ⟨cs', h1, h2⟩ := hel i (by omega)
      rw [cs] at h1
      obtain ⟨_, hlen, hcell⟩ := World.cells?_some h1
      match cs', hlen with
      | [v0], _ =>
        obtain ⟨s3, e3, e4, _⟩ := DataW.trod_string Tryz.underlying9 h2
        have k0 := hcell 0 (by omega)
        rw [add_add] at k0
        simp at e3
        subst e3
        refine ⟨s3, by simpa using k0, ?_⟩
        simp only [Prod.mk.injEq] at hx
        have hw : s3.data.toList.length ∈ (D i).weights Tryz.prog 9 := by
          rw [show D i = .lit (.string s3.data.toList) from congrArg Prod.fst e4]
          simp [DataW.weights]
        have := hz s3.data.toList.length (by
          rw [hx.1]
          unfold DataW.weights
          rw [Tryz.underlying43]
          simp only [List.mem_cons, List.mem_append]
          refine .inr (.inl (weights_all (i := i) (d := D i) ?_ _ hw))
          rw [List.getElem?_map, List.getElem?_range hi]
          rfl)
        simpa using this
    haveI : Inhabited ByteArray := ⟨⟨#[]⟩⟩
    obtain ⟨q, hq⟩ := choose_lt each
    refine ⟨(List.range len).map q, ?_, by simpa using hlen, fun o ho => ?_⟩
    · by_cases hl0 : 0 < len
      · have hs := spot_none (by have := (hq 0 hl0).1; simpa [Addr.add] using this)
        obtain ⟨g, off, sp⟩ := a
        simp only at hs
        subst hs
        refine .inr ⟨g, off, cap, by simp, by simpa using hl, by have := World.block_lt_of_cell? _ _ (hq 0 hl0).1; simpa [Addr.add] using this, fun i hi => ?_⟩
        have hi' : i < len := by simpa using hi
        have k0 := (hq i hi').1
        rw [addr_add] at k0
        simp only [List.getElem_map, List.getElem_range]
        exact k0
      · have e0 : len = 0 := by omega
        subst e0
        exact .inl ⟨rfl, _, _, rfl⟩
    · obtain ⟨i, hi, rfl⟩ := List.mem_map.1 ho
      exact (hq i (List.mem_range.1 hi)).2
end Go.Proofs.YtgnfknjopafngaaGreatDoor
