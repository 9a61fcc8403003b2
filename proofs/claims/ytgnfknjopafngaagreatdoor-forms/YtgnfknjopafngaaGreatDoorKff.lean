import Derived.Test.YtgnfknjopafngaaGreatDoorKfe
namespace Go.Proofs.YtgnfknjopafngaaGreatDoor
open Go.RowKit
theorem infoCh : (Tryz.prog.info? 125).map (fun i => (i.zero, i.size, i.bytes)) = some (some (.agg #[.string ⟨#[]⟩, .string ⟨#[]⟩, .string ⟨#[]⟩]), 3, 48) := by kernel_rfl
def chCells (c : M.Ch) : List Value := [strV c.name, strV c.sign, strV c.ver]
def chsCells (l : List M.Ch) : List Value := l.flatMap chCells
theorem chsCells_snoc (l : List M.Ch) (c : M.Ch) : chsCells (l ++ [c]) = chsCells l ++ [strV c.name, strV c.sign, strV c.ver] := by
  simp [chsCells, chCells]
def choicesB (s sep : ByteArray) (most : Nat) : Option (List M.Ch) := M.choicesS s.data.toList sep.data.toList most
def preS (ps : List ByteArray) (k : Nat) (l : List M.Ch) : Prop := M.allS M.choiceS ((ps.take k).map (fun p => p.data.toList)) = some l
theorem allS_snoc {α : Type} (f : List UInt8 → Option α) : ∀ (l : List (List UInt8)) (r : List α) (s : List UInt8), M.allS f l = some r → M.allS f (l ++ [s]) = (f s).map (fun c => r ++ [c])
  | [], r, s, h => by
    simp only [M.allS, Option.some.injEq] at h
    subst h
    simp only [List.nil_append, M.allS]
    cases f s <;> rfl
  | x :: l, r, s, h => by
    simp only [M.allS] at h
    simp only [List.cons_append, M.allS]
    cases hx : f x with
    | none => rw [hx] at h; cases h
    | some c =>
      rw [hx] at h
      cases hl : M.allS f l with
      | none => rw [hl] at h; cases h
      | some t =>
        rw [hl] at h
        cases h
        rw [allS_snoc f l t s hl]
        cases f s <;> rfl
theorem allS_stop {α : Type} (f : List UInt8 → Option α) : ∀ (l m : List (List UInt8)), M.allS f l = none → M.allS f (l ++ m) = none
  | [], m, h => by simp [M.allS] at h
  | x :: l, m, h => by
    simp only [M.allS] at h
    simp only [List.cons_append, M.allS]
    cases hx : f x with
    | none => rfl
    | some c =>
      rw [hx] at h
      cases hl : M.allS f l with
      | none => rw [allS_stop f l m hl]
      | some t => rw [hl] at h; cases h
theorem pre_go {ps : List ByteArray} {k : Nat} {l : List M.Ch} (h : preS ps k l) (hk : k < ps.length) (c : M.Ch) (hc : choiceB ps[k] = some c) : preS ps (k + 1) (l ++ [c]) := by
  unfold preS at h ⊢
  rw [List.take_add_one, List.getElem?_eq_getElem hk]
  simp only [Option.toList_some, List.map_append, List.map_cons, List.map_nil]
  rw [allS_snoc _ _ _ _ h, show M.choiceS ps[k].data.toList = some c from hc]
  rfl
theorem pre_no {ps : List ByteArray} {k : Nat} {l : List M.Ch} (h : preS ps k l) (hk : k < ps.length) (hc : choiceB ps[k] = none) : M.allS M.choiceS (ps.map (fun p => p.data.toList)) = none := by
  unfold preS at h
  have e : ps.map (fun p => p.data.toList) = ((ps.take k).map (fun p => p.data.toList) ++ [ps[k].data.toList]) ++ (ps.drop (k + 1)).map (fun p => p.data.toList) := by
    have e1 : ps = (ps.take k ++ [ps[k]]) ++ ps.drop (k + 1) := by
      rw [List.append_assoc, List.singleton_append, ← List.drop_eq_getElem_cons hk, List.take_append_drop]
    have e2 := congrArg (List.map (fun p : ByteArray => p.data.toList)) e1
    rw [List.map_append, List.map_append] at e2
    exact e2
  rw [e]
  exact allS_stop _ _ _ (by rw [allS_snoc _ _ _ _ h, show M.choiceS ps[k].data.toList = none from hc]; rfl)
theorem choice_c (s : ByteArray) (w : World) (hl : s.size ≤ 100000) :
    Calls Tryz.prog 103 #[.string s] w fun e w' => ∃ A B C : ByteArray, e = .returned (.tuple #[.agg #[.string A, .string B, .string C], .bool (choiceB s).isSome]) ∧ chB (choiceB s) A.data.toList B.data.toList C.data.toList ∧ Below w.heap.size w w' := by
  refine (choice_any s w hl).mono fun e w' ⟨a, b, c, he, hc, hb⟩ => ⟨⟨a.toArray⟩, ⟨b.toArray⟩, ⟨c.toArray⟩, he, hc, hb⟩
theorem own_below {w w' : World} {B e size n : Nat} {v : Value} {xs : List Value} (h : w.ownsRow B e size v n xs) (hb : Below w.heap.size w w') : w'.ownsRow B e size v n xs :=
  h.kept (row := none) ⟨hb.os, hb.tape, hb.output, hb.size, fun k hk _ => hb.block k hk⟩ (by cases hv : v.ownBlock with | none => exact .inl rfl | some k => exact .inr (by simp))
theorem own_form {w : World} {B e size n : Nat} {v : Value} {xs : List Value} (h : w.ownsRow B e size v n xs) : ∃ a cap, v = .slice a n cap := by
  obtain ⟨_, ⟨rfl, rfl⟩ | ⟨g, cap, cur, rfl, _⟩⟩ := h
  · exact ⟨_, _, rfl⟩
  · exact ⟨_, _, rfl⟩
theorem own_base {w : World} {B B' e size n : Nat} {v : Value} {xs : List Value} (h : w.ownsRow B e size v n xs) (hB : B' ≤ B) : w.ownsRow B' e size v n xs := by
  obtain ⟨hl, h | ⟨g, cap, cur, h1, h2, h3⟩⟩ := h
  · exact ⟨hl, .inl h⟩
  · exact ⟨hl, .inr ⟨g, cap, cur, h1, by omega, h3⟩⟩
theorem new_cells (w : World) (xs : List Value) (t : TypeId) : ∀ j u, xs[j]? = some u → (w.alloc (.cells xs.toArray t)).cell? ((⟨w.heap.size, 0, none⟩ : Addr).add j) = some u := by
  intro j u hj
  have e : (w.alloc (.cells xs.toArray t)).heap[w.heap.size]? = some (.cells xs.toArray t) := (MapKept.heap_alloc w _).1
  have e2 : ((⟨w.heap.size, 0, none⟩ : Addr).add j) = ⟨w.heap.size, j, none⟩ := by unfold Addr.add; by_cases h : j = 0 <;> simp [h]
  rw [e2]
  simp only [World.cell?, e]
  simpa using hj
theorem new_cells2 (w : World) (o : Obj) (xs : List Value) (t : TypeId) : ∀ j u, xs[j]? = some u → ((w.alloc o).alloc (.cells xs.toArray t)).cell? ((⟨w.heap.size + 1, 0, none⟩ : Addr).add j) = some u := by
  have h := new_cells (w.alloc o) xs t
  have e : (w.alloc o).heap.size = w.heap.size + 1 := by simp
  rw [e] at h
  exact h
set_option maxRecDepth 100000 in
set_option maxHeartbeats 1000000 in
theorem choices_any (s sep : ByteArray) (most : Int) (w : World) (hs : 0 < sep.size) (hl : s.size ≤ 100000) (hl2 : sep.size ≤ 1000) (hm : 0 ≤ most) :
    Calls Tryz.prog 62 #[.string s, .string sep, .int .i64 most] w fun e w' => ∃ v l, e = .returned (.tuple #[v, .bool (choicesB s sep most.toNat).isSome]) ∧
      w'.ownsRow w.heap.size 125 3 v l.length (chsCells l) ∧ (∀ x, choicesB s sep most.toNat = some x → x = l) ∧ l.length ≤ s.size + 1 ∧ Below w.heap.size w w' := by
  obtain ⟨i0, hi0, hz0, hz1, hz2⟩ := info_parts infoCh
  obtain ⟨ps, hps⟩ := bytes_list (cutB s sep)
  have HP : Hid (cutB s sep = ps.map (fun p => p.data.toList)) := hps
  have hpn : ps.length ≤ s.size + 1 := by
    have := (M.cutS_len s.data.toList sep.data.toList).2
    have e : (cutB s sep).length = ps.length := by rw [hps]; simp
    have : (cutB s sep).length ≤ s.data.toList.length + 1 := this
    simp only [Array.length_toList, ByteArray.size_data] at this
    omega
  have cC := fun wx => cut_c s sep wx hs (by omega) hl2 ps hps
  have hsz : ∀ p ∈ ps, p.size ≤ s.size := fun p hp => piece_size hps p hp
  have HZ : Hid (∀ p ∈ ps, p.size ≤ s.size) := hsz
  clear hps hsz
  go_enter Tryz.func62, Tryz.ntmps62
  go_wp2_with fail
  refine (cC _).mono ?_
  rintro e w1 ⟨g, cap, rfl, hg1, hg2, hcap, hc, hB⟩
  clear cC
  have HC : Hid (∀ j (hj : j < ps.length), w1.cell? ⟨g, j, none⟩ = some (.string ps[j])) := hc
  clear hc
  have hB0 : Below w.heap.size w w1 := hB
  go_wp2
  go_loopw [9, 10, 11, 12] (fun v i _ _ wr => ∃ (l : List M.Ch) (k : Nat), i = .int .i64 k ∧ k ≤ ps.length ∧ l.length = k ∧ wr.ownsRow w1.heap.size 125 3 v k (chsCells l) ∧ Below w1.heap.size w1 wr ∧ Hid (preS ps k l)) (fun _ i _ _ _ => ps.length - (intOf i).toNat)
  case atStart => exact ⟨[], 0, rfl, Nat.zero_le _, rfl, World.ownsRow_nil _ _ _ _, Below.refl _ _, rfl⟩
  case round =>
    obtain ⟨l, k, rfl, hk, hlk, hown, hBr, HR⟩ := hrel
    have hsr := hBr.size
    by_cases hlt : k < ps.length
    · have ck : wr.cell? ⟨g, k, none⟩ = some (.string ps[k]) := (hBr.cell (p := ⟨g, k, none⟩) hg2).trans (HC.out k hlt)
      have hpk : ps[k].size ≤ s.size := HZ.out _ (List.getElem_mem hlt)
      cases hch : choiceB ps[k] with
      | none =>
        have cK := fun wx => choice_c ps[k] wx (by omega)
        rw [hch] at cK
        have HE : Hid (choicesB s sep most.toNat = none) := by
          show M.choicesS _ _ _ = _
          unfold M.choicesS
          rw [show M.cutS s.data.toList sep.data.toList = cutB s sep from rfl, HP.out, pre_no HR.out hlt hch]
        clear hch
        go_wp2_with fail
        refine (cK _).mono ?_
        rintro e w2 ⟨A, B, C, rfl, _, hB2⟩
        clear cK
        go_wp2
        go_ret2
        refine ⟨_, [], ?_, World.ownsRow_nil _ _ _ _, ?_, Nat.zero_le _, ?_⟩
        · rw [HE.out]; rfl
        · intro x hx; rw [HE.out] at hx; cases hx
        · exact (bt hB0 (bt hBr hB2)).alloc (by have := hB2.size; have := hB0.size; omega) _
      | some c =>
        have cK := fun wx => choice_c ps[k] wx (by omega)
        rw [hch] at cK
        have HC2 : Hid (choiceB ps[k] = some c) := hch
        clear hch
        go_wp2_with fail
        refine (cK _).mono ?_
        rintro e w2 ⟨A, B, C, rfl, hABC, hB2⟩
        clear cK
        have HK : Hid (chB (some c) A.data.toList B.data.toList C.data.toList) := hABC
        clear hABC
        have hown2 := own_below hown hB2
        have hs2 := hB2.size
        go_wp2_with (at_builtin; refine wpList_append_own _ rfl _ _ 27 rfl w1.heap.size 125 i0 (.agg #[.string ⟨#[]⟩, .string ⟨#[]⟩, .string ⟨#[]⟩]) 3 48 Tryz.underlying27 hi0 hz0 hz1 hz2 rfl (by decide) _ _ _ rfl ((hown2.alloc _).alloc _) ⟨w2.heap.size + 1, 0, none⟩ 1 1 [.string A, .string B, .string C] rfl rfl ?c1 ?c2 ?c3 ?c4 ?c5 ?_)
        case c1 => exact new_cells2 _ _ [.string A, .string B, .string C] _
        case c2 => intro u hu; simp at hu; rcases hu with rfl | rfl | rfl <;> rfl
        case c3 => unfold maxLen; omega
        case c4 => omega
        case c5 => simp; omega
        intro v' w3 hown' hgrow _
        have R1 : w3.ownsRow w1.heap.size 125 3 v' (k + 1) (chsCells (l ++ [c])) := by
          obtain ⟨e1, e2, e3⟩ := HK.out c rfl
          rw [chsCells_snoc, e1, e2, e3]; exact hown'
        have R2 : Below w1.heap.size w1 w3 :=
          (((hBr.trans (hB2.mono hsr)).alloc (by omega) _).alloc (by simp; omega) _).grown hgrow (by simp; omega) (fun j hj => (hown.lt j hj).1)
        clear hown' hgrow hown hown2
        go_wp2
        go_roundw
        case rel => exact ⟨_, k + 1, by go_num, by omega, by simp; omega, R1, R2, pre_go HR.out hlt c HC2.out⟩
        case measure => simp [intOf]; omega
    · have hkk : k = ps.length := by omega
      have HE : Hid (choicesB s sep most.toNat = if l.length ≤ most.toNat then some l else none) := by
        have h := HR.out
        unfold preS at h
        rw [hkk, List.take_length] at h
        show M.choicesS _ _ _ = _
        unfold M.choicesS
        rw [show M.cutS s.data.toList sep.data.toList = cutB s sep from rfl, HP.out, h]
      obtain ⟨av, cv, hv⟩ := own_form hown
      subst hv
      by_cases hm2 : (k : Int) ≤ most
      · have HE2 : Hid (choicesB s sep most.toNat = some l) := by show _ = _; rw [HE.out, if_pos (by omega)]
        clear hkk HE
        go_wp2
        go_ret2
        refine ⟨_, l, ?_, by rw [hlk]; exact own_base hown hB0.size, ?_, by omega, bt hB0 hBr⟩
        · rw [HE2.out]; rfl
        · intro x hx; rw [HE2.out] at hx; cases hx; rfl
      · have HE2 : Hid (choicesB s sep most.toNat = none) := by show _ = _; rw [HE.out, if_neg (by omega)]
        clear hkk HE
        go_wp2
        go_ret2
        refine ⟨.slice av k cv, ?_, l, ?_, ?_, ?_, bt hB0 hBr⟩
        · rw [HE2.out]; rfl
        · rw [hlk]; exact own_base hown hB0.size
        · intro x hx; rw [HE2.out] at hx; cases hx
        · omega
def isPathB (s : ByteArray) : Bool := M.isPathS s.data.toList
def partOk (q : List UInt8) : Bool := M.made M.partP 1 8 q && !(q == [46]) && !(q == [46, 46])
theorem isPath_eq (s : ByteArray) (ps : List ByteArray) (h : cutB s ⟨#[47]⟩ = ps.map (fun p => p.data.toList)) :
    isPathB s = (ps.all (fun p => partOk p.data.toList) && decide (ps.length ≤ 3)) := by
  unfold isPathB M.isPathS
  rw [show M.cutS s.data.toList [47] = cutB s ⟨#[47]⟩ from rfl, h, List.all_map, List.length_map]
  rfl
set_option maxRecDepth 100000 in
set_option maxHeartbeats 1000000 in
theorem isPath_any (s : ByteArray) (w : World) (hl : s.size ≤ 100000) :
    Calls Tryz.prog 104 #[.string s] w fun e w' => e = .returned (.bool (isPathB s)) ∧ Below w.heap.size w w' := by
  obtain ⟨ps, hps⟩ := bytes_list (cutB s ⟨#[47]⟩)
  have HI : Hid (isPathB s = (ps.all (fun p => partOk p.data.toList) && decide (ps.length ≤ 3))) := isPath_eq s ps hps
  have hpn : ps.length ≤ s.size + 1 := by
    have := (M.cutS_len s.data.toList [47]).2
    have e : (cutB s ⟨#[47]⟩).length = ps.length := by rw [hps]; simp
    have : (cutB s ⟨#[47]⟩).length ≤ s.data.toList.length + 1 := this
    simp only [Array.length_toList, ByteArray.size_data] at this
    omega
  have cC := fun wx => cut_c s ⟨#[47]⟩ wx (by decide) (by omega) (by decide) ps hps
  have HZ : Hid (∀ p ∈ ps, p.size ≤ s.size) := fun p hp => piece_size hps p hp
  clear hps
  go_enter Tryz.func104, Tryz.ntmps104
  go_wp2_with fail
  refine (cC _).mono ?_
  rintro e w1 ⟨g, cap, rfl, hg1, hg2, hcap, hc, hB⟩
  clear cC
  have HC : Hid (∀ j (hj : j < ps.length), w1.cell? ⟨g, j, none⟩ = some (.string ps[j])) := hc
  clear hc
  go_wp2
  go_loop [4, 5] (fun i _ => ∃ k : Nat, i = .int .i64 k ∧ k ≤ ps.length ∧ Hid (∀ j (h : j < ps.length), j < k → partOk ps[j].data.toList = true)) (fun i _ => ps.length - (intOf i).toNat)
  case atStart => exact ⟨0, rfl, Nat.zero_le _, fun j _ h => by omega⟩
  case round =>
    obtain ⟨k, rfl, hk, HA⟩ := hrel
    by_cases hlt : k < ps.length
    · have ck : w1.cell? ⟨g, k, none⟩ = some (.string ps[k]) := HC.out k hlt
      have hpk : ps[k].size ≤ s.size := HZ.out _ (List.getElem_mem hlt)
      have cM : ∀ wx, Calls Tryz.prog 101 #[.string ps[k], .string partT, .int .i64 1, .int .i64 8] wx fun e w' => e = .returned (.bool (madeB M.partP 1 8 ps[k])) ∧ w' = wx := fun wx =>
        made_any partT M.partP part_set 1 8 (by decide) (by decide) (by decide) ps[k] wx (by omega)
      by_cases hok : partOk ps[k].data.toList = true
      · have h1 : madeB M.partP 1 8 ps[k] = true := by unfold partOk at hok; simp at hok; exact hok.1.1
        have h2 : (ps[k].toList == [46]) = false := by rw [Lib.toList_data]; unfold partOk at hok; simp at hok; simpa using hok.1.2
        have h3 : (ps[k].toList == [46, 46]) = false := by rw [Lib.toList_data]; unfold partOk at hok; simp at hok; simpa using hok.2
        have HO : Hid (partOk ps[k].data.toList = true) := hok
        clear hok
        go_wp2_with (go_at_call 101; refine (cM _).mono ?_; rintro e w' ⟨rfl, rfl⟩)
        go_round
        case rel =>
          refine ⟨k + 1, by go_num, by omega, fun j hj hjk => ?_⟩
          by_cases hjk' : j < k
          · exact HA.out j hj hjk'
          · obtain rfl : j = k := by omega
            exact HO.out
        case measure => simp [intOf]; omega
      · have HF : Hid (isPathB s = false) := by
          show _ = _
          rw [HI.out, Bool.and_eq_false_iff]
          left
          rw [List.all_eq_false]
          exact ⟨ps[k], List.getElem_mem hlt, hok⟩
        by_cases h1 : madeB M.partP 1 8 ps[k] = true
        · by_cases h2 : (ps[k].toList == [46]) = true
          · clear hok
            go_wp2_with (go_at_call 101; refine (cM _).mono ?_; rintro e w' ⟨rfl, rfl⟩)
            go_ret
            exact ⟨ret_bool HF.out.symm, hB⟩
          · have h2' : (ps[k].toList == [46]) = false := by simpa using h2
            have h3 : (ps[k].toList == [46, 46]) = true := by
              rw [Lib.toList_data] at h2' ⊢
              unfold partOk at hok
              rw [show M.made M.partP 1 8 ps[k].data.toList = true from h1, h2'] at hok
              simpa using hok
            clear hok h2
            go_wp2_with (go_at_call 101; refine (cM _).mono ?_; rintro e w' ⟨rfl, rfl⟩)
            go_ret
            exact ⟨ret_bool HF.out.symm, hB⟩
        · have h1' : madeB M.partP 1 8 ps[k] = false := by simpa using h1
          clear hok h1
          go_wp2_with (go_at_call 101; refine (cM _).mono ?_; rintro e w' ⟨rfl, rfl⟩)
          go_ret
          exact ⟨ret_bool HF.out.symm, hB⟩
    · have hall : ps.all (fun p => partOk p.data.toList) = true := by
        rw [List.all_eq_true]
        intro p hp
        obtain ⟨j, hj, rfl⟩ := List.getElem_of_mem hp
        exact HA.out j hj (by omega)
      have HF : Hid (isPathB s = decide (ps.length ≤ 3)) := by show _ = _; rw [HI.out, hall]; rfl
      clear hall
      go_wp2
      go_ret
      exact ⟨ret_bool (by rw [HF.out, decide_eq_decide]; omega), hB⟩
end Go.Proofs.YtgnfknjopafngaaGreatDoor
namespace Go.Proofs.YtgnfknjopafngaaGreatDoor
open Go.RowKit
def neqP (c : Int) : Bool := decide (c ≠ 61)
def eqB (s : ByteArray) : Nat := M.lead neqP s.data.toList
def fileB (s : ByteArray) : Option M.Fl := M.fileS s.data.toList
def flB (x : Option M.Fl) (a b : List UInt8) : Prop := ∀ y, x = some y → y.path = a ∧ y.content = b
theorem file_none (s : ByteArray) (h : eqB s = s.size) : fileB s = none := by
  unfold fileB M.fileS
  rw [if_pos (by show eqB s = _; simpa using h)]
theorem file_some (s : ByteArray) (h : eqB s < s.size) : fileB s = if isPathB (s.extract 0 (eqB s)) = true ∧ s.size - eqB s - 1 ≤ 24 then some ⟨(s.extract 0 (eqB s)).data.toList, (s.extract (eqB s + 1) s.size).data.toList⟩ else none := by
  unfold fileB M.fileS isPathB
  rw [if_neg (by show ¬ eqB s = _; simp; omega), ext_upto, ext_from]
  simp only [Array.length_toList, ByteArray.size_data]
  rfl
set_option maxRecDepth 100000 in
set_option maxHeartbeats 1000000 in
theorem file_any (s : ByteArray) (w : World) (hl : s.size ≤ 100000) :
    Calls Tryz.prog 63 #[.string s] w fun e w' => ∃ A B : ByteArray, e = .returned (.tuple #[.agg #[.string A, .string B], .bool (fileB s).isSome]) ∧ flB (fileB s) A.data.toList B.data.toList ∧ A.size ≤ s.size ∧ Below w.heap.size w w' := by
  go_enter Tryz.func63, Tryz.ntmps63
  go_wp2
  go_loop [4] (fun i => ∃ k : Nat, k ≤ s.size ∧ i = .int .i64 k ∧ Hid (∀ j (h : j < s.data.toList.length), j < k → neqP (s.data.toList[j]).toNat = true)) (fun i => s.size - (intOf i).toNat)
  case atStart => exact ⟨0, Nat.zero_le _, rfl, fun j _ h => by omega⟩
  case round =>
    obtain ⟨k, hk1, rfl, HA⟩ := hrel
    by_cases hlt : k < s.size
    · by_cases h1 : (s[k].toNat : Int) = 61
      · have h1' : ((s[k].toNat : Int) != 61) = false := by simpa using h1
        have HK : Hid (eqB s = k) := by
          show M.lead _ _ = _
          exact M.lead_eq HA.out (by simpa using hk1) (fun _ => by show neqP s[k].toNat = false; unfold neqP; simp; omega)
        have ht : ((k : Int) == s.size) = false := by rw [beq_eq_false_iff_ne]; omega
        have HF := file_some s (by rw [HK.out]; omega)
        rw [HK.out] at HF
        replace HF : Hid _ := HF
        clear h1
        have cP : ∀ wx, Calls Tryz.prog 104 #[.string (s.extract 0 k)] wx fun e w' => e = .returned (.bool (isPathB (s.extract 0 k))) ∧ Below wx.heap.size wx w' := fun wx =>
          isPath_any _ wx (by have := ext_size s 0 k; omega)
        by_cases hp : isPathB (s.extract 0 k) = true
        · by_cases hc : (s.size : Int) - k - 1 ≤ 24
          · have HE : Hid (fileB s = some ⟨(s.extract 0 k).data.toList, (s.extract (k + 1) s.size).data.toList⟩) := by show _ = _; rw [HF.out, if_pos ⟨hp, by omega⟩]
            clear HF
            go_wp2_with fail
            refine (cP _).mono ?_
            rintro e w1 ⟨rfl, hB⟩
            obtain ⟨hcl, hfz⟩ := bcell hB
            have hz : w.heap.size < w1.heap.size := by have := hB.size; simp at this; omega
            go_wp2
            go_region
            all_goals
              go_wp2
              refine bodyPost_ret (v := .tuple #[.agg #[.string (s.extract 0 k), .string (s.extract (k + 1) s.size)], .bool true]) (by simp [results, Tryz.results63, go_sem, hcl]) rfl ⟨s.extract 0 k, s.extract (k + 1) s.size, ?_, ?_, ext_size _ _ _, ?_⟩
              · rw [HE.out]; rfl
              · rw [HE.out]; intro y hy; cases hy; exact ⟨rfl, rfl⟩
              · exact (((bt ((Below.refl _ w).alloc (Nat.le_refl _) _) hB).setCell (Nat.le_refl _) _).setCell (Nat.le_refl _) _).drew
          · have HE : Hid (fileB s = none) := by show _ = _; rw [HF.out, if_neg (fun h => by have := h.2; omega)]
            have hd : decide ((s.size : Int) - k - 1 ≤ 24) = false := by simp; omega
            clear HF hc
            go_wp2_with fail
            refine (cP _).mono ?_
            rintro e w1 ⟨rfl, hB⟩
            obtain ⟨hcl, hfz⟩ := bcell hB
            have hz : w.heap.size < w1.heap.size := by have := hB.size; simp at this; omega
            go_wp2
            go_region
            all_goals
              go_wp2
              refine bodyPost_ret (v := .tuple #[.agg #[.string (s.extract 0 k), .string (s.extract (k + 1) s.size)], .bool false]) (by simp [results, Tryz.results63, go_sem, hcl]) rfl ⟨s.extract 0 k, s.extract (k + 1) s.size, ?_, ?_, ext_size _ _ _, ?_⟩
              · rw [HE.out]; rfl
              · rw [HE.out]; intro y hy; cases hy
              · exact (((bt ((Below.refl _ w).alloc (Nat.le_refl _) _) hB).setCell (Nat.le_refl _) _).setCell (Nat.le_refl _) _).drew
        · have hp' : isPathB (s.extract 0 k) = false := by simpa using hp
          have HE : Hid (fileB s = none) := by show _ = _; rw [HF.out, if_neg (fun h => hp h.1)]
          clear HF hp
          go_wp2_with fail
          refine (cP _).mono ?_
          rintro e w1 ⟨rfl, hB⟩
          obtain ⟨hcl, hfz⟩ := bcell hB
          have hz : w.heap.size < w1.heap.size := by have := hB.size; simp at this; omega
          go_wp2
          go_region
          all_goals
            go_wp2
            refine bodyPost_ret (v := .tuple #[.agg #[.string (s.extract 0 k), .string (s.extract (k + 1) s.size)], .bool false]) (by simp [results, Tryz.results63, go_sem, hcl]) rfl ⟨s.extract 0 k, s.extract (k + 1) s.size, ?_, ?_, ext_size _ _ _, ?_⟩
            · rw [HE.out]; rfl
            · rw [HE.out]; intro y hy; cases hy
            · exact (((bt ((Below.refl _ w).alloc (Nat.le_refl _) _) hB).setCell (Nat.le_refl _) _).setCell (Nat.le_refl _) _).drew
      · have h1' : ((s[k].toNat : Int) != 61) = true := by simpa using h1
        have H1 : Hid (¬ (s[k].toNat : Int) = 61) := h1
        clear h1
        go_wp2
        go_round
        case rel =>
          refine ⟨k + 1, by omega, by go_num, fun j hj hjk => ?_⟩
          by_cases hjk' : j < k
          · exact HA.out j hj hjk'
          · obtain rfl : j = k := by omega
            show neqP s[j].toNat = true
            unfold neqP; simp; have := H1.out; omega
        case measure => simp [intOf]; omega
    · have HE : Hid (fileB s = none) := file_none s (by show M.lead _ _ = _; rw [M.lead_eq HA.out (by simpa using hk1) (fun h => by simp at h; omega)]; omega)
      have ht : ((k : Int) == s.size) = true := by rw [beq_iff_eq]; omega
      go_wp2
      refine bodyPost_ret (v := .tuple #[.agg #[.string ⟨#[]⟩, .string ⟨#[]⟩], .bool false]) (by simp [results, Tryz.results63, go_sem]) rfl ⟨⟨#[]⟩, ⟨#[]⟩, ?_, ?_, Nat.zero_le _, ?_⟩
      · rw [HE.out]; rfl
      · rw [HE.out]; intro y hy; cases hy
      · exact (Below.refl _ w).alloc (Nat.le_refl _) _
end Go.Proofs.YtgnfknjopafngaaGreatDoor
namespace Go.Proofs.YtgnfknjopafngaaGreatDoor
open Go.RowKit
def StrBlk (w : World) (g : Nat) : Prop := ∃ c f, w.heap[g]? = some (.cells c 9 f)
def CellS (w w' : World) (g o : Nat) : Prop := w'.cell? ⟨g, o, none⟩ = w.cell? ⟨g, o, none⟩ ∧ (StrBlk w' g → StrBlk w g)
theorem CellS.trans {w w1 w2 : World} {g o : Nat} (h : CellS w1 w2 g o) (k : CellS w w1 g o) : CellS w w2 g o := ⟨h.1.trans k.1, fun e => k.2 (h.2 e)⟩
theorem blockS {w w' : World} {g o : Nat} (h : w'.heap[g]? = w.heap[g]?) : CellS w w' g o := ⟨World.cell?_of_block (a := ⟨g, o, none⟩) h, fun ⟨c, f, e⟩ => ⟨c, f, h.symm.trans e⟩⟩
theorem belowS {B : Nat} {w w' : World} {g o : Nat} (h : Below B w w') (hg : g < B) : CellS w w' g o := blockS (h.block g hg)
theorem setS {w : World} {b o : Nat} {v : Value} {g o' : Nat} (h : g ≠ b) : CellS w (w.setCell ⟨b, o, none⟩ v) g o' := blockS (Below.heap_setCell _ _ _ _ h)
def RowIn (w : World) (lo hi : Nat) (v : Value) (n : Nat) (xs : List Value) : Prop :=
  (v = .slice none 0 0 ∧ n = 0 ∧ xs = []) ∨ ∃ g cap, v = .slice (some ⟨g, 0, none⟩) n cap ∧ n ≤ cap ∧ lo ≤ g ∧ (g < hi ∧ (StrBlk w g → xs.length = n)) ∧ ∀ j u, xs[j]? = some u → w.cell? ⟨g, j, none⟩ = some u
theorem RowIn.form {w : World} {lo hi n : Nat} {v : Value} {xs : List Value} (h : RowIn w lo hi v n xs) : ∃ a cap, v = .slice a n cap := by
  obtain ⟨rfl, rfl, rfl⟩ | ⟨g, cap, rfl, _⟩ := h
  · exact ⟨_, _, rfl⟩
  · exact ⟨_, _, rfl⟩
theorem RowIn.keep {w w' : World} {lo hi n : Nat} {v : Value} {xs : List Value} (h : RowIn w lo hi v n xs) (hk : ∀ g o, lo ≤ g → g < hi → CellS w w' g o) : RowIn w' lo hi v n xs := by
  obtain h | ⟨g, cap, h1, h2, h3, h4, h5⟩ := h
  · exact .inl h
  · exact .inr ⟨g, cap, h1, h2, h3, ⟨h4.1, fun e => h4.2 ((hk g 0 h3 h4.1).2 e)⟩, fun j u hj => (hk g j h3 h4.1).1.trans (h5 j u hj)⟩
theorem RowIn.wide {w : World} {lo hi lo' hi' n : Nat} {v : Value} {xs : List Value} (h : RowIn w lo hi v n xs) (h1 : lo' ≤ lo) (h2 : hi ≤ hi') : RowIn w lo' hi' v n xs := by
  obtain h | ⟨g, cap, a, b, c, d, e⟩ := h
  · exact .inl h
  · exact .inr ⟨g, cap, a, b, by omega, ⟨by omega, d.2⟩, e⟩
theorem RowIn.own {w : World} {B e size n : Nat} {v : Value} {xs : List Value} (h : w.ownsRow B e size v n xs) (ht : e = 9 → size = 1 := by decide) : RowIn w B w.heap.size v n xs := by
  have hlt := h.lt
  have hce := fun g hg => h.cells (g := g) hg
  obtain ⟨hl, ⟨rfl, rfl⟩ | ⟨g, cap, cur, rfl, h2, h3, h4, _⟩⟩ := h
  · exact .inl ⟨rfl, rfl, List.length_eq_zero_iff.mp (by omega)⟩
  · refine .inr ⟨g, cap, rfl, h4, h2, ⟨(hlt g rfl).2, fun ⟨c, f, he⟩ => ?_⟩, fun j u hj => ?_⟩
    · rw [h3] at he
      injection he with he
      injection he with _ he
      rw [hl, ht he, Nat.mul_one]
    have := hce g rfl j u hj
    have e2 : ((⟨g, 0, none⟩ : Addr).add j) = ⟨g, j, none⟩ := by unfold Addr.add; by_cases h : j = 0 <;> simp [h]
    rwa [e2] at this
def NeedsIn (w : World) (lo hi : Nat) (v : Value) (l : List (List M.Ch)) : Prop :=
  ∃ vs : List Value, RowIn w lo hi v l.length vs ∧ vs.length = l.length ∧ ∀ (i : Nat) x, l[i]? = some x → ∃ u, vs[i]? = some u ∧ RowIn w lo hi u x.length (chsCells x)
theorem NeedsIn.keep {w w' : World} {lo hi : Nat} {v : Value} {l : List (List M.Ch)} (h : NeedsIn w lo hi v l) (hk : ∀ g o, lo ≤ g → g < hi → CellS w w' g o) : NeedsIn w' lo hi v l := by
  obtain ⟨vs, h1, h2, h3⟩ := h
  exact ⟨vs, h1.keep hk, h2, fun i x hx => by obtain ⟨u, a, b⟩ := h3 i x hx; exact ⟨u, a, b.keep hk⟩⟩
theorem NeedsIn.nil (w : World) (lo hi : Nat) : NeedsIn w lo hi (.slice none 0 0) [] := ⟨[], .inl ⟨rfl, rfl, rfl⟩, rfl, fun i x h => by simp at h⟩
theorem NeedsIn.form {w : World} {lo hi : Nat} {v : Value} {l : List (List M.Ch)} (h : NeedsIn w lo hi v l) : ∃ a cap, v = .slice a l.length cap := by
  obtain ⟨vs, h1, _⟩ := h; exact h1.form
theorem NeedsIn.wide {w : World} {lo hi lo' hi' : Nat} {v : Value} {l : List (List M.Ch)} (h : NeedsIn w lo hi v l) (h1 : lo' ≤ lo) (h2 : hi ≤ hi') : NeedsIn w lo' hi' v l := by
  obtain ⟨vs, a, b, c⟩ := h
  exact ⟨vs, a.wide h1 h2, b, fun i x hx => by obtain ⟨u, d, e⟩ := c i x hx; exact ⟨u, d, e.wide h1 h2⟩⟩
def flCells (f : M.Fl) : List Value := [strV f.path, strV f.content]
def flsCells (l : List M.Fl) : List Value := l.flatMap flCells
theorem flsCells_snoc (l : List M.Fl) (f : M.Fl) : flsCells (l ++ [f]) = flsCells l ++ [strV f.path, strV f.content] := by simp [flsCells, flCells]
theorem flsCells_len (l : List M.Fl) : (flsCells l).length = l.length * 2 := by
  induction l with
  | nil => rfl
  | cons c l ih => simp only [flsCells, List.flatMap_cons, List.length_append] at ih ⊢; rw [ih]; simp [flCells]; omega
structure PAt (w : World) (pb B : Nat) (p : M.Pk) (nv bv fv : Value) : Prop where
  c0 : w.cell? ⟨pb, 0, none⟩ = some (.string ⟨p.name.toArray⟩)
  c1 : w.cell? ⟨pb, 1, none⟩ = some (.string ⟨p.ver.toArray⟩)
  c2 : w.cell? ⟨pb, 2, none⟩ = some nv
  c3 : w.cell? ⟨pb, 3, none⟩ = some bv
  c4 : w.cell? ⟨pb, 4, none⟩ = some fv
  fz : ∀ o, w.frozen? ⟨pb, o, none⟩ = false
  lt : pb < B
  le : B ≤ w.heap.size
  needs : NeedsIn w (pb + 1) B nv p.needs
  bars : RowIn w (pb + 1) B bv p.bars.length (chsCells p.bars)
  files : w.ownsRow B 74 2 fv p.files.length (flsCells p.files)
  nnil : p.needs = [] → nv = .slice none 0 0
  fnil : p.files = [] → fv = .slice none 0 0
def PkAt (w : World) (pb : Nat) (p : M.Pk) : Prop := ∃ B nv bv fv, PAt w pb B p nv bv fv
theorem PAt.below {w w' : World} {pb B : Nat} {p : M.Pk} {nv bv fv : Value} (h : PAt w pb B p nv bv fv) (hb : Below w.heap.size w w') : PAt w' pb B p nv bv fv := by
  have hpb : pb < w.heap.size := Nat.lt_of_lt_of_le h.lt h.le
  have k : ∀ o, w'.cell? ⟨pb, o, none⟩ = w.cell? ⟨pb, o, none⟩ := fun o => hb.cell (p := ⟨pb, o, none⟩) hpb
  have kk : ∀ g o, pb + 1 ≤ g → g < B → CellS w w' g o := fun g o _ hg => belowS hb (Nat.lt_of_lt_of_le hg h.le)
  exact ⟨(k 0).trans h.c0, (k 1).trans h.c1, (k 2).trans h.c2, (k 3).trans h.c3, (k 4).trans h.c4, fun o => (hb.frozen (p := ⟨pb, o, none⟩) hpb).trans (h.fz o), h.lt, Nat.le_trans h.le hb.size, h.needs.keep kk, h.bars.keep kk, own_below h.files hb, h.nnil, h.fnil⟩
end Go.Proofs.YtgnfknjopafngaaGreatDoor
