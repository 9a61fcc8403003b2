import Derived.Test.YtgnfknjopafngaaGreatDoorFmC
/-
  THE DOCUMENT's ANSWER, WALKED: file.
-/
namespace Go.Proofs.YtgnfknjopafngaaGreatDoor
open Go.RowKit

def neqP (c : Int) : Bool := decide (c ≠ 61)
def eqB (s : ByteArray) : Nat := M.lead neqP s.data.toList
theorem eqB_le (s : ByteArray) : eqB s ≤ s.size := by have := M.lead_le neqP s.data.toList; unfold eqB; simpa using this
def fileB (s : ByteArray) : Option M.Fl := M.fileS s.data.toList
def flB (x : Option M.Fl) (a b : List UInt8) : Prop := ∀ y, x = some y → y.path = a ∧ y.content = b

theorem file_none (s : ByteArray) (h : eqB s = s.size) : fileB s = none := by
  unfold fileB M.fileS
  rw [if_pos (by show eqB s = _; simpa using h)]
theorem file_some (s : ByteArray) (h : eqB s < s.size) : fileB s = if isPathB (s.extract 0 (eqB s)) = true ∧ s.size - eqB s - 1 ≤ 24 then some ⟨(s.extract 0 (eqB s)).data.toList, (s.extract (eqB s + 1) s.size).data.toList⟩ else none := by
  unfold fileB M.fileS isPathB
  rw [if_neg (by show ¬ eqB s = _; simp; omega), ext_upto, ext_from]
  simp only [Array.length_toList, ByteArray.size_data]
  rfl

set_option maxRecDepth 100000 in
set_option maxHeartbeats 1000000 in
theorem file_any (s : ByteArray) (w : World) (hl : s.size ≤ 100000) :
    Calls Tryz.prog 63 #[.string s] w fun e w' => ∃ A B : ByteArray, e = .returned (.tuple #[.agg #[.string A, .string B], .bool (fileB s).isSome]) ∧ flB (fileB s) A.data.toList B.data.toList ∧ A.size ≤ s.size ∧ Below w.heap.size w w' := by
  go_enter Tryz.func63, Tryz.ntmps63
  go_wp2
  go_loop [4] (fun i => ∃ k : Nat, k ≤ s.size ∧ i = .int .i64 k ∧ Hid (∀ j (h : j < s.data.toList.length), j < k → neqP (s.data.toList[j]).toNat = true)) (fun i => s.size - (intOf i).toNat)
  case atStart => exact ⟨0, Nat.zero_le _, rfl, fun j _ h => by omega⟩
  case round =>
    obtain ⟨k, hk1, rfl, HA⟩ := hrel
    by_cases hlt : k < s.size
    · by_cases h1 : (s[k].toNat : Int) = 61
      · have h1' : ((s[k].toNat : Int) != 61) = false := by simpa using h1
        have HK : Hid (eqB s = k) := by
          show M.lead _ _ = _
          exact M.lead_eq HA.out (by simpa using hk1) (fun _ => by show neqP s[k].toNat = false; unfold neqP; simp; omega)
        have ht : ((k : Int) == s.size) = false := by rw [beq_eq_false_iff_ne]; omega
        have HF := file_some s (by rw [HK.out]; omega)
        rw [HK.out] at HF
        replace HF : Hid _ := HF
        clear h1
        have cP : ∀ wx, Calls Tryz.prog 104 #[.string (s.extract 0 k)] wx fun e w' => e = .returned (.bool (isPathB (s.extract 0 k))) ∧ Below wx.heap.size wx w' := fun wx =>
          isPath_any _ wx (by have := ext_size s 0 k; omega)
        by_cases hp : isPathB (s.extract 0 k) = true
        · by_cases hc : (s.size : Int) - k - 1 ≤ 24
          · have HE : Hid (fileB s = some ⟨(s.extract 0 k).data.toList, (s.extract (k + 1) s.size).data.toList⟩) := by show _ = _; rw [HF.out, if_pos ⟨hp, by omega⟩]
            clear HF
            go_wp2_with fail
            refine (cP _).mono ?_
            rintro e w1 ⟨rfl, hB⟩
            obtain ⟨hcl, hfz⟩ := bcell hB
            have hz : w.heap.size < w1.heap.size := by have := hB.size; simp at this; omega
            go_wp2
            go_region
            all_goals
              go_wp2
              refine bodyPost_ret (v := .tuple #[.agg #[.string (s.extract 0 k), .string (s.extract (k + 1) s.size)], .bool true]) (by simp [results, Tryz.results63, go_sem, hcl]) rfl ⟨s.extract 0 k, s.extract (k + 1) s.size, ?_, ?_, ext_size _ _ _, ?_⟩
              · rw [HE.out]; rfl
              · rw [HE.out]; intro y hy; cases hy; exact ⟨rfl, rfl⟩
              · exact (((bt ((Below.refl _ w).alloc (Nat.le_refl _) _) hB).setCell (Nat.le_refl _) _).setCell (Nat.le_refl _) _).drew
          · have HE : Hid (fileB s = none) := by show _ = _; rw [HF.out, if_neg (fun h => by have := h.2; omega)]
            have hd : decide ((s.size : Int) - k - 1 ≤ 24) = false := by simp; omega
            clear HF hc
            go_wp2_with fail
            refine (cP _).mono ?_
            rintro e w1 ⟨rfl, hB⟩
            obtain ⟨hcl, hfz⟩ := bcell hB
            have hz : w.heap.size < w1.heap.size := by have := hB.size; simp at this; omega
            go_wp2
            go_region
            all_goals
              go_wp2
              refine bodyPost_ret (v := .tuple #[.agg #[.string (s.extract 0 k), .string (s.extract (k + 1) s.size)], .bool false]) (by simp [results, Tryz.results63, go_sem, hcl]) rfl ⟨s.extract 0 k, s.extract (k + 1) s.size, ?_, ?_, ext_size _ _ _, ?_⟩
              · rw [HE.out]; rfl
              · rw [HE.out]; intro y hy; cases hy
              · exact (((bt ((Below.refl _ w).alloc (Nat.le_refl _) _) hB).setCell (Nat.le_refl _) _).setCell (Nat.le_refl _) _).drew
        · have hp' : isPathB (s.extract 0 k) = false := by simpa using hp
          have HE : Hid (fileB s = none) := by show _ = _; rw [HF.out, if_neg (fun h => hp h.1)]
          clear HF hp
          go_wp2_with fail
          refine (cP _).mono ?_
          rintro e w1 ⟨rfl, hB⟩
          obtain ⟨hcl, hfz⟩ := bcell hB
          have hz : w.heap.size < w1.heap.size := by have := hB.size; simp at this; omega
          go_wp2
          go_region
          all_goals
            go_wp2
            refine bodyPost_ret (v := .tuple #[.agg #[.string (s.extract 0 k), .string (s.extract (k + 1) s.size)], .bool false]) (by simp [results, Tryz.results63, go_sem, hcl]) rfl ⟨s.extract 0 k, s.extract (k + 1) s.size, ?_, ?_, ext_size _ _ _, ?_⟩
            · rw [HE.out]; rfl
            · rw [HE.out]; intro y hy; cases hy
            · exact (((bt ((Below.refl _ w).alloc (Nat.le_refl _) _) hB).setCell (Nat.le_refl _) _).setCell (Nat.le_refl _) _).drew
      · have h1' : ((s[k].toNat : Int) != 61) = true := by simpa using h1
        have H1 : Hid (¬ (s[k].toNat : Int) = 61) := h1
        clear h1
        go_wp2
        go_round
        case rel =>
          refine ⟨k + 1, by omega, by go_num, fun j hj hjk => ?_⟩
          by_cases hjk' : j < k
          · exact HA.out j hj hjk'
          · obtain rfl : j = k := by omega
            show neqP s[j].toNat = true
            unfold neqP; simp; have := H1.out; omega
        case measure => simp [intOf]; omega
    · have HE : Hid (fileB s = none) := file_none s (by show M.lead _ _ = _; rw [M.lead_eq HA.out (by simpa using hk1) (fun h => by simp at h; omega)]; omega)
      have ht : ((k : Int) == s.size) = true := by rw [beq_iff_eq]; omega
      go_wp2
      refine bodyPost_ret (v := .tuple #[.agg #[.string ⟨#[]⟩, .string ⟨#[]⟩], .bool false]) (by simp [results, Tryz.results63, go_sem]) rfl ⟨⟨#[]⟩, ⟨#[]⟩, ?_, ?_, Nat.zero_le _, ?_⟩
      · rw [HE.out]; rfl
      · rw [HE.out]; intro y hy; cases hy
      · exact (Below.refl _ w).alloc (Nat.le_refl _) _
end Go.Proofs.YtgnfknjopafngaaGreatDoor
/-
  THE DOCUMENT's ANSWER, WALKED: how a package lies in memory; line: the first one, and those that are none.
-/
namespace Go.Proofs.YtgnfknjopafngaaGreatDoor
open Go.RowKit

/-- A slice that is read: its cells lie in a block between two numbers. -/
def RowIn (w : World) (lo hi : Nat) (v : Value) (n : Nat) (xs : List Value) : Prop :=
  (v = .slice none 0 0 ∧ n = 0 ∧ xs = []) ∨ ∃ g cap, v = .slice (some ⟨g, 0, none⟩) n cap ∧ n ≤ cap ∧ lo ≤ g ∧ g < hi ∧ ∀ j u, xs[j]? = some u → w.cell? ⟨g, j, none⟩ = some u
theorem RowIn.form {w : World} {lo hi n : Nat} {v : Value} {xs : List Value} (h : RowIn w lo hi v n xs) : ∃ a cap, v = .slice a n cap := by
  obtain ⟨rfl, rfl, rfl⟩ | ⟨g, cap, rfl, _⟩ := h
  · exact ⟨_, _, rfl⟩
  · exact ⟨_, _, rfl⟩
theorem RowIn.keep {w w' : World} {lo hi n : Nat} {v : Value} {xs : List Value} (h : RowIn w lo hi v n xs) (hk : ∀ g o, lo ≤ g → g < hi → w'.cell? ⟨g, o, none⟩ = w.cell? ⟨g, o, none⟩) : RowIn w' lo hi v n xs := by
  obtain h | ⟨g, cap, h1, h2, h3, h4, h5⟩ := h
  · exact .inl h
  · exact .inr ⟨g, cap, h1, h2, h3, h4, fun j u hj => (hk g j h3 h4).trans (h5 j u hj)⟩
theorem RowIn.wide {w : World} {lo hi lo' hi' n : Nat} {v : Value} {xs : List Value} (h : RowIn w lo hi v n xs) (h1 : lo' ≤ lo) (h2 : hi ≤ hi') : RowIn w lo' hi' v n xs := by
  obtain h | ⟨g, cap, a, b, c, d, e⟩ := h
  · exact .inl h
  · exact .inr ⟨g, cap, a, b, by omega, by omega, e⟩
theorem RowIn.own {w : World} {B e size n : Nat} {v : Value} {xs : List Value} (h : w.ownsRow B e size v n xs) : RowIn w B w.heap.size v n xs := by
  have hlt := h.lt
  have hce := fun g hg => h.cells (g := g) hg
  obtain ⟨hl, ⟨rfl, rfl⟩ | ⟨g, cap, cur, rfl, h2, h3, h4, _⟩⟩ := h
  · exact .inl ⟨rfl, rfl, List.length_eq_zero_iff.mp (by omega)⟩
  · refine .inr ⟨g, cap, rfl, h4, h2, (hlt g rfl).2, fun j u hj => ?_⟩
    have := hce g rfl j u hj
    have e2 : ((⟨g, 0, none⟩ : Addr).add j) = ⟨g, j, none⟩ := by unfold Addr.add; by_cases h : j = 0 <;> simp [h]
    rwa [e2] at this

def NeedsIn (w : World) (lo hi : Nat) (v : Value) (l : List (List M.Ch)) : Prop :=
  ∃ vs : List Value, RowIn w lo hi v l.length vs ∧ vs.length = l.length ∧ ∀ (i : Nat) x, l[i]? = some x → ∃ u, vs[i]? = some u ∧ RowIn w lo hi u x.length (chsCells x)
theorem NeedsIn.keep {w w' : World} {lo hi : Nat} {v : Value} {l : List (List M.Ch)} (h : NeedsIn w lo hi v l) (hk : ∀ g o, lo ≤ g → g < hi → w'.cell? ⟨g, o, none⟩ = w.cell? ⟨g, o, none⟩) : NeedsIn w' lo hi v l := by
  obtain ⟨vs, h1, h2, h3⟩ := h
  exact ⟨vs, h1.keep hk, h2, fun i x hx => by obtain ⟨u, a, b⟩ := h3 i x hx; exact ⟨u, a, b.keep hk⟩⟩
theorem NeedsIn.nil (w : World) (lo hi : Nat) : NeedsIn w lo hi (.slice none 0 0) [] := ⟨[], .inl ⟨rfl, rfl, rfl⟩, rfl, fun i x h => by simp at h⟩
theorem NeedsIn.form {w : World} {lo hi : Nat} {v : Value} {l : List (List M.Ch)} (h : NeedsIn w lo hi v l) : ∃ a cap, v = .slice a l.length cap := by
  obtain ⟨vs, h1, _⟩ := h; exact h1.form
theorem NeedsIn.wide {w : World} {lo hi lo' hi' : Nat} {v : Value} {l : List (List M.Ch)} (h : NeedsIn w lo hi v l) (h1 : lo' ≤ lo) (h2 : hi ≤ hi') : NeedsIn w lo' hi' v l := by
  obtain ⟨vs, a, b, c⟩ := h
  exact ⟨vs, a.wide h1 h2, b, fun i x hx => by obtain ⟨u, d, e⟩ := c i x hx; exact ⟨u, d, e.wide h1 h2⟩⟩

def flCells (f : M.Fl) : List Value := [strV f.path, strV f.content]
def flsCells (l : List M.Fl) : List Value := l.flatMap flCells
theorem flsCells_snoc (l : List M.Fl) (f : M.Fl) : flsCells (l ++ [f]) = flsCells l ++ [strV f.path, strV f.content] := by simp [flsCells, flCells]
theorem flsCells_len (l : List M.Fl) : (flsCells l).length = l.length * 2 := by
  induction l with
  | nil => rfl
  | cons c l ih => simp only [flsCells, List.flatMap_cons, List.length_append] at ih ⊢; rw [ih]; simp [flCells]; omega

/-- A package in memory: its five cells in block pb; what they lead to lies behind it, its files' row behind all else. -/
structure PAt (w : World) (pb B : Nat) (p : M.Pk) (nv bv fv : Value) : Prop where
  c0 : w.cell? ⟨pb, 0, none⟩ = some (.string ⟨p.name.toArray⟩)
  c1 : w.cell? ⟨pb, 1, none⟩ = some (.string ⟨p.ver.toArray⟩)
  c2 : w.cell? ⟨pb, 2, none⟩ = some nv
  c3 : w.cell? ⟨pb, 3, none⟩ = some bv
  c4 : w.cell? ⟨pb, 4, none⟩ = some fv
  fz : ∀ o, w.frozen? ⟨pb, o, none⟩ = false
  lt : pb < B
  le : B ≤ w.heap.size
  needs : NeedsIn w (pb + 1) B nv p.needs
  bars : RowIn w (pb + 1) B bv p.bars.length (chsCells p.bars)
  files : w.ownsRow B 74 2 fv p.files.length (flsCells p.files)
  nnil : p.needs = [] → nv = .slice none 0 0
  fnil : p.files = [] → fv = .slice none 0 0
def PkAt (w : World) (pb : Nat) (p : M.Pk) : Prop := ∃ B nv bv fv, PAt w pb B p nv bv fv

/-- A package lies as it lay where its blocks are as they were. -/
theorem PAt.below {w w' : World} {pb B : Nat} {p : M.Pk} {nv bv fv : Value} (h : PAt w pb B p nv bv fv) (hb : Below w.heap.size w w') : PAt w' pb B p nv bv fv := by
  have hpb : pb < w.heap.size := Nat.lt_of_lt_of_le h.lt h.le
  have k : ∀ o, w'.cell? ⟨pb, o, none⟩ = w.cell? ⟨pb, o, none⟩ := fun o => hb.cell (p := ⟨pb, o, none⟩) hpb
  have kk : ∀ g o, pb + 1 ≤ g → g < B → w'.cell? ⟨g, o, none⟩ = w.cell? ⟨g, o, none⟩ := fun g o _ hg => hb.cell (p := ⟨g, o, none⟩) (Nat.lt_of_lt_of_le hg h.le)
  exact ⟨(k 0).trans h.c0, (k 1).trans h.c1, (k 2).trans h.c2, (k 3).trans h.c3, (k 4).trans h.c4, fun o => (hb.frozen (p := ⟨pb, o, none⟩) hpb).trans (h.fz o), h.lt, Nat.le_trans h.le hb.size, h.needs.keep kk, h.bars.keep kk, own_below h.files hb, h.nnil, h.fnil⟩

end Go.Proofs.YtgnfknjopafngaaGreatDoor
/-
  THE DOCUMENT's ANSWER, WALKED: line: the first one.
-/
namespace Go.Proofs.YtgnfknjopafngaaGreatDoor
open Go.RowKit

theorem size_set (w : World) (a : Addr) (v : Value) : (w.setCell a v).heap.size = w.heap.size := by simp [World.setCell]
theorem cell_set_block (w : World) (b o : Nat) (v : Value) (g o' : Nat) (h : g ≠ b) : (w.setCell ⟨b, o, none⟩ v).cell? ⟨g, o', none⟩ = w.cell? ⟨g, o', none⟩ :=
  World.cell?_setCell_other _ _ _ _ (by intro e; cases e; exact h rfl)
theorem cell_set_off (w : World) (b o : Nat) (v : Value) (o' : Nat) (h : o' ≠ o) : (w.setCell ⟨b, o, none⟩ v).cell? ⟨b, o', none⟩ = w.cell? ⟨b, o', none⟩ :=
  World.cell?_setCell_other _ _ _ _ (by intro e; cases e; exact h rfl)

theorem PAt.title {w : World} {pb B : Nat} {p : M.Pk} {nv bv fv : Value} (h : PAt w pb B p nv bv fv) (X Y : ByteArray) :
    PAt ((w.setCell ⟨pb, 0, none⟩ (.string X)).setCell ⟨pb, 1, none⟩ (.string Y)) pb B { p with name := X.data.toList, ver := Y.data.toList } nv bv fv := by
  have kk : ∀ g o, pb + 1 ≤ g → g < B → ((w.setCell ⟨pb, 0, none⟩ (.string X)).setCell ⟨pb, 1, none⟩ (.string Y)).cell? ⟨g, o, none⟩ = w.cell? ⟨g, o, none⟩ := fun g o hg _ => by
    rw [cell_set_block _ _ _ _ _ _ (by omega), cell_set_block _ _ _ _ _ _ (by omega)]
  have k1 : (w.setCell ⟨pb, 0, none⟩ (.string X)).cell? ⟨pb, 1, none⟩ = some (.string ⟨p.ver.toArray⟩) := (cell_set_off _ _ _ _ _ (by decide)).trans h.c1
  refine ⟨?_, ?_, ?_, ?_, ?_, fun o => ?_, h.lt, ?_, h.needs.keep kk, h.bars.keep kk, ?_, h.nnil, h.fnil⟩
  · rw [cell_set_off _ _ _ _ _ (by decide), World.cell?_setCell_same _ _ _ h.c0]
  · rw [World.cell?_setCell_same _ _ _ k1]
  · rw [cell_set_off _ _ _ _ _ (by decide), cell_set_off _ _ _ _ _ (by decide)]; exact h.c2
  · rw [cell_set_off _ _ _ _ _ (by decide), cell_set_off _ _ _ _ _ (by decide)]; exact h.c3
  · rw [cell_set_off _ _ _ _ _ (by decide), cell_set_off _ _ _ _ _ (by decide)]; exact h.c4
  · rw [World.frozen?_setCell, World.frozen?_setCell]; exact h.fz o
  · rw [size_set, size_set]; exact h.le
  · exact ownsRow_setCell_below (ownsRow_setCell_below h.files h.lt _) h.lt _

def titleB (s : ByteArray) : Option (List UInt8 × List UInt8) := M.titleS s.data.toList
theorem title_3 (s P0 P1 P2 : ByteArray) (h : cutB s ⟨#[32]⟩ = [P0.data.toList, P1.data.toList, P2.data.toList]) :
    titleB s = if (P0.toList == [112, 97, 99, 107, 97, 103, 101]) = true ∧ isNameB P1 = true ∧ isVerB P2 = true then some (P1.data.toList, P2.data.toList) else none := by
  unfold titleB M.titleS
  rw [show M.cutS s.data.toList [32] = cutB s ⟨#[32]⟩ from rfl, h, Lib.toList_data]
  rfl
theorem title_no (s : ByteArray) (h3 : (cutB s ⟨#[32]⟩).length ≠ 3) : titleB s = none := by
  unfold titleB M.titleS
  rw [show M.cutS s.data.toList [32] = cutB s ⟨#[32]⟩ from rfl]
  split
  · rename_i e; rw [e] at h3; simp at h3
  · rfl

/-- What the first line leaves: the title, if it is one. -/
def TitlePost (s : ByteArray) (pb B : Nat) (p : M.Pk) (nv bv fv : Value) (w : World) (e : Ending) (w' : World) : Prop :=
  e = .returned (.bool (titleB s).isSome) ∧ (∀ a b, titleB s = some (a, b) → PAt w' pb B { p with name := a, ver := b } nv bv fv) ∧ Below pb w w'

set_option maxRecDepth 100000 in
set_option maxHeartbeats 2000000 in
theorem line0_three (s P0 P1 P2 : ByteArray) (w : World) (pb B : Nat) (p : M.Pk) (nv bv fv : Value) (hP : PAt w pb B p nv bv fv) (hl : s.size ≤ 100000) (h : cutB s ⟨#[32]⟩ = [P0.data.toList, P1.data.toList, P2.data.toList]) :
    Calls Tryz.prog 37 #[.pointer (some ⟨pb, 0, none⟩), .int .i64 0, .string s] w (TitlePost s pb B p nv bv fv w) := by
  have hP1 : P1.size ≤ s.size := piece_size (ps := [P0, P1, P2]) h P1 (by simp)
  have hP2 : P2.size ≤ s.size := piece_size (ps := [P0, P1, P2]) h P2 (by simp)
  have cC := fun wx => cut_c s ⟨#[32]⟩ wx (by decide) (by omega) (by decide) [P0, P1, P2] h
  have HT := title_3 s P0 P1 P2 h
  replace HT : Hid _ := HT
  clear h
  have hpw : pb < w.heap.size := Nat.lt_of_lt_of_le hP.lt hP.le
  by_cases h0 : (P0.toList == [112, 97, 99, 107, 97, 103, 101]) = true
  · have hr : ∃ r : Bool, Hid ((titleB s).isSome = r) ∧ (isNameB P1 = true ∧ isVerB P2 = r ∨ isNameB P1 = false ∧ r = false) := by
      cases hn : isNameB P1 with
      | false => exact ⟨false, by show _ = _; rw [HT.out]; simp [hn], .inr ⟨rfl, rfl⟩⟩
      | true =>
        cases hv : isVerB P2 with
        | false => exact ⟨false, by show _ = _; rw [HT.out]; simp [hv], .inl ⟨rfl, rfl⟩⟩
        | true => exact ⟨true, by show _ = _; rw [HT.out]; simp [h0, hn, hv], .inl ⟨rfl, rfl⟩⟩
    obtain ⟨r, HR, hr⟩ := hr
    rcases hr with ⟨hn, hv⟩ | ⟨hn, rfl⟩
    all_goals
      go_enter Tryz.func37, Tryz.ntmps37
      go_wp2_with fail
      refine (cC _).mono ?_
      rintro e w1 ⟨g, cap, rfl, hg1, hg2, hcap, hc, hB⟩
      have c0 : w1.cell? ⟨g, 0, none⟩ = some (.string P0) := hc 0 (by simp)
      have c1 : w1.cell? ⟨g, 1, none⟩ = some (.string P1) := hc 1 (by simp)
      have c2 : w1.cell? ⟨g, 2, none⟩ = some (.string P2) := hc 2 (by simp)
      clear hc cC
      have hQ := hP.below hB
      have HQ : Hid (PAt w1 pb B p nv bv fv) := hQ
      have hgp : g ≠ pb := by omega
      have q0 := hQ.c0
      have q1 := hQ.c1
      have qf := hQ.fz
      clear hQ
      simp only [List.length_cons, List.length_nil, Nat.zero_add] at hcap ⊢
      go_wp2_with (first | (go_at_call 59; refine (isName_any _ _ (by omega)).mono ?_; rintro e w' ⟨rfl, rfl⟩) | (go_at_call 60; refine (isVersion_any _ _ (by omega)).mono ?_; rintro e w' ⟨rfl, rfl⟩))
      go_ret
      refine ⟨ret_bool HR.out.symm, ?_, ?_⟩
      · intro a b hab
        rw [HT.out] at hab
        split at hab
        · cases hab; exact HQ.out.title P1 P2
        · cases hab
      · exact ((hB.mono (show pb ≤ w.heap.size by omega)).setCell (Nat.le_refl _) _).setCell (Nat.le_refl _) _
  · have h0' : (P0.toList == [112, 97, 99, 107, 97, 103, 101]) = false := by simpa using h0
    have HE : Hid (titleB s = none) := by show _ = _; rw [HT.out, if_neg (fun h => h0 h.1)]
    clear h0 HT
    go_enter Tryz.func37, Tryz.ntmps37
    go_wp2_with fail
    refine (cC _).mono ?_
    rintro e w1 ⟨g, cap, rfl, hg1, hg2, hcap, hc, hB⟩
    have c0 : w1.cell? ⟨g, 0, none⟩ = some (.string P0) := hc 0 (by simp)
    clear hc cC
    simp only [List.length_cons, List.length_nil, Nat.zero_add] at hcap ⊢
    go_wp2
    go_ret
    exact ⟨ret_bool (by rw [HE.out]; rfl), (fun a b h => by rw [HE.out] at h; cases h), hB.mono (by have := hP.lt; have := hP.le; omega)⟩

set_option maxRecDepth 100000 in
set_option maxHeartbeats 1000000 in
theorem line0_many (s : ByteArray) (ps : List ByteArray) (w : World) (pb B : Nat) (p : M.Pk) (nv bv fv : Value) (hP : PAt w pb B p nv bv fv) (hl : s.size ≤ 100000) (h : cutB s ⟨#[32]⟩ = ps.map (fun p => p.data.toList)) (h3 : ps.length ≠ 3) :
    Calls Tryz.prog 37 #[.pointer (some ⟨pb, 0, none⟩), .int .i64 0, .string s] w (TitlePost s pb B p nv bv fv w) := by
  have cC := fun wx => cut_c s ⟨#[32]⟩ wx (by decide) (by omega) (by decide) ps h
  have HE : Hid (titleB s = none) := title_no s (by rw [h]; simpa using h3)
  have hn : ps.length ≤ 100001 := by
    have e : (cutB s ⟨#[32]⟩).length = ps.length := by rw [h]; simp
    have : (cutB s ⟨#[32]⟩).length ≤ s.data.toList.length + 1 := (M.cutS_len s.data.toList [32]).2
    simp only [Array.length_toList, ByteArray.size_data] at this
    omega
  have t3 : ((ps.length : Int) != 3) = true := by rw [bne_iff_ne]; omega
  clear h
  go_enter Tryz.func37, Tryz.ntmps37
  go_wp2_with fail
  refine (cC _).mono ?_
  rintro e w1 ⟨g, cap, rfl, hg1, hg2, hcap, hc, hB⟩
  clear hc cC
  go_wp2
  go_ret
  exact ⟨ret_bool (by rw [HE.out]; rfl), (fun a b h => by rw [HE.out] at h; cases h), hB.mono (by have := hP.lt; have := hP.le; omega)⟩

theorem line0_any (s : ByteArray) (w : World) (pb B : Nat) (p : M.Pk) (nv bv fv : Value) (hP : PAt w pb B p nv bv fv) (hl : s.size ≤ 100000) :
    Calls Tryz.prog 37 #[.pointer (some ⟨pb, 0, none⟩), .int .i64 0, .string s] w (TitlePost s pb B p nv bv fv w) := by
  obtain ⟨ps, hps⟩ := bytes_list (cutB s ⟨#[32]⟩)
  by_cases h3 : ps.length = 3
  · match ps, h3, hps with
    | [P0, P1, P2], _, hps => exact line0_three s P0 P1 P2 w pb B p nv bv fv hP hl hps
  · exact line0_many s ps w pb B p nv bv fv hP hl hps h3
end Go.Proofs.YtgnfknjopafngaaGreatDoor
/-
  THE DOCUMENT's ANSWER, WALKED: line: those that are none; bars.
-/
namespace Go.Proofs.YtgnfknjopafngaaGreatDoor
open Go.RowKit

def needsT : ByteArray := ⟨#[110, 101, 101, 100, 115, 32]⟩
def barsT : ByteArray := ⟨#[98, 97, 114, 115, 32]⟩
def fileT : ByteArray := ⟨#[102, 105, 108, 101, 32]⟩
theorem begins_head {s : List UInt8} {a b : UInt8} {t r : List UInt8} (h : M.begins s (a :: t) = true) (k : M.begins s (b :: r) = true) : a = b := by
  unfold M.begins at h k
  cases s with
  | nil => simp at h
  | cons c s => simp at h k; rw [← h.2.1, ← k.2.1]
theorem excl {s : List UInt8} {a b : UInt8} {t r : List UInt8} (h : M.begins s (a :: t) = true) (hab : a ≠ b) : M.begins s (b :: r) = false := by
  cases k : M.begins s (b :: r) with
  | false => rfl
  | true => exact absurd (begins_head h k) hab

/-- What a line that is not the first leaves. -/
def LinePost (s : ByteArray) (k pb : Nat) (p : M.Pk) (w : World) (e : Ending) (w' : World) : Prop :=
  e = .returned (.bool (M.lineS p k s.data.toList).isSome) ∧ (∀ p', M.lineS p k s.data.toList = some p' → PkAt w' pb p') ∧ Below pb w w'

set_option maxRecDepth 100000 in
set_option maxHeartbeats 2000000 in
/-- A line that begins otherwise, or stands where it may not. -/
theorem line_none (s : ByteArray) (k : Nat) (w : World) (pb B : Nat) (p : M.Pk) (nv bv fv : Value) (hP : PAt w pb B p nv bv fv) (hk : 0 < k) (hk2 : k ≤ 1000000)
    (hn : p.needs.length ≤ 1000000) (hb : p.bars.length ≤ 1000000) (hf : p.files.length ≤ 1000000)
    (h1 : ¬ (M.begins s.data.toList M.needsW = true ∧ p.needs.length + p.bars.length + p.files.length = 0))
    (h2 : ¬ (M.begins s.data.toList M.barsW = true ∧ p.bars.length + p.files.length = 0))
    (h3 : ¬ (M.begins s.data.toList M.fileW = true ∧ p.files.length < 4)) :
    Calls Tryz.prog 37 #[.pointer (some ⟨pb, 0, none⟩), .int .i64 k, .string s] w (LinePost s k pb p w) := by
  have HE : Hid (M.lineS p k s.data.toList = none) := by
    show _ = _
    unfold M.lineS
    rw [if_neg (by omega), if_neg h1, if_neg h2, if_neg h3]
  have hc : (beginsB s needsT = true ∧ beginsB s barsT = false ∧ beginsB s fileT = false ∧ ((p.needs.length : Int) + p.bars.length + p.files.length == 0) = false) ∨
      (beginsB s needsT = false ∧ beginsB s barsT = true ∧ beginsB s fileT = false ∧ ((p.bars.length : Int) + p.files.length == 0) = false) ∨
      (beginsB s needsT = false ∧ beginsB s barsT = false ∧ beginsB s fileT = true ∧ decide ((p.files.length : Int) < 4) = false) ∨
      (beginsB s needsT = false ∧ beginsB s barsT = false ∧ beginsB s fileT = false) := by
    cases e1 : M.begins s.data.toList M.needsW with
    | true =>
      refine .inl ⟨e1, excl e1 (by decide), excl e1 (by decide), ?_⟩
      rw [beq_eq_false_iff_ne]; intro e; exact h1 ⟨e1, by omega⟩
    | false =>
      cases e2 : M.begins s.data.toList M.barsW with
      | true =>
        refine .inr (.inl ⟨e1, e2, excl e2 (by decide), ?_⟩)
        rw [beq_eq_false_iff_ne]; intro e; exact h2 ⟨e2, by omega⟩
      | false =>
        cases e3 : M.begins s.data.toList M.fileW with
        | true =>
          refine .inr (.inr (.inl ⟨e1, e2, e3, ?_⟩))
          rw [decide_eq_false_iff_not]; intro e; exact h3 ⟨e3, by omega⟩
        | false => exact .inr (.inr (.inr ⟨e1, e2, e3⟩))
  clear h1 h2 h3
  have hk0 : ((k : Int) == 0) = false := by rw [beq_eq_false_iff_ne]; omega
  obtain ⟨an, cn, en⟩ := hP.needs.form
  obtain ⟨ab, cb, eb⟩ := hP.bars.form
  obtain ⟨af, cf, ef⟩ := own_form hP.files
  subst en eb ef
  have q2 := hP.c2
  have q3 := hP.c3
  have q4 := hP.c4
  have cB := fun wx t => begins_any s t wx
  rcases hc with ⟨b1, b2, b3, hd⟩ | ⟨b1, b2, b3, hd⟩ | ⟨b1, b2, b3, hd⟩ | ⟨b1, b2, b3⟩
  all_goals
    go_enter Tryz.func37, Tryz.ntmps37
    go_wp2_with fail
    refine (cB _ needsT).mono ?_
    rintro e w' ⟨rfl, rfl⟩
    go_wp2_with fail
    refine (cB _ barsT).mono ?_
    rintro e w' ⟨rfl, rfl⟩
    go_wp2_with fail
    refine (cB _ fileT).mono ?_
    rintro e w' ⟨rfl, rfl⟩
    go_wp2
    go_quiet (fail)
    go_wp2
    go_quiet (fail)
    go_wp2
    go_ret
    exact ⟨ret_bool (by rw [HE.out]; rfl), (fun p' h => by rw [HE.out] at h; cases h), below_drewN (Below.refl _ _) _⟩

/-- The bars are stored. -/
theorem PAt.bars' {w w1 : World} {pb B : Nat} {p : M.Pk} {nv bv fv v : Value} {l : List M.Ch} (h : PAt w pb B p nv bv fv) (hb : Below w.heap.size w w1) (hf : p.files = [])
    (ho : w1.ownsRow w.heap.size 125 3 v l.length (chsCells l)) : PAt (w1.setCell ⟨pb, 3, none⟩ v) pb w1.heap.size { p with bars := l } nv v fv := by
  have h1 := h.below hb
  have hpb : pb < w.heap.size := Nat.lt_of_lt_of_le h.lt h.le
  have hz := hb.size
  have kk : ∀ g o, pb + 1 ≤ g → g < B → (w1.setCell ⟨pb, 3, none⟩ v).cell? ⟨g, o, none⟩ = w1.cell? ⟨g, o, none⟩ := fun g o hg _ => cell_set_block _ _ _ _ _ _ (by omega)
  have kk' : ∀ g o, w.heap.size ≤ g → g < w1.heap.size → (w1.setCell ⟨pb, 3, none⟩ v).cell? ⟨g, o, none⟩ = w1.cell? ⟨g, o, none⟩ := fun g o hg _ => cell_set_block _ _ _ _ _ _ (by omega)
  have e := h.fnil hf
  subst e
  refine ⟨?_, ?_, ?_, ?_, ?_, fun o => ?_, by omega, by rw [size_set]; exact Nat.le_refl _, (h1.needs.keep kk).wide (Nat.le_refl _) h1.le, ((RowIn.own ho).keep kk').wide (by omega) (Nat.le_refl _), ?_, h.nnil, fun _ => rfl⟩
  · rw [cell_set_off _ _ _ _ _ (by decide)]; exact h1.c0
  · rw [cell_set_off _ _ _ _ _ (by decide)]; exact h1.c1
  · rw [cell_set_off _ _ _ _ _ (by decide)]; exact h1.c2
  · rw [World.cell?_setCell_same _ _ _ h1.c3]
  · rw [cell_set_off _ _ _ _ _ (by decide)]; exact h1.c4
  · rw [World.frozen?_setCell]; exact h1.fz o
  · show World.ownsRow _ _ _ _ _ p.files.length (flsCells p.files)
    rw [hf]; exact World.ownsRow_nil _ _ _ _

set_option maxRecDepth 100000 in
set_option maxHeartbeats 2000000 in
theorem line_bars (s : ByteArray) (k : Nat) (w : World) (pb B : Nat) (p : M.Pk) (nv bv fv : Value) (hP : PAt w pb B p nv bv fv) (hk : 0 < k) (hk2 : k ≤ 1000000) (hl : s.size ≤ 100000)
    (h2 : M.begins s.data.toList M.barsW = true) (h2' : p.bars.length + p.files.length = 0) :
    Calls Tryz.prog 37 #[.pointer (some ⟨pb, 0, none⟩), .int .i64 k, .string s] w (LinePost s k pb p w) := by
  have b1 : beginsB s needsT = false := excl h2 (by decide)
  have b2 : beginsB s barsT = true := h2
  have b3 : beginsB s fileT = false := excl h2 (by decide)
  have hb0 : p.bars.length = 0 := by omega
  have hf0 : p.files.length = 0 := by omega
  have hs5 : 5 ≤ s.size := by unfold M.begins at h2; simp [M.barsW] at h2; omega
  have HE : Hid (M.lineS p k s.data.toList = (choicesB (s.extract 5 s.size) ⟨#[44, 32]⟩ 3).map (fun l => { p with bars := l })) := by
    show _ = _
    unfold M.lineS choicesB
    rw [if_neg (by omega), if_neg (fun h => by rw [show M.begins s.data.toList M.needsW = false from b1] at h; exact absurd h.1 (by decide)), if_pos ⟨h2, h2'⟩, ext_from]
    show (match M.choicesS (s.data.toList.drop 5) [44, 32] 3 with | none => none | some l => some { p with bars := l }) = _
    cases M.choicesS (s.data.toList.drop 5) [44, 32] 3 <;> rfl
  have hk0 : ((k : Int) == 0) = false := by rw [beq_eq_false_iff_ne]; omega
  have HF : Hid (p.files = []) := List.length_eq_zero_iff.mp hf0
  obtain ⟨an, cn, en⟩ := hP.needs.form
  obtain ⟨ab, cb, eb⟩ := hP.bars.form
  obtain ⟨af, cf, ef⟩ := own_form hP.files
  rw [hb0] at eb
  rw [hf0] at ef
  subst en eb ef
  clear hb0 hf0 h2 h2'
  have q2 := hP.c2
  have q3 := hP.c3
  have q4 := hP.c4
  have cB := fun wx t => begins_any s t wx
  have cC := fun wx => choices_any (s.extract 5 s.size) ⟨#[44, 32]⟩ 3 wx (by decide) (by have := ext_size s 5 s.size; omega) (by decide) (by decide)
  go_enter Tryz.func37, Tryz.ntmps37
  go_wp2_with fail
  refine (cB _ needsT).mono ?_
  rintro e w' ⟨rfl, rfl⟩
  go_wp2_with fail
  refine (cB _ barsT).mono ?_
  rintro e w' ⟨rfl, rfl⟩
  go_wp2_with fail
  refine (cB _ fileT).mono ?_
  rintro e w' ⟨rfl, rfl⟩
  go_wp2
  go_quiet (fail)
  go_wp2
  go_quiet (fail)
  go_wp2_with fail
  refine (cC _).mono ?_
  rintro e w1 ⟨v, l, rfl, hown, hx, hll, hB1⟩
  have HP1 : Hid (PAt (w1.setCell ⟨pb, 3, none⟩ v) pb w1.heap.size { p with bars := l } _ v _) := PAt.bars' (hP.below (below_same _ _)) hB1 HF.out hown
  have hQ := (hP.below (below_same w' _)).below hB1
  have r3 := hQ.c3
  have rf := hQ.fz
  have hpw : pb < w'.heap.size := Nat.lt_of_lt_of_le hP.lt hP.le
  clear hQ q2 q3 q4
  obtain ⟨av, cv, ev⟩ := own_form hown
  subst ev
  have HX : Hid (∀ x, choicesB (s.extract 5 s.size) ⟨#[44, 32]⟩ 3 = some x → x = l) := hx
  clear hx hown
  go_wp2
  go_ret
  refine ⟨ret_bool ?_, ?_, ?_⟩
  · rw [HE.out, Option.isSome_map]
  · intro p' hp'
    rw [HE.out] at hp'
    cases hc : choicesB (s.extract 5 s.size) ⟨#[44, 32]⟩ 3 with
    | none => rw [hc] at hp'; cases hp'
    | some x =>
      rw [hc] at hp'
      have := HX.out x hc
      subst this
      cases hp'
      exact ⟨_, _, _, _, HP1.out⟩
  · exact (((below_same w' _).mono (Nat.le_of_lt hpw)).trans (hB1.mono (Nat.le_of_lt hpw))).setCell (Nat.le_refl _) _
end Go.Proofs.YtgnfknjopafngaaGreatDoor
