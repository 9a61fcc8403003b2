import Derived.Test.YtgnfknjopafngaaGreatDoorShelf
import Derived.Test.YtgnfknjopafngaaGreatDoorFmJ
import Derived.Test.YtgnfknjopafngaaGreatDoorFmV
/-
  THE LIBRARY's CONTRACTS THAT THE PROGRAM LEANS ON, in the forms that the walks meet.
-/
namespace Go.Proofs.YtgnfknjopafngaaGreatDoor
open Go.RowKit

/-- internal/bytealg.MaxLen holds some number. -/
def MaxIs (w : World) : Prop := ∃ m, w.cell? ⟨1, 0, none⟩ = some (.int .i64 m)
theorem MaxIs.lt {w : World} (h : MaxIs w) : 1 < w.heap.size := by
  obtain ⟨m, h2⟩ := h
  rcases Nat.lt_or_ge 1 w.heap.size with h | h
  · exact h
  · simp [World.cell?, Array.getElem?_eq_none h] at h2
theorem MaxIs.below {w w' : World} (h : MaxIs w) (hb : Below w.heap.size w w') : MaxIs w' := by
  have hlt := h.lt
  obtain ⟨m, h2⟩ := h
  exact ⟨m, (hb.cell (p := ⟨1, 0, none⟩) hlt).trans h2⟩
theorem MaxIs.drewN {w : World} (h : MaxIs w) (n : Nat) : MaxIs (w.drewN n) := h.below (below_same w n)

theorem bytes_ex (l : List UInt8) : ∃ A : ByteArray, A.data.toList = l := ⟨⟨l.toArray⟩, rfl⟩
theorem mk_data (A : ByteArray) : (⟨A.data.toList.toArray⟩ : ByteArray) = A := bytes_of rfl

theorem cut_lib (s A B : ByteArray) (c : UInt8) (ok : Bool) (w : World) (hw : MaxIs w) (hs : s.size ≤ 1000000) (h : Lib.cut s.data.toList [c] = (A.data.toList, B.data.toList, ok)) :
    Calls Tryz.prog 169 #[.string s, .string ⟨#[c]⟩] w fun e w' => e = .returned (.tuple #[.string A, .string B, .bool ok]) ∧ ∃ n, w' = w.drewN n := by
  obtain ⟨m, hm⟩ := hw
  have := Tryz.strings_Cut s ⟨#[c]⟩ m w (by omega) hm
  have e : Lib.cut s.data.toList (ByteArray.mk #[c]).data.toList = (A.data.toList, B.data.toList, ok) := h
  rw [e] at this
  simp only [mk_data] at this
  exact this
theorem prefix_lib (s p A : ByteArray) (ok : Bool) (w : World) (h : Lib.trimPrefix s.data.toList p.data.toList = A.data.toList) (hok : Lib.hasPrefix s.data.toList p.data.toList = ok) :
    Calls Tryz.prog 168 #[.string s, .string p] w fun e w' => e = .returned (.tuple #[.string A, .bool ok]) ∧ w' = w := by
  have := Tryz.strings_CutPrefix s p w
  rw [h, hok, mk_data] at this
  exact this
theorem suffix_lib (s p A : ByteArray) (ok : Bool) (w : World) (hs : s.size ≤ 1000000) (h : Lib.trimSuffix s.data.toList p.data.toList = A.data.toList) (hok : Lib.hasSuffix s.data.toList p.data.toList = ok) :
    Calls Tryz.prog 215 #[.string s, .string p] w fun e w' => e = .returned (.tuple #[.string A, .bool ok]) ∧ w' = w := by
  have := Tryz.strings_CutSuffix s p w (by omega)
  rw [h, hok, mk_data] at this
  exact this
theorem trim_lib (s p A : ByteArray) (w : World) (hs : s.size ≤ 1000000) (h : Lib.trimSuffix s.data.toList p.data.toList = A.data.toList) :
    Calls Tryz.prog 86 #[.string s, .string p] w fun e w' => e = .returned (.string A) ∧ w' = w := by
  have := Tryz.strings_TrimSuffix s p w (by omega)
  rw [h, mk_data] at this
  exact this
/-- Split: the pieces, in a new block. -/
theorem split_lib (s sep : ByteArray) (ps : List ByteArray) (w : World) (hw : MaxIs w) (hs : s.size ≤ 1000000) (h1 : 1 ≤ sep.size) (h : M.cutS s.data.toList sep.data.toList = ps.map (fun p => p.data.toList)) :
    Calls Tryz.prog 85 #[.string s, .string sep] w fun e w' => e = .returned (.slice (some ⟨w.heap.size, 0, none⟩) ps.length ps.length) ∧ w' = w.alloc (.cells (ps.map Value.string).toArray 9) := by
  obtain ⟨m, hm⟩ := hw
  have := Tryz.strings_Split s sep m w (by omega) hm h1
  have e := split_cut s sep h1
  rw [h] at e
  have e2 : Lib.splitB sep 0 (Lib.countB s sep) s = ps := (List.map_inj_right (fun a b hab => bytes_of hab)).1 e
  have e3 := Lib.splitB_all sep h1 0 _ s rfl
  rw [e2] at this e3
  rw [← e3] at this
  exact this
end Go.Proofs.YtgnfknjopafngaaGreatDoor
/-
  THE CODE, WALKED: readLimit.
-/
namespace Go.Proofs.YtgnfknjopafngaaGreatDoor
open Go.RowKit

/-- A value where there is one, else a throw. -/
def GivesO {α : Type} (o : Option α) (enc : α → Value) (e : Ending) : Prop := match o with
  | some x => e = .returned (enc x)
  | none => Thrown e
theorem givesO_t {α : Type} {o : Option α} {enc : α → Value} {e : Ending} (x : α) (ho : o = some x) (h : e = .returned (enc x)) : GivesO o enc e := by rw [ho]; exact h
theorem givesO_f {α : Type} {o : Option α} {enc : α → Value} {e : Ending} (ho : o = none) (h : Thrown e) : GivesO o enc e := by rw [ho]; exact h
theorem gives_val {b : Bool} {v : Value} {e : Ending} (hb : b = true) (h : Gives b v e) : e = .returned v := by unfold Gives at h; rw [if_pos hb] at h; exact h
theorem gives_thr {b : Bool} {v : Value} {e : Ending} (hb : b = false) (h : Gives b v e) : Thrown e := by unfold Gives at h; rw [if_neg (by rw [hb]; decide)] at h; exact h
theorem signB_is (s : ByteArray) : signB s = signS s.data.toList := by unfold signB signS; rw [Lib.toList_data]
theorem trimP_len (s p : List UInt8) : (Lib.trimPrefix s p).length ≤ s.length := by unfold Lib.trimPrefix; split <;> simp
theorem trimS_len' (s p : List UInt8) : (Lib.trimSuffix s p).length ≤ s.length := by unfold Lib.trimSuffix; split <;> simp
theorem cut_len (s : List UInt8) (c : UInt8) : (Lib.cut s [c]).1.length ≤ s.length ∧ (Lib.cut s [c]).2.1.length ≤ s.length := by
  rcases cut_cases s c with ⟨_, e, _⟩ | ⟨a, b, e1, _, e, _⟩
  · rw [e]; simp
  · rw [e, e1]; simp; omega
theorem len_data (s : ByteArray) : s.data.toList.length = s.size := by simp
theorem size_of {s : ByteArray} {l : List UInt8} (h : s.data.toList = l) : s.size = l.length := by rw [← h]; simp
theorem pair3 {α β γ : Type} (x : α × β × γ) : x = (x.1, x.2.1, x.2.2) := rfl

set_option maxRecDepth 100000 in
set_option maxHeartbeats 2000000 in
theorem readLimit_walk (s A B C D : ByteArray) (b1 b2 ok sg vr : Bool) (w : World) (hw : Hid (MaxIs w))
    (c1 : ∀ wx, Calls Tryz.prog 168 #[.string s, .string ⟨#[40]⟩] wx fun e w' => e = .returned (.tuple #[.string A, .bool b1]) ∧ w' = wx)
    (c2 : ∀ wx, Calls Tryz.prog 215 #[.string A, .string ⟨#[41]⟩] wx fun e w' => e = .returned (.tuple #[.string B, .bool b2]) ∧ w' = wx)
    (c3 : ∀ wx, MaxIs wx → Calls Tryz.prog 169 #[.string B, .string ⟨#[32]⟩] wx fun e w' => e = .returned (.tuple #[.string C, .string D, .bool ok]) ∧ ∃ n, w' = wx.drewN n)
    (c4 : ∀ wx, Calls Tryz.prog 216 #[.string C] wx fun e w' => e = .returned (.bool sg) ∧ w' = wx)
    (c5 : ∀ wx, Calls Tryz.prog 171 #[.string D] wx fun e w' => Gives vr (.string D) e ∧ w' = wx) :
    Calls Tryz.prog 172 #[.string s] w fun e w' => Gives (b1 && b2 && ok && sg && vr) (.tuple #[.string C, .string D]) e ∧ ∃ n, w' = w.drewN n := by
  have cY := must_ok
  have cN := must_no
  cases b1
  · clear c2 c3 c4 c5 cY
    go_enter Tryz.func172, Tryz.ntmps172
    go_wp2_with (first | (go_at_call 168; refine (c1 _).mono ?_; rintro e w' ⟨rfl, rfl⟩) | (go_at_call 83; refine (cN _).mono ?_; rintro e w' ⟨rfl, rfl⟩))
    exact ⟨rfl, gives_f rfl rfl, 0, rfl⟩
  cases b2
  · clear c3 c4 c5
    go_enter Tryz.func172, Tryz.ntmps172
    go_wp2_with (first | (go_at_call 168; refine (c1 _).mono ?_; rintro e w' ⟨rfl, rfl⟩) | (go_at_call 215; refine (c2 _).mono ?_; rintro e w' ⟨rfl, rfl⟩) | (go_at_call 83; refine (cY _).mono ?_; rintro e w' ⟨rfl, rfl⟩) | (go_at_call 83; refine (cN _).mono ?_; rintro e w' ⟨rfl, rfl⟩))
    exact ⟨rfl, gives_f rfl rfl, 0, rfl⟩
  cases ok
  · clear c4 c5
    go_enter Tryz.func172, Tryz.ntmps172
    go_wp2_with (first | (go_at_call 168; refine (c1 _).mono ?_; rintro e w' ⟨rfl, rfl⟩) | (go_at_call 215; refine (c2 _).mono ?_; rintro e w' ⟨rfl, rfl⟩) | (go_at_call 169; refine (c3 _ hw.out).mono ?_; rintro e w' ⟨rfl, n, rfl⟩) | (go_at_call 83; refine (cY _).mono ?_; rintro e w' ⟨rfl, rfl⟩) | (go_at_call 83; refine (cN _).mono ?_; rintro e w' ⟨rfl, rfl⟩))
    exact ⟨rfl, gives_f rfl rfl, n, rfl⟩
  cases sg
  · clear c5
    go_enter Tryz.func172, Tryz.ntmps172
    go_wp2_with (first | (go_at_call 168; refine (c1 _).mono ?_; rintro e w' ⟨rfl, rfl⟩) | (go_at_call 215; refine (c2 _).mono ?_; rintro e w' ⟨rfl, rfl⟩) | (go_at_call 169; refine (c3 _ hw.out).mono ?_; rintro e w' ⟨rfl, n, rfl⟩) | (go_at_call 216; refine (c4 _).mono ?_; rintro e w' ⟨rfl, rfl⟩) | (go_at_call 83; refine (cY _).mono ?_; rintro e w' ⟨rfl, rfl⟩) | (go_at_call 83; refine (cN _).mono ?_; rintro e w' ⟨rfl, rfl⟩))
    exact ⟨rfl, gives_f rfl rfl, n, rfl⟩
  clear cN
  cases vr
  · replace c5 : ∀ wx, Calls Tryz.prog 171 #[.string D] wx fun e w' => Thrown e ∧ w' = wx := fun wx => (c5 wx).mono fun e w' h => ⟨gives_thr rfl h.1, h.2⟩
    go_enter Tryz.func172, Tryz.ntmps172
    go_wp2_with (first | (go_at_call 168; refine (c1 _).mono ?_; rintro e w' ⟨rfl, rfl⟩) | (go_at_call 215; refine (c2 _).mono ?_; rintro e w' ⟨rfl, rfl⟩) | (go_at_call 169; refine (c3 _ hw.out).mono ?_; rintro e w' ⟨rfl, n, rfl⟩) | (go_at_call 216; refine (c4 _).mono ?_; rintro e w' ⟨rfl, rfl⟩) | (go_at_call 171; refine (c5 _).mono ?_; rintro e w' ⟨rfl, rfl⟩) | (go_at_call 83; refine (cY _).mono ?_; rintro e w' ⟨rfl, rfl⟩))
    exact ⟨rfl, gives_f rfl rfl, n, rfl⟩
  · replace c5 : ∀ wx, Calls Tryz.prog 171 #[.string D] wx fun e w' => e = .returned (.string D) ∧ w' = wx := fun wx => (c5 wx).mono fun e w' h => ⟨gives_val rfl h.1, h.2⟩
    go_enter Tryz.func172, Tryz.ntmps172
    go_wp2_with (first | (go_at_call 168; refine (c1 _).mono ?_; rintro e w' ⟨rfl, rfl⟩) | (go_at_call 215; refine (c2 _).mono ?_; rintro e w' ⟨rfl, rfl⟩) | (go_at_call 169; refine (c3 _ hw.out).mono ?_; rintro e w' ⟨rfl, n, rfl⟩) | (go_at_call 216; refine (c4 _).mono ?_; rintro e w' ⟨rfl, rfl⟩) | (go_at_call 171; refine (c5 _).mono ?_; rintro e w' ⟨rfl, rfl⟩) | (go_at_call 83; refine (cY _).mono ?_; rintro e w' ⟨rfl, rfl⟩))
    go_ret2
    exact ⟨gives_t rfl rfl, n, rfl⟩

theorem readLimit_any (s : ByteArray) (w : World) (hw : MaxIs w) (hs : s.size ≤ 1000000) :
    Calls Tryz.prog 172 #[.string s] w fun e w' => GivesO (limitC s.data.toList) (fun x => .tuple #[.string ⟨x.1.toArray⟩, .string ⟨x.2.toArray⟩]) e ∧ ∃ n, w' = w.drewN n := by
  obtain ⟨A, hA⟩ := bytes_ex (Lib.trimPrefix s.data.toList [40])
  obtain ⟨B, hB⟩ := bytes_ex (Lib.trimSuffix A.data.toList [41])
  obtain ⟨C, hC⟩ := bytes_ex (Lib.cut B.data.toList [32]).1
  obtain ⟨D, hD⟩ := bytes_ex (Lib.cut B.data.toList [32]).2.1
  have sA : A.size ≤ s.size := by have := trimP_len s.data.toList [40]; rw [size_of hA]; simpa using this
  have sB : B.size ≤ s.size := by have := trimS_len' A.data.toList [41]; have h := len_data A; rw [size_of hB]; omega
  have sD : D.size ≤ s.size := by have := (cut_len B.data.toList 32).2; have h := len_data B; rw [size_of hD]; omega
  refine (readLimit_walk s A B C D (Lib.hasPrefix s.data.toList [40]) (Lib.hasSuffix A.data.toList [41]) (Lib.cut B.data.toList [32]).2.2 (signB C) (isVerK D) w hw
    (fun wx => prefix_lib s ⟨#[40]⟩ A _ wx hA.symm rfl) (fun wx => suffix_lib A ⟨#[41]⟩ B _ wx (by omega) hB.symm rfl) (fun wx hx => cut_lib B C D 32 _ wx hx (by omega) (by rw [hC, hD]))
    (fun wx => isSign_any C wx) (fun wx => readVersion_any D wx (by omega))).mono ?_
  rintro e w' ⟨h, hn⟩
  refine ⟨?_, hn⟩
  have HL : limitC s.data.toList = if Lib.hasPrefix s.data.toList [40] = true ∧ Lib.hasSuffix A.data.toList [41] = true ∧ (Lib.cut B.data.toList [32]).2.2 = true ∧ signB C = true ∧ isVerK D = true then some (C.data.toList, D.data.toList) else none := by
    unfold limitC
    rw [← hA, ← hB, ← hC, ← hD, signB_is]
    rfl
  rw [HL]
  unfold Gives at h
  simp only [Bool.and_eq_true, and_assoc] at h
  split at h
  · rename_i hc
    rw [if_pos hc]
    exact h
  · rename_i hc
    rw [if_neg hc]
    exact h
end Go.Proofs.YtgnfknjopafngaaGreatDoor
/-
  THE CODE, WALKED: readChoice.
-/
namespace Go.Proofs.YtgnfknjopafngaaGreatDoor
open Go.RowKit

def chV (c : M.Ch) : Value := .agg #[.string ⟨c.name.toArray⟩, .string ⟨c.sign.toArray⟩, .string ⟨c.ver.toArray⟩]

/-- A new block, behind draws: its cells, its marks, old memory. -/
theorem newB (w : World) (xs : List Value) (t : TypeId) (n : Nat) :
    Below w.heap.size w ((w.alloc (.cells xs.toArray t)).drewN n) ∧ ((w.alloc (.cells xs.toArray t)).drewN n).heap.size = w.heap.size + 1 ∧
      (∀ j u, xs[j]? = some u → ((w.alloc (.cells xs.toArray t)).drewN n).cell? ⟨w.heap.size, j, none⟩ = some u) ∧ ∀ o, ((w.alloc (.cells xs.toArray t)).drewN n).frozen? ⟨w.heap.size, o, none⟩ = false := by
  refine ⟨below_drewN ((Below.refl _ w).alloc (Nat.le_refl _) _) n, by simp, fun j u hj => ?_, fun o => ?_⟩
  · show (w.alloc (.cells xs.toArray t)).cell? ⟨w.heap.size, j, none⟩ = some u
    unfold World.cell?
    rw [(MapKept.heap_alloc w _).1]
    simp [hj]
  · show (w.alloc (.cells xs.toArray t)).frozen? ⟨w.heap.size, o, none⟩ = false
    unfold World.frozen?
    rw [(MapKept.heap_alloc w _).1]
    simp

theorem setC_off (w : World) (b o : Nat) (v : Value) (o' : Nat) (h : o' ≠ o) : (w.setCell ⟨b, o, none⟩ v).cell? ⟨b, o', none⟩ = w.cell? ⟨b, o', none⟩ :=
  World.cell?_setCell_other _ _ _ _ (by intro e; cases e; exact h rfl)
theorem setC_blk (w : World) (b o : Nat) (v : Value) (g o' : Nat) (h : g ≠ b) : (w.setCell ⟨b, o, none⟩ v).cell? ⟨g, o', none⟩ = w.cell? ⟨g, o', none⟩ :=
  World.cell?_setCell_other _ _ _ _ (by intro e; cases e; exact h rfl)
theorem setC_size (w : World) (a : Addr) (v : Value) : (w.setCell a v).heap.size = w.heap.size := by simp [World.setCell]
/-- Three cells of a block that are stored. -/
theorem set3 (X : World) (b : Nat) (a0 a1 a2 u0 u1 u2 : Value) (h0 : X.cell? ⟨b, 0, none⟩ = some u0) (h1 : X.cell? ⟨b, 1, none⟩ = some u1) (h2 : X.cell? ⟨b, 2, none⟩ = some u2) :
    (((X.setCell ⟨b, 0, none⟩ a0).setCell ⟨b, 1, none⟩ a1).setCell ⟨b, 2, none⟩ a2).cell? ⟨b, 0, none⟩ = some a0 ∧
    (((X.setCell ⟨b, 0, none⟩ a0).setCell ⟨b, 1, none⟩ a1).setCell ⟨b, 2, none⟩ a2).cell? ⟨b, 1, none⟩ = some a1 ∧
    (((X.setCell ⟨b, 0, none⟩ a0).setCell ⟨b, 1, none⟩ a1).setCell ⟨b, 2, none⟩ a2).cell? ⟨b, 2, none⟩ = some a2 := by
  refine ⟨?_, ?_, ?_⟩
  · rw [setC_off _ _ _ _ _ (by decide), setC_off _ _ _ _ _ (by decide), World.cell?_setCell_same _ _ _ h0]
  · rw [setC_off _ _ _ _ _ (by decide), World.cell?_setCell_same _ _ _ (by rw [setC_off _ _ _ _ _ (by decide)]; exact h1)]
  · rw [World.cell?_setCell_same _ _ _ (by rw [setC_off _ _ _ _ _ (by decide), setC_off _ _ _ _ _ (by decide)]; exact h2)]

set_option maxRecDepth 100000 in
set_option maxHeartbeats 2000000 in
theorem readChoice_walk (s A B : ByteArray) (ok nm : Bool) (L : Option (List UInt8 × List UInt8)) (w : World) (hw : Hid (MaxIs w))
    (c1 : ∀ wx, MaxIs wx → Calls Tryz.prog 169 #[.string s, .string ⟨#[32]⟩] wx fun e w' => e = .returned (.tuple #[.string A, .string B, .bool ok]) ∧ ∃ n, w' = wx.drewN n)
    (c2 : ∀ wx, Calls Tryz.prog 170 #[.string A] wx fun e w' => Gives nm (.string A) e ∧ w' = wx)
    (c3 : ∀ wx, MaxIs wx → Calls Tryz.prog 172 #[.string B] wx fun e w' => GivesO L (fun x => .tuple #[.string ⟨x.1.toArray⟩, .string ⟨x.2.toArray⟩]) e ∧ ∃ n, w' = wx.drewN n) :
    Calls Tryz.prog 135 #[.string s] w fun e w' => GivesO (if nm = true then (if ok = true then L.map (fun x => (⟨A.data.toList, x.1, x.2⟩ : M.Ch)) else some ⟨A.data.toList, [], []⟩) else none) chV e ∧ Below w.heap.size w w' := by
  have hwA : ∀ o, MaxIs (w.alloc o) := fun o => hw.out.below ((Below.refl _ w).alloc (Nat.le_refl _) _)
  go_enter Tryz.func135, Tryz.ntmps135
  go_wp2_with fail
  refine (c1 _ (hwA _)).mono ?_
  rintro e w' ⟨rfl, n, rfl⟩
  obtain ⟨hB1, hz, hcl, hfz⟩ := newB w [.string ⟨#[]⟩, .string ⟨#[]⟩, .string ⟨#[]⟩] 156 n
  generalize hW : (w.alloc (.cells [Value.string ⟨#[]⟩, .string ⟨#[]⟩, .string ⟨#[]⟩].toArray 156)).drewN n = W1 at hB1 hz hcl hfz
  have q0 := hcl 0 _ rfl
  have q1 := hcl 1 _ rfl
  have q2 := hcl 2 _ rfl
  have HB1 : Hid (Below w.heap.size w W1) := hB1
  have hm1 := hw.out.below hB1
  replace hm1 : Hid (MaxIs W1) := hm1
  have hmA : ∀ o, MaxIs (W1.alloc o) := fun o => hm1.out.below ((Below.refl _ W1).alloc (Nat.le_refl _) _)
  have hBA : ∀ o n, Below w.heap.size w ((W1.alloc o).drewN n) := fun o n => bt HB1.out (below_drewN ((Below.refl _ W1).alloc (Nat.le_refl _) _) n)
  change _ = _ at hW
  simp only [List.toArray] at hW
  cases nm
  · clear c3
    replace c2 : ∀ wx, Calls Tryz.prog 170 #[.string A] wx fun e w' => Thrown e ∧ w' = wx := fun wx => (c2 wx).mono fun e w' h => ⟨gives_thr rfl h.1, h.2⟩
    go_wp2_with ((go_at_call 170; refine (c2 _).mono ?_; rintro e w' ⟨rfl, rfl⟩))
    exact ⟨rfl, givesO_f rfl rfl, HB1.out⟩
  replace c2 : ∀ wx, Calls Tryz.prog 170 #[.string A] wx fun e w' => e = .returned (.string A) ∧ w' = wx := fun wx => (c2 wx).mono fun e w' h => ⟨gives_val rfl h.1, h.2⟩
  cases ok
  · clear c3
    go_wp2_with ((go_at_call 170; refine (c2 _).mono ?_; rintro e w' ⟨rfl, rfl⟩))
    obtain ⟨k0, k1, k2⟩ := set3 w' w.heap.size (.string A) (.string ⟨#[]⟩) (.string ⟨#[]⟩) _ _ _ q0 q1 q2
    have hp : ∀ o j, ((((w'.setCell ⟨w.heap.size, 0, none⟩ (.string A)).setCell ⟨w.heap.size, 1, none⟩ (.string ⟨#[]⟩)).setCell ⟨w.heap.size, 2, none⟩ (.string ⟨#[]⟩)).alloc o).cell? ⟨w.heap.size, j, none⟩ = (((w'.setCell ⟨w.heap.size, 0, none⟩ (.string A)).setCell ⟨w.heap.size, 1, none⟩ (.string ⟨#[]⟩)).setCell ⟨w.heap.size, 2, none⟩ (.string ⟨#[]⟩)).cell? ⟨w.heap.size, j, none⟩ := fun o j => World.cell?_alloc_past _ _ _ (by simp [hz])
    refine bodyPost_ret (v := .agg #[.string A, .string ⟨#[]⟩, .string ⟨#[]⟩]) (by simp [results, Tryz.results135, go_sem, hp, k0, k1, k2]) rfl ⟨givesO_t _ rfl rfl, ?_⟩
    exact (((HB1.out.setCell (Nat.le_refl _) _).setCell (Nat.le_refl _) _).setCell (Nat.le_refl _) _).alloc (by simp; omega) _
  cases L with
  | none =>
    replace c3 : ∀ wx, MaxIs wx → Calls Tryz.prog 172 #[.string B] wx fun e w' => Thrown e ∧ ∃ n, w' = wx.drewN n := fun wx h => (c3 wx h).mono fun e w' h => h
    go_wp2_with (first | (go_at_call 170; refine (c2 _).mono ?_; rintro e w' ⟨rfl, rfl⟩) | (go_at_call 172; refine (c3 _ (hmA _)).mono ?_; rintro e w' ⟨rfl, k, rfl⟩))
    exact ⟨rfl, givesO_f rfl rfl, hBA _ k⟩
  | some x =>
    replace c3 : ∀ wx, MaxIs wx → Calls Tryz.prog 172 #[.string B] wx fun e w' => e = .returned (.tuple #[.string ⟨x.1.toArray⟩, .string ⟨x.2.toArray⟩]) ∧ ∃ n, w' = wx.drewN n := fun wx h => (c3 wx h).mono fun e w' h => h
    go_wp2_with (first | (go_at_call 170; refine (c2 _).mono ?_; rintro e w' ⟨rfl, rfl⟩) | (go_at_call 172; refine (c3 _ (hmA _)).mono ?_; rintro e w' ⟨rfl, k, rfl⟩))
    have hB9 := hBA (.cells #[.string A, .string ⟨#[]⟩, .string ⟨#[]⟩] 156) k
    obtain ⟨hB5, hz5, hcl5, _⟩ := newB w' [.string A, .string ⟨#[]⟩, .string ⟨#[]⟩] 156 k
    have hold : ∀ j, ((w'.alloc (.cells #[.string A, .string ⟨#[]⟩, .string ⟨#[]⟩] 156)).drewN k).cell? ⟨w.heap.size, j, none⟩ = w'.cell? ⟨w.heap.size, j, none⟩ := fun j => hB5.cell (p := ⟨w.heap.size, j, none⟩) (by simp [hz])
    generalize (w'.alloc (.cells #[.string A, .string ⟨#[]⟩, .string ⟨#[]⟩] 156)).drewN k = W5 at hB9 hold ⊢
    have hne : w.heap.size ≠ w.heap.size + 1 := by omega
    obtain ⟨k0, k1, k2⟩ := set3 ((W5.setCell ⟨w.heap.size + 1, 1, none⟩ (.string ⟨x.1.toArray⟩)).setCell ⟨w.heap.size + 1, 2, none⟩ (.string ⟨x.2.toArray⟩)) w.heap.size (.string A) (.string ⟨x.1.toArray⟩) (.string ⟨x.2.toArray⟩) _ _ _
      (by rw [setC_blk _ _ _ _ _ _ hne, setC_blk _ _ _ _ _ _ hne, hold]; exact q0) (by rw [setC_blk _ _ _ _ _ _ hne, setC_blk _ _ _ _ _ _ hne, hold]; exact q1) (by rw [setC_blk _ _ _ _ _ _ hne, setC_blk _ _ _ _ _ _ hne, hold]; exact q2)
    refine bodyPost_ret (v := .agg #[.string A, .string ⟨x.1.toArray⟩, .string ⟨x.2.toArray⟩]) (by simp [results, Tryz.results135, go_sem, k0, k1, k2]) rfl ⟨givesO_t _ rfl rfl, ?_⟩
    exact ((((hB9.setCell (show w.heap.size ≤ w.heap.size + 1 by omega) _).setCell (show w.heap.size ≤ w.heap.size + 1 by omega) _).setCell (Nat.le_refl _) _).setCell (Nat.le_refl _) _).setCell (Nat.le_refl _) _

theorem readChoice_any (s : ByteArray) (w : World) (hw : MaxIs w) (hs : s.size ≤ 1000000) :
    Calls Tryz.prog 135 #[.string s] w fun e w' => GivesO (choiceC s.data.toList) chV e ∧ Below w.heap.size w w' := by
  obtain ⟨A, hA⟩ := bytes_ex (Lib.cut s.data.toList [32]).1
  obtain ⟨B, hB⟩ := bytes_ex (Lib.cut s.data.toList [32]).2.1
  have h := len_data s
  have sA : A.size ≤ s.size := by have := (cut_len s.data.toList 32).1; rw [size_of hA]; omega
  have sB : B.size ≤ s.size := by have := (cut_len s.data.toList 32).2; rw [size_of hB]; omega
  refine (readChoice_walk s A B (Lib.cut s.data.toList [32]).2.2 (isNameK A) (limitC B.data.toList) w hw
    (fun wx hx => cut_lib s A B 32 _ wx hx (by omega) (by rw [hA, hB])) (fun wx => readName_any A wx (by omega)) (fun wx hx => readLimit_any B wx hx (by omega))).mono ?_
  rintro e w' ⟨h, hn⟩
  refine ⟨?_, hn⟩
  have HL : choiceC s.data.toList = (if isNameK A = true then (if (Lib.cut s.data.toList [32]).2.2 = true then (limitC B.data.toList).map (fun x => (⟨A.data.toList, x.1, x.2⟩ : M.Ch)) else some ⟨A.data.toList, [], []⟩) else none) := by
    unfold choiceC
    rw [← hA, ← hB]
    show (if isNameK A = true then _ else _) = _
    cases limitC B.data.toList <;> rfl
  rw [HL]
  exact h
end Go.Proofs.YtgnfknjopafngaaGreatDoor
/-
  THE CODE, WALKED: readTitle; readList of choices.
-/
namespace Go.Proofs.YtgnfknjopafngaaGreatDoor
open Go.RowKit

set_option maxRecDepth 100000 in
set_option maxHeartbeats 2000000 in
theorem readTitle_walk (s A B : ByteArray) (ok nm vr : Bool) (w : World) (hw : Hid (MaxIs w))
    (c1 : ∀ wx, MaxIs wx → Calls Tryz.prog 169 #[.string s, .string ⟨#[32]⟩] wx fun e w' => e = .returned (.tuple #[.string A, .string B, .bool ok]) ∧ ∃ n, w' = wx.drewN n)
    (c2 : ∀ wx, Calls Tryz.prog 170 #[.string A] wx fun e w' => Gives nm (.string A) e ∧ w' = wx)
    (c3 : ∀ wx, Calls Tryz.prog 171 #[.string B] wx fun e w' => Gives vr (.string B) e ∧ w' = wx) :
    Calls Tryz.prog 129 #[.string s] w fun e w' => Gives (ok && nm && vr) (.tuple #[.string A, .string B]) e ∧ ∃ n, w' = w.drewN n := by
  have cY := must_ok
  have cN := must_no
  cases ok
  · clear c2 c3 cY
    go_enter Tryz.func129, Tryz.ntmps129
    go_wp2_with (first | (go_at_call 169; refine (c1 _ hw.out).mono ?_; rintro e w' ⟨rfl, n, rfl⟩) | (go_at_call 83; refine (cN _).mono ?_; rintro e w' ⟨rfl, rfl⟩))
    exact ⟨rfl, gives_f rfl rfl, n, rfl⟩
  clear cN
  cases nm
  · clear c3
    replace c2 : ∀ wx, Calls Tryz.prog 170 #[.string A] wx fun e w' => Thrown e ∧ w' = wx := fun wx => (c2 wx).mono fun e w' h => ⟨gives_thr rfl h.1, h.2⟩
    go_enter Tryz.func129, Tryz.ntmps129
    go_wp2_with (first | (go_at_call 169; refine (c1 _ hw.out).mono ?_; rintro e w' ⟨rfl, n, rfl⟩) | (go_at_call 83; refine (cY _).mono ?_; rintro e w' ⟨rfl, rfl⟩) | (go_at_call 170; refine (c2 _).mono ?_; rintro e w' ⟨rfl, rfl⟩))
    exact ⟨rfl, gives_f rfl rfl, n, rfl⟩
  replace c2 : ∀ wx, Calls Tryz.prog 170 #[.string A] wx fun e w' => e = .returned (.string A) ∧ w' = wx := fun wx => (c2 wx).mono fun e w' h => ⟨gives_val rfl h.1, h.2⟩
  cases vr
  · replace c3 : ∀ wx, Calls Tryz.prog 171 #[.string B] wx fun e w' => Thrown e ∧ w' = wx := fun wx => (c3 wx).mono fun e w' h => ⟨gives_thr rfl h.1, h.2⟩
    go_enter Tryz.func129, Tryz.ntmps129
    go_wp2_with (first | (go_at_call 169; refine (c1 _ hw.out).mono ?_; rintro e w' ⟨rfl, n, rfl⟩) | (go_at_call 83; refine (cY _).mono ?_; rintro e w' ⟨rfl, rfl⟩) | (go_at_call 170; refine (c2 _).mono ?_; rintro e w' ⟨rfl, rfl⟩) | (go_at_call 171; refine (c3 _).mono ?_; rintro e w' ⟨rfl, rfl⟩))
    exact ⟨rfl, gives_f rfl rfl, n, rfl⟩
  · replace c3 : ∀ wx, Calls Tryz.prog 171 #[.string B] wx fun e w' => e = .returned (.string B) ∧ w' = wx := fun wx => (c3 wx).mono fun e w' h => ⟨gives_val rfl h.1, h.2⟩
    go_enter Tryz.func129, Tryz.ntmps129
    go_wp2_with (first | (go_at_call 169; refine (c1 _ hw.out).mono ?_; rintro e w' ⟨rfl, n, rfl⟩) | (go_at_call 83; refine (cY _).mono ?_; rintro e w' ⟨rfl, rfl⟩) | (go_at_call 170; refine (c2 _).mono ?_; rintro e w' ⟨rfl, rfl⟩) | (go_at_call 171; refine (c3 _).mono ?_; rintro e w' ⟨rfl, rfl⟩))
    go_ret2
    exact ⟨gives_t rfl rfl, n, rfl⟩

theorem readTitle_any (s : ByteArray) (w : World) (hw : MaxIs w) (hs : s.size ≤ 1000000) :
    Calls Tryz.prog 129 #[.string s] w fun e w' => GivesO (titleC s.data.toList) (fun x => .tuple #[.string ⟨x.1.toArray⟩, .string ⟨x.2.toArray⟩]) e ∧ ∃ n, w' = w.drewN n := by
  obtain ⟨A, hA⟩ := bytes_ex (Lib.cut s.data.toList [32]).1
  obtain ⟨B, hB⟩ := bytes_ex (Lib.cut s.data.toList [32]).2.1
  have h := len_data s
  have sA : A.size ≤ s.size := by have := (cut_len s.data.toList 32).1; rw [size_of hA]; omega
  have sB : B.size ≤ s.size := by have := (cut_len s.data.toList 32).2; rw [size_of hB]; omega
  refine (readTitle_walk s A B (Lib.cut s.data.toList [32]).2.2 (isNameK A) (isVerK B) w hw
    (fun wx hx => cut_lib s A B 32 _ wx hx (by omega) (by rw [hA, hB])) (fun wx => readName_any A wx (by omega)) (fun wx => readVersion_any B wx (by omega))).mono ?_
  rintro e w' ⟨h, hn⟩
  refine ⟨?_, hn⟩
  have HL : titleC s.data.toList = if (Lib.cut s.data.toList [32]).2.2 = true ∧ isNameK A = true ∧ isVerK B = true then some (A.data.toList, B.data.toList) else none := by
    unfold titleC
    rw [← hA, ← hB]
    rfl
  rw [HL]
  unfold Gives at h
  simp only [Bool.and_eq_true, and_assoc] at h
  split at h
  · rename_i hc
    rw [if_pos hc]
    exact h
  · rename_i hc
    rw [if_neg hc]
    exact h

end Go.Proofs.YtgnfknjopafngaaGreatDoor
