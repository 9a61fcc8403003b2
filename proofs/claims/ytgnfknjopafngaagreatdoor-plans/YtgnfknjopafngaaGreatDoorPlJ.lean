import Derived.Test.YtgnfknjopafngaaGreatDoorPlI
import Derived.Test.YtgnfknjopafngaaGreatDoorPlD
import Derived.Test.YtgnfknjopafngaaGreatDoorFmG
import Derived.Maps.AppendAt
/-
  PACKAGES THAT ARE READ ONE BEHIND THE OTHER INTO A ROW: none of what they lead to lies in the row's own block.
-/
namespace Go.Proofs.YtgnfknjopafngaaGreatDoor
open Go.RowKit

def PkRowG (g : Option Nat) (w : World) : List M.Pk → List Value → Prop
  | [], xs => xs = []
  | p :: l, xs => ∃ nv bv fv xs' lo hi, xs = .string ⟨p.name.toArray⟩ :: .string ⟨p.ver.toArray⟩ :: nv :: bv :: fv :: xs' ∧ hi ≤ w.heap.size ∧ (∀ k, g = some k → k < lo ∨ hi ≤ k) ∧
      NeedsIn w lo hi nv p.needs ∧ RowIn w lo hi bv p.bars.length (chsCells p.bars) ∧ RowIn w lo hi fv p.files.length (flsCells p.files) ∧ PkRowG g w l xs'
theorem PkRowG.row {g : Option Nat} {w : World} {l : List M.Pk} {xs : List Value} (h : PkRowG g w l xs) : PkRow w l xs := by
  induction l generalizing xs with
  | nil => exact h
  | cons p l ih =>
    obtain ⟨nv, bv, fv, xs', lo, hi, rfl, h1, h2, h3, h4, h5, h⟩ := h
    exact ⟨nv, bv, fv, xs', rfl, h3.wide (Nat.zero_le _) h1, h4.wide (Nat.zero_le _) h1, h5.wide (Nat.zero_le _) h1, ih h⟩
theorem PkRowG.grown {g : Option Nat} {w w' : World} {l : List M.Pk} {xs : List Value} (h : PkRowG g w l xs) (hg : w.grownBy w' g) : PkRowG g w' l xs := by
  induction l generalizing xs with
  | nil => exact h
  | cons p l ih =>
    obtain ⟨nv, bv, fv, xs', lo, hi, rfl, h1, h2, h3, h4, h5, h⟩ := h
    have kk : ∀ a o, lo ≤ a → a < hi → w'.cell? ⟨a, o, none⟩ = w.cell? ⟨a, o, none⟩ := fun a o ha hb => World.cell?_of_block (a := ⟨a, o, none⟩) (hg.block a (by omega) (fun e => by rcases h2 a e.symm with h | h <;> omega))
    exact ⟨nv, bv, fv, xs', lo, hi, rfl, Nat.le_trans h1 hg.size, h2, h3.keep kk, h4.keep kk, h5.keep kk, ih h⟩
theorem PkRowG.below {g : Option Nat} {w w' : World} {l : List M.Pk} {xs : List Value} (h : PkRowG g w l xs) (hb : Below w.heap.size w w') : PkRowG g w' l xs :=
  h.grown ⟨hb.os, hb.tape, hb.output, hb.size, fun k hk _ => hb.block k hk⟩
theorem PkRowG.moved {g g' : Option Nat} {w : World} {l : List M.Pk} {xs : List Value} (h : PkRowG g w l xs) (hk : g' = g ∨ ∀ k, g' = some k → w.heap.size ≤ k) : PkRowG g' w l xs := by
  rcases hk with rfl | hk
  · exact h
  · induction l generalizing xs with
    | nil => exact h
    | cons p l ih =>
      obtain ⟨nv, bv, fv, xs', lo, hi, rfl, h1, h2, h3, h4, h5, h⟩ := h
      exact ⟨nv, bv, fv, xs', lo, hi, rfl, h1, fun k e => .inr (Nat.le_trans h1 (hk k e)), h3, h4, h5, ih h⟩
/-- Behind an append: in the same block, or in a new one. -/
theorem PkRowG.step {g g' : Option Nat} {w w' : World} {l : List M.Pk} {xs : List Value} (h : PkRowG g w l xs) (hg : w.grownBy w' g) (hk : g' = g ∨ g' = some w.heap.size) : PkRowG g' w' l xs := by
  rcases hk with rfl | rfl
  · exact h.grown hg
  · induction l generalizing xs with
    | nil => exact h
    | cons p l ih =>
      obtain ⟨nv, bv, fv, xs', lo, hi, rfl, h1, h2, h3, h4, h5, h⟩ := h
      have kk : ∀ a o, lo ≤ a → a < hi → w'.cell? ⟨a, o, none⟩ = w.cell? ⟨a, o, none⟩ := fun a o ha hb => World.cell?_of_block (a := ⟨a, o, none⟩) (hg.block a (by omega) (fun e => by rcases h2 a e.symm with h | h <;> omega))
      exact ⟨nv, bv, fv, xs', lo, hi, rfl, Nat.le_trans h1 hg.size, fun k e => .inr (by cases e; exact h1), h3.keep kk, h4.keep kk, h5.keep kk, ih h⟩
theorem PkRowG.snoc {g : Option Nat} {w : World} {l : List M.Pk} {xs : List Value} {p : M.Pk} {lo : Nat} {nv bv fv : Value} (h : PkRowG g w l xs) (hlo : ∀ k, g = some k → k < lo)
    (h1 : NeedsIn w lo w.heap.size nv p.needs) (h2 : RowIn w lo w.heap.size bv p.bars.length (chsCells p.bars)) (h3 : RowIn w lo w.heap.size fv p.files.length (flsCells p.files)) :
    PkRowG g w (l ++ [p]) (xs ++ [.string ⟨p.name.toArray⟩, .string ⟨p.ver.toArray⟩, nv, bv, fv]) := by
  induction l generalizing xs with
  | nil =>
    have e : xs = [] := h
    subst e
    exact ⟨nv, bv, fv, [], lo, w.heap.size, rfl, Nat.le_refl _, fun k e => .inl (hlo k e), h1, h2, h3, rfl⟩
  | cons q l ih =>
    obtain ⟨nv', bv', fv', xs', lo', hi', rfl, a1, a2, a3, a4, a5, a⟩ := h
    exact ⟨nv', bv', fv', xs' ++ _, lo', hi', rfl, a1, a2, a3, a4, a5, ih a⟩
theorem PkRow.snoc {w : World} {l : List M.Pk} {xs : List Value} {p : M.Pk} {nv bv fv : Value} (h : PkRow w l xs)
    (h1 : NeedsIn w 0 w.heap.size nv p.needs) (h2 : RowIn w 0 w.heap.size bv p.bars.length (chsCells p.bars)) (h3 : RowIn w 0 w.heap.size fv p.files.length (flsCells p.files)) :
    PkRow w (l ++ [p]) (xs ++ [.string ⟨p.name.toArray⟩, .string ⟨p.ver.toArray⟩, nv, bv, fv]) :=
  h.app ⟨nv, bv, fv, [], rfl, h1, h2, h3, rfl⟩
/-- What was read is small. -/
theorem read_small {s : List UInt8} {p : M.Pk} (h : M.readS s = .inr p) : SmallP p := by
  have hs := readS_short h
  refine ⟨Nat.le_trans hs.ver (by decide), Nat.le_trans hs.needn (by decide), fun g hg => ?_, Nat.le_trans hs.bars.1 (by decide), fun c hc => Nat.le_trans (hs.bars.2 c hc).2.2 (by decide), Nat.le_trans hs.filen (by decide)⟩
  have := hs.needs g hg
  exact ⟨Nat.le_trans this.1 (by decide), fun c hc => Nat.le_trans (this.2 c hc).2.2 (by decide)⟩
/-- .. and so are its paths. -/
def SmallQ (p : M.Pk) : Prop := SmallP p ∧ ∀ f ∈ p.files, f.path.length ≤ 100000
theorem read_smallQ {s : List UInt8} {p : M.Pk} (h : M.readS s = .inr p) : SmallQ p := ⟨read_small h, fun f hf => Nat.le_trans ((readS_short h).files f hf).1 (by decide)⟩
theorem own_blk {w : World} {B e size n : Nat} {v : Value} {xs : List Value} (h : w.ownsRow B e size v n xs) : ∀ k, v.ownBlock = some k → k < w.heap.size := fun k hk => by
  obtain ⟨_, ⟨rfl, _⟩ | ⟨g, cap, cur, rfl, _, hg, _⟩⟩ := h
  · cases hk
  · injection hk with hk
    subst hk
    exact (Array.getElem?_eq_some_iff.1 hg).1
/-- Five cells of a new block. -/
theorem five_new (w : World) (a b c d e : Value) (t : TypeId) : ∀ j u, [a, b, c, d, e][j]? = some u → (w.alloc (.cells #[a, b, c, d, e] t)).cell? ((⟨w.heap.size, 0, none⟩ : Addr).add j) = some u := fun j u hj => by
  rw [Addr.add_lit, Nat.zero_add]
  exact new_at w [a, b, c, d, e] t j u hj
/-- append(nothing, packages...), as a row of the call's own. -/
theorem append_none {w : World} (ty : TypeId) (sv : Value) (l : List M.Pk) (h : SrcIn w w sv l) (hn : l.length ≤ 1000000) :
    ∃ v' w' xs, (Builtin.append_ #[77, 77] ty #[.slice none 0 0, sv]).run Tryz.prog w = .ok v' w' ∧ w'.ownsRow w.heap.size 30 5 v' l.length xs ∧ PkRow w l xs ∧ Below w.heap.size w w' := by
  obtain ⟨i0, hi0, hz0, hz1, hz2⟩ := info_parts infoPk
  rcases h with ⟨rfl, a, c, rfl⟩ | ⟨g, off, c, news, rfl, hc, hr, hg, hcl⟩
  · exact ⟨_, w, [], run_append_nothing w _ ty _ i0 Tryz.underlying77 hi0 none a 0 0 c (Nat.le_refl _), World.ownsRow_nil _ _ _ _, rfl, Below.refl _ _⟩
  · have hnl := hr.len
    have hcn : ∀ j u, news[j]? = some u → w.cell? ((⟨g, off, none⟩ : Addr).add j) = some u := fun j u hu => by rw [Addr.add_lit]; exact hcl j u hu
    obtain ⟨v', w', hrun, r1, r2, _⟩ := run_append_own (P := Tryz.prog) w w.heap.size 77 ty 30 i0 _ 5 104 Tryz.underlying77 hi0 hz0 hz1 hz2 rfl (by decide) (.slice none 0 0) 0 [] (World.ownsRow_nil w _ _ 5) ⟨g, off, none⟩ l.length c news hnl hcn hr.one (by unfold maxLen; omega) (by omega) (Nat.le_refl _)
    rw [Nat.zero_add, List.nil_append] at r1
    exact ⟨v', w', news, hrun, r1, hr, (Below.refl _ w).grown r2 (Nat.le_refl _) (fun j hj => by simp [Value.ownBlock] at hj)⟩
theorem wpList_append_none {w : World} {ops : Array Oper} {rest : List Oper} {o : Oper} {a : Act} {Q : Exit → Act → World → Prop} (hg : o.guard = none) (s x : Operand)
    (hop : o.op = Op.call { callee := Callee.builtin Builtin.append, args := #[s, x], argTypes := #[77, 77] })
    (sv : Value) (l : List M.Pk) (hs : a.eval s = .slice none 0 0) (hx : a.eval x = sv) (h : SrcIn w w sv l) (hn : l.length ≤ 1000000)
    (hK : ∀ v' w' xs, w'.ownsRow w.heap.size 30 5 v' l.length xs → PkRow w l xs → Below w.heap.size w w' → wpList Tryz.prog ops Q rest (a.put o.dst v') w') : wpList Tryz.prog ops Q (o :: rest) a w := by
  refine wpList_plain hg fun K hK' => ?_
  obtain ⟨v', w', xs, hrun, r1, r2, r3⟩ := append_none o.type sv l h hn
  unfold Oper.wp
  simp [execOp, hop, resolve, invoke, builtin, hs, hx, hrun, Result.andThen]
  exact hK' _ _ (hK v' w' xs r1 r2 r3)
end Go.Proofs.YtgnfknjopafngaaGreatDoor
/-
  THE DOCUMENT's ANSWER, WALKED: Planned.
-/
namespace Go.Proofs.YtgnfknjopafngaaGreatDoor
open Go.RowKit

def faV (f : M.Fa) : Value := .agg #[.int .i64 f.kind, .int .i64 f.which, .int .i64 f.line, .string ⟨f.name.toArray⟩]
def PlannedPost (there : List M.Pk) (texts : List ByteArray) (w : World) (e : Ending) (w' : World) : Prop :=
  Below w.heap.size w w' ∧ match M.plannedS there (texts.map fun t => t.data.toList) with
    | .inl f => e = .returned (.tuple #[.slice none 0 0, .slice none 0 0, faV f])
    | .inr (all, names) => ∃ av ov, e = .returned (.tuple #[av, ov, faV M.okFa]) ∧ PksIn w' av all ∧ RowIn w' 0 w'.heap.size ov names.length (nmCells names)
theorem planned_fault {there : List M.Pk} {texts : List ByteArray} {w w' : World} {f : M.Fa} {e : Ending} (hB : Below w.heap.size w w') (h : M.plannedS there (texts.map fun t => t.data.toList) = .inl f) (he : e = .returned (.tuple #[.slice none 0 0, .slice none 0 0, faV f])) : PlannedPost there texts w e w' := by
  refine ⟨hB, ?_⟩
  rw [h]
  exact he
theorem str_of {s : ByteArray} {l : List UInt8} (h : s.data.toList = l) : s = ⟨l.toArray⟩ := by
  subst h
  cases s
  simp
theorem str_ne {s : ByteArray} (h : s.toList.isEmpty = false) : s.data.toList ≠ [] := by
  rw [Lib.toList_data] at h
  intro e
  rw [e] at h
  cases h
theorem str_eq {s : ByteArray} (h : s.toList.isEmpty = true) : s.data.toList = [] := by
  rw [Lib.toList_data] at h
  exact List.isEmpty_iff.1 h
theorem texts_split {ts : List ByteArray} {k : Nat} (hk : k < ts.length) : ts.map (fun p => p.data.toList) = (ts.take k).map (fun p => p.data.toList) ++ ts[k].data.toList :: (ts.drop (k + 1)).map (fun p => p.data.toList) := preL_split hk
theorem texts_take {ts : List ByteArray} {k : Nat} (hk : k < ts.length) : (ts.take (k + 1)).map (fun p => p.data.toList) = (ts.take k).map (fun p => p.data.toList) ++ [ts[k].data.toList] := by
  rw [List.take_succ_eq_append_getElem hk, List.map_append]; rfl

/-- A cell that is stored as it is. -/
theorem set_same {w : World} {a : Addr} {v : Value} (h : w.cell? a = some v) (b : Addr) : (w.setCell a v).cell? b = w.cell? b := by
  by_cases e : a = b
  · subst e; rw [World.cell?_setCell_same _ _ _ h, h]
  · exact World.cell?_setCell_other _ _ _ _ e
theorem set_same4 {w : World} {b : Nat} {v0 v1 v2 v3 : Value} (h0 : w.cell? ⟨b, 0, none⟩ = some v0) (h1 : w.cell? ⟨b, 1, none⟩ = some v1) (h2 : w.cell? ⟨b, 2, none⟩ = some v2) (h3 : w.cell? ⟨b, 3, none⟩ = some v3) (a : Addr) :
    ((((w.setCell ⟨b, 0, none⟩ v0).setCell ⟨b, 1, none⟩ v1).setCell ⟨b, 2, none⟩ v2).setCell ⟨b, 3, none⟩ v3).cell? a = w.cell? a := by
  have e0 := set_same h0
  have e1 := set_same ((e0 _).trans h1)
  have e2 := set_same ((e1 _).trans ((e0 _).trans h2))
  have e3 := set_same ((e2 _).trans ((e1 _).trans ((e0 _).trans h3)))
  rw [e3, e2, e1, e0]
theorem PksIn.same {w w' : World} {v : Value} {l : List M.Pk} (h : PksIn w v l) (hs : w'.heap.size = w.heap.size) (hc : ∀ a, w'.cell? a = w.cell? a) : PksIn w' v l := by
  rcases h with h | ⟨g, off, cap, h1, h2, h3, h4⟩
  · exact .inl h
  · refine .inr ⟨g, off, cap, h1, h2, by omega, fun i p hp => ?_⟩
    obtain ⟨nv, bv, fv, c0, c1, c2, c3, c4, c5, c6, c7⟩ := h4 i p hp
    refine ⟨nv, bv, fv, (hc _).trans c0, (hc _).trans c1, (hc _).trans c2, (hc _).trans c3, (hc _).trans c4, ?_, ?_, ?_⟩
    · rw [hs]; exact c5.keep (fun _ _ _ _ => hc _)
    · rw [hs]; exact c6.keep (fun _ _ _ _ => hc _)
    · rw [hs]; exact c7.keep (fun _ _ _ _ => hc _)
theorem order_len (there : List M.Pk) : ∀ (n : Nat) (l : List M.Pk) (out : List (List UInt8)), (M.orderS there n l out).2.length ≤ l.length
  | 0, l, out => Nat.le_refl _
  | n + 1, l, out => by
    unfold M.orderS
    split
    · exact Nat.le_refl _
    · split
      · exact Nat.le_refl _
      · rename_i k hk
        refine Nat.le_trans (order_len there n _ _) ?_
        rw [List.length_append, List.length_take, List.length_drop]
        omega
set_option maxRecDepth 100000 in
set_option maxHeartbeats 8000000 in
theorem planned_any (tv xv : Value) (there : List M.Pk) (texts : List ByteArray) (w : World) (ht : PksIn w tv there) (hx : RowIn w 0 w.heap.size xv texts.length (texts.map Value.string)) (htn : there.length ≤ 20000) (hxn : texts.length ≤ 20000) (hxs : ∀ t ∈ texts, t.size ≤ 20000) (hs : ∀ p ∈ there, SmallQ p) :
    Calls Tryz.prog 66 #[tv, xv] w (PlannedPost there texts w) := by
  obtain ⟨i0, hi0, hz0, hz1, hz2⟩ := info_parts infoPk
  obtain ⟨at', ct, et⟩ := ht.form
  subst et
  obtain ⟨ax, cx, ex⟩ := hx.form
  subst ex
  have HT : Hid (PksIn w (.slice at' there.length ct) there) := ht
  have HX : Hid (RowIn w 0 w.heap.size (.slice ax texts.length cx) texts.length (texts.map Value.string)) := hx
  have HXS : Hid (∀ t ∈ texts, t.size ≤ 20000) := hxs
  have HS : Hid (∀ p ∈ there, SmallQ p) := hs
  clear ht hx hxs hs
  generalize hW1 : w.alloc (.cells #[.int .i64 0, .int .i64 0, .int .i64 0, .string ⟨#[]⟩] 34) = W1
  have s1 : W1.heap.size = w.heap.size + 1 := by rw [← hW1]; simp
  have HB1 : Hid (Below w.heap.size w W1) := by rw [← hW1]; exact (Below.refl _ w).alloc (Nat.le_refl _) _
  have HK : Hid (∀ o u, [Value.int .i64 0, .int .i64 0, .int .i64 0, .string ⟨#[]⟩][o]? = some u → W1.cell? ⟨w.heap.size, o, none⟩ = some u) := by rw [← hW1]; exact fun o u hu => new_at w _ _ o u hu
  have HFZ : Hid (∀ o, W1.frozen? ⟨w.heap.size, o, none⟩ = false) := by
    rw [← hW1]
    exact (newB w [.int .i64 0, .int .i64 0, .int .i64 0, .string ⟨#[]⟩] 34 0).2.2.2
  have HZ : Hid (∀ W, Below W1.heap.size W1 W → W.cell? ⟨w.heap.size, 0, none⟩ = some (.int .i64 0) ∧ W.cell? ⟨w.heap.size, 1, none⟩ = some (.int .i64 0) ∧ W.cell? ⟨w.heap.size, 2, none⟩ = some (.int .i64 0) ∧ W.cell? ⟨w.heap.size, 3, none⟩ = some (.string ⟨#[]⟩) ∧ ∀ o, W.frozen? ⟨w.heap.size, o, none⟩ = false) := fun W hb => by
    have kc : ∀ o, W.cell? ⟨w.heap.size, o, none⟩ = W1.cell? ⟨w.heap.size, o, none⟩ := fun o => hb.cell (p := ⟨w.heap.size, o, none⟩) (by show w.heap.size < _; omega)
    exact ⟨(kc 0).trans (HK.out 0 _ rfl), (kc 1).trans (HK.out 1 _ rfl), (kc 2).trans (HK.out 2 _ rfl), (kc 3).trans (HK.out 3 _ rfl), fun o => (hb.frozen (p := ⟨w.heap.size, o, none⟩) (by show w.heap.size < _; omega)).trans (HFZ.out o)⟩
  go_enter Tryz.func66, Tryz.ntmps66
  go_wp2
  go_loopw [7, 8, 9, 10] (fun fv i _ _ wr => ∃ (k : Nat) (fresh : List M.Pk) (xs : List Value), i = .int .i64 k ∧ k ≤ texts.length ∧ Below W1.heap.size W1 wr ∧ wr.ownsRow W1.heap.size 30 5 fv fresh.length xs ∧ PkRowG fv.ownBlock wr fresh xs ∧ Hid (fresh.length = k) ∧ Hid (M.readAllS ((texts.take k).map fun t => t.data.toList) 0 [] = .inr fresh)) (fun _ i _ _ _ => texts.length - (intOf i).toNat)
  case atStart => exact ⟨0, [], [], rfl, Nat.zero_le _, Below.refl _ _, World.ownsRow_nil _ _ _ _, rfl, rfl, rfl⟩
  case round =>
    obtain ⟨k, fresh, xs, rfl, hk, hBr, hown, hrow, hfl, HR⟩ := hrel
    have hbw : Below w.heap.size w wr := HB1.out.trans (hBr.mono (by omega))
    obtain ⟨af, cf, ef⟩ := own_form hown
    subst ef
    have HOwn : Hid (wr.ownsRow W1.heap.size 30 5 (.slice af fresh.length cf) fresh.length xs) := hown
    have HRow : Hid (PkRowG (Value.slice af fresh.length cf).ownBlock wr fresh xs) := hrow
    clear hown hrow
    by_cases hlt : k < texts.length
    · obtain ⟨bx, rfl, hbx, hcapx, hcx⟩ := HX.out.cellAt (by omega)
      have cx0 : wr.cell? ⟨bx, k, none⟩ = some (.string texts[k]) := (hbw.cell (p := ⟨bx, k, none⟩) hbx).trans (hcx k _ (by simp [hlt]))
      have hts : texts[k].size ≤ 20000 := HXS.out _ (List.getElem_mem hlt)
      generalize hT : texts[k] = T at cx0 hts
      have cR := fun wx => refRead_any T wx (by omega)
      clear hcx
      go_wp2_with fail
      refine (cR _).mono ?_
      rintro e w2 ⟨v, rfl, hv, ⟨xa, xb, x1, n1, c1, x2, n2, c2, x3, n3, c3, rfl⟩, hB2⟩
      clear cR
      generalize hW3 : w2.alloc (.cells #[.string xa, .string xb, .slice x1 n1 c1, .slice x2 n2 c2, .slice x3 n3 c3] 30) = W3
      have HB3 : Hid (Below w2.heap.size w2 W3) := by rw [← hW3]; exact (Below.refl _ w2).alloc (Nat.le_refl _) _
      have HC3 : Hid (∀ j u, [Value.string xa, .string xb, .slice x1 n1 c1, .slice x2 n2 c2, .slice x3 n3 c3][j]? = some u → W3.cell? ⟨w2.heap.size, j, none⟩ = some u) := by rw [← hW3]; exact fun j u hu => new_at w2 _ _ j u hu
      have hB12 : Below W1.heap.size W1 W3 := bt hBr (bt hB2 HB3.out)
      cases hr : readB T with
      | inl n =>
        have el : lineOf (Sum.inl n : Sum Nat M.Pk) = (n : Int) := rfl
        rw [el]
        have hn0 : (0 : Int) ≤ n := by omega
        have HP : Hid (M.plannedS there (texts.map fun t => t.data.toList) = .inl ⟨1, k, n, []⟩) := by
          show _ = _
          unfold M.plannedS
          rw [texts_split hlt, M.readAll_snoc _ _ _ _ _ _ HR.out, hT, show M.readS T.data.toList = .inl n from hr]
          simp [Nat.min_eq_left (Nat.le_of_lt hlt)]
        obtain ⟨z0, z1, z2, z3, zf⟩ := HZ.out W3 hB12
        have HB12 : Hid (Below w.heap.size w W3) := HB1.out.trans (hB12.mono (by omega))
        clear hv hr el HRow HOwn
        go_wp2
        refine bodyPost_ret (v := .tuple #[.slice none 0 0, .slice none 0 0, .agg #[.int .i64 1, .int .i64 k, .int .i64 n, .string ⟨#[]⟩]]) (by simp [results, Tryz.results66, go_sem, z0, z1, z2, z3]) rfl (planned_fault ?_ HP.out rfl)
        exact (((HB12.out.setCell (Nat.le_refl _) _).setCell (Nat.le_refl _) _).setCell (Nat.le_refl _) _).setCell (Nat.le_refl _) _
      | inr p =>
        have el : lineOf (Sum.inr p : Sum Nat M.Pk) = (-1 : Int) := rfl
        rw [el]
        obtain ⟨nv, bv, fv, e, p1, p2, p3⟩ := hv p hr
        simp only [Value.agg.injEq, Array.mk.injEq, List.cons.injEq, Value.string.injEq, and_true] at e
        obtain ⟨rfl, rfl, rfl, rfl, rfl⟩ := e
        have hown3 := own_below (own_below HOwn.out hB2) HB3.out
        have q0 := HC3.out 0 _ rfl
        have q1 := HC3.out 1 _ rfl
        have q2 := HC3.out 2 _ rfl
        have q3 := HC3.out 3 _ rfl
        have q4 := HC3.out 4 _ rfl
        have HRow3 : Hid (PkRowG (Value.slice af fresh.length cf).ownBlock W3 (fresh ++ [p]) (xs ++ [.string ⟨p.name.toArray⟩, .string ⟨p.ver.toArray⟩, .slice x1 n1 c1, .slice x2 n2 c2, .slice x3 n3 c3])) :=
          ((HRow.out.below hB2).snoc (own_blk HOwn.out) p1 p2 p3).below HB3.out
        have HR2 : Hid (M.readAllS ((texts.take (k + 1)).map fun t => t.data.toList) 0 [] = .inr (fresh ++ [p])) := by
          show _ = _
          rw [texts_take hlt, M.readAll_snoc _ _ _ _ _ _ HR.out, hT, show M.readS T.data.toList = .inr p from hr]
          rfl
        have hfn : fresh.length ≤ 20000 := by have := hfl.out; omega
        clear hv hr el HRow p1 p2 p3 HR
        go_wp2_with (at_builtin; refine wpList_append_own_at _ rfl _ _ 77 rfl W1.heap.size 30 i0 _ 5 104 Tryz.underlying77 hi0 hz0 hz1 hz2 rfl (by decide) _ _ _ rfl (hown3.alloc _) ⟨W3.heap.size, 0, none⟩ 1 1 [.string ⟨p.name.toArray⟩, .string ⟨p.ver.toArray⟩, .slice x1 n1 c1, .slice x2 n2 c2, .slice x3 n3 c3] rfl rfl ?c1 ?c2 ?c3 ?c4 ?c5 ?_)
        case c1 => exact five_new _ _ _ _ _ _ _
        case c2 => intro u hu; simp at hu; rcases hu with rfl | rfl | rfl | rfl | rfl <;> rfl
        case c3 => unfold maxLen; omega
        case c4 => omega
        case c5 => simp; have := hB12.size; omega
        intro v4 w4 hown' hgrow _ hat
        have RB : Below W1.heap.size W1 w4 := (hB12.alloc hB12.size _).grown hgrow (by simp; have := hB12.size; omega) (fun j hj => (hown3.lt j hj).1)
        have RG : PkRowG v4.ownBlock w4 (fresh ++ [p]) (xs ++ [.string ⟨p.name.toArray⟩, .string ⟨p.ver.toArray⟩, .slice x1 n1 c1, .slice x2 n2 c2, .slice x3 n3 c3]) :=
          (HRow3.out.below ((Below.refl _ W3).alloc (Nat.le_refl _) _)).step hgrow (hat.imp id (fun h => h.trans (by simp)))
        have RO : w4.ownsRow W1.heap.size 30 5 v4 (fresh ++ [p]).length (xs ++ [.string ⟨p.name.toArray⟩, .string ⟨p.ver.toArray⟩, .slice x1 n1 c1, .slice x2 n2 c2, .slice x3 n3 c3]) := by
          rw [List.length_append, s1]; exact hown'
        clear hown' hgrow hat hown3 HRow3
        go_wp2
        go_roundw
        case rel => exact ⟨k + 1, fresh ++ [p], _, by go_num, by omega, RB, RO, RG, by show _ = _; rw [List.length_append, hfl.out]; rfl, HR2⟩
        case measure => simp [intOf]; omega
    · have hkk : k = texts.length := by omega
      have HR2 : Hid (M.readAllS (texts.map fun t => t.data.toList) 0 [] = .inr fresh) := by
        have h := HR.out
        rw [hkk, List.take_length] at h
        exact h
      have hfn : fresh.length ≤ 20000 := by have := hfl.out; omega
      have HSF : Hid (∀ p ∈ fresh, SmallQ p) := fun p hp => by
        rcases M.readAll_mem _ _ _ _ HR2.out p hp with h | ⟨t, _, h⟩
        · cases h
        · exact read_smallQ h
      have HF : Hid (PksIn wr (.slice af fresh.length cf) fresh) := PksIn.own HRow.out.row HOwn.out
      have HTr : Hid (PksIn wr (.slice at' there.length ct) there) := HT.out.below hbw
      clear hkk HR HRow HOwn HT hfl HX
      go_wp2_with (at_builtin; refine wpList_append_none rfl _ _ rfl (.slice at' there.length ct) there rfl rfl (SrcIn.of HTr.out) (by omega) ?_; intro v' w2 xs2 hown2 hrow2 hB2)
      obtain ⟨W2, hW2⟩ : ∃ W, W = wr := ⟨_, rfl⟩
      subst hW2
      go_loopw [11, 12, 13] (fun av i _ wr => ∃ (j : Nat) (AL : List M.Pk) (ys : List Value), i = .int .i64 j ∧ j ≤ fresh.length ∧ AL.length ≤ 40000 ∧ Below W2.heap.size W2 wr ∧ wr.ownsRow W2.heap.size 30 5 av AL.length ys ∧ Hid (PkRow W2 AL ys) ∧ Hid (AL = there ++ fresh.take j) ∧ Hid (M.addAllS (fresh.take j) 0 there = .inr AL)) (fun _ i _ _ => fresh.length - (intOf i).toNat)
      case atStart =>
        have e : there ++ fresh.take 0 = there := by rw [List.take_zero, List.append_nil]
        exact ⟨0, there, xs2, rfl, Nat.zero_le _, by omega, hB2, hown2, hrow2, e.symm, rfl⟩
      case round =>
        obtain ⟨j, AL, ys, rfl, hj, hal, hBj, hownj, HRowj, HAL, HAdd⟩ := hrel
        obtain ⟨aa, ca, ea⟩ := own_form hownj
        subst ea
        have HAll : Hid (PksIn wr (.slice aa AL.length ca) AL) := PksIn.own (HRowj.out.below hBj) hownj
        have HOwnj : Hid (wr.ownsRow W2.heap.size 30 5 (.slice aa AL.length ca) AL.length ys) := hownj
        have hB1j : Below W1.heap.size W1 wr := bt hBr hBj
        clear hownj hrow2 hown2
        by_cases hlj : j < fresh.length
        · obtain ⟨bf, of, rfl, _, hcapf, nv, bv, fv, o0, o1, o2, o3, o4, hn1, hn2, hn3⟩ := HF.out.cells hlj
          have p0 := (hBj.cell (p := ⟨bf, of + j * 5, none⟩) (World.block_lt_of_cell? _ _ o0)).trans o0
          have p1 := (hBj.cell (p := ⟨bf, of + j * 5 + 1, none⟩) (World.block_lt_of_cell? _ _ o1)).trans o1
          have p2 := (hBj.cell (p := ⟨bf, of + j * 5 + 2, none⟩) (World.block_lt_of_cell? _ _ o2)).trans o2
          have p3 := (hBj.cell (p := ⟨bf, of + j * 5 + 3, none⟩) (World.block_lt_of_cell? _ _ o3)).trans o3
          have p4 := (hBj.cell (p := ⟨bf, of + j * 5 + 4, none⟩) (World.block_lt_of_cell? _ _ o4)).trans o4
          clear o0 o1 o2 o3 o4
          have HRow4 : Hid (PkRow W2 (AL ++ [fresh[j]]) (ys ++ [.string ⟨fresh[j].name.toArray⟩, .string ⟨fresh[j].ver.toArray⟩, nv, bv, fv])) := HRowj.out.snoc hn1 hn2 hn3
          obtain ⟨an, cn, en⟩ := hn1.form
          obtain ⟨ab, cb, eb⟩ := hn2.form
          obtain ⟨ac, cc, ec⟩ := hn3.form
          subst en eb ec
          obtain ⟨Y, hY⟩ : ∃ Y : ByteArray, Y = ⟨fresh[j].name.toArray⟩ := ⟨_, rfl⟩
          obtain ⟨V, hV⟩ : ∃ V : ByteArray, V = ⟨fresh[j].ver.toArray⟩ := ⟨_, rfl⟩
          rw [← hY] at p0
          rw [← hV] at p1
          have hYn : Y.data.toList = fresh[j].name := by rw [hY]
          have cN := fun wx (hb : Below wr.heap.size wr wx) => find_any (.slice aa AL.length ca) AL Y wx (HAll.out.below hb) (by omega)
          have HFn : Hid (findB AL Y = M.findS AL fresh[j].name) := by show M.findS _ _ = _; rw [hYn]
          have HYn : Hid (Y.data.toList = fresh[j].name) := hYn
          have HYV : Hid (Y = ⟨fresh[j].name.toArray⟩ ∧ V = ⟨fresh[j].ver.toArray⟩) := ⟨hY, hV⟩
          clear hn1 hn2 hn3 hYn hY hV
          go_wp2_with fail
          refine (cN _ (Below.refl _ _)).mono ?_
          rintro e w3 ⟨rfl, hB3⟩
          have hB13 : Below W1.heap.size W1 w3 := bt hB1j hB3
          have HBw3 : Hid (Below w.heap.size w w3) := HB1.out.trans (hB13.mono (by omega))
          have k0 := (hB3.cell (p := ⟨bf, of + j * 5, none⟩) (World.block_lt_of_cell? _ _ p0)).trans p0
          have k1 := (hB3.cell (p := ⟨bf, of + j * 5 + 1, none⟩) (World.block_lt_of_cell? _ _ p1)).trans p1
          have k2 := (hB3.cell (p := ⟨bf, of + j * 5 + 2, none⟩) (World.block_lt_of_cell? _ _ p2)).trans p2
          have k3 := (hB3.cell (p := ⟨bf, of + j * 5 + 3, none⟩) (World.block_lt_of_cell? _ _ p3)).trans p3
          have k4 := (hB3.cell (p := ⟨bf, of + j * 5 + 4, none⟩) (World.block_lt_of_cell? _ _ p4)).trans p4
          generalize hfi : findB AL Y = fi at HFn
          clear p0 p1 p2 p3 p4 cN hfi
          by_cases hf : 0 ≤ fi
          · have HP : Hid (M.plannedS there (texts.map fun t => t.data.toList) = .inl ⟨2, j, 0, fresh[j].name⟩) := by
              show _ = _
              unfold M.plannedS
              rw [HR2.out]
              dsimp only
              have e : fresh = fresh.take j ++ fresh[j] :: fresh.drop (j + 1) := by simp
              have h2 := M.addAll_snoc (fresh.take j) 0 there AL fresh[j] (fresh.drop (j + 1)) HAdd.out
              rw [← e, if_pos (by rw [← HFn.out]; exact hf)] at h2
              rw [h2]
              simp [Nat.min_eq_left hj]
            have HPV : Hid (faV ⟨2, j, 0, fresh[j].name⟩ = .agg #[.int .i64 2, .int .i64 j, .int .i64 0, .string Y]) := by show faV _ = _; rw [HYV.out.1]; rfl
            obtain ⟨z0, z1, z2, z3, zf⟩ := HZ.out w3 hB13
            clear HF HTr
            go_wp2
            go_region
            all_goals
              go_wp2
              refine bodyPost_ret (v := .tuple #[.slice none 0 0, .slice none 0 0, .agg #[.int .i64 2, .int .i64 j, .int .i64 0, .string Y]]) (by simp [results, Tryz.results66, go_sem, z0, z1, z2, z3]) rfl (planned_fault ?_ HP.out (by rw [HPV.out]))
              exact below_drewN ((((HBw3.out.setCell (Nat.le_refl _) _).setCell (Nat.le_refl _) _).setCell (Nat.le_refl _) _).setCell (Nat.le_refl _) _) 1
          · have hfneg : ¬ (0 ≤ fi) := hf
            have HAdd2 : Hid (M.addAllS (fresh.take (j + 1)) 0 there = .inr (AL ++ [fresh[j]])) := by
              show _ = _
              have h2 := M.addAll_snoc (fresh.take j) 0 there AL fresh[j] [] HAdd.out
              rw [if_neg (by rw [← HFn.out]; exact hf)] at h2
              rw [List.take_succ_eq_append_getElem hlj]
              exact h2
            have HAL2 : Hid (AL ++ [fresh[j]] = there ++ fresh.take (j + 1)) := by
              show _ = _
              rw [HAL.out, List.take_succ_eq_append_getElem hlj, List.append_assoc]
            have HALn : Hid ((AL ++ [fresh[j]]).length ≤ 40000) := by
              show _ ≤ _
              rw [HAL2.out, List.length_append, List.length_take]; omega
            have hown3 := own_below HOwnj.out hB3
            have HRow5 : Hid (PkRow W2 (AL ++ [fresh[j]]) (ys ++ [.string Y, .string V, .slice an fresh[j].needs.length cn, .slice ab fresh[j].bars.length cb, .slice ac fresh[j].files.length cc])) := by rw [HYV.out.1, HYV.out.2]; exact HRow4.out
            have hB23 : Below W2.heap.size W2 w3 := bt hBj hB3
            clear HRow4 HF HTr
            go_wp2_with (at_builtin; refine wpList_append_own _ rfl _ _ 77 rfl W2.heap.size 30 i0 _ 5 104 Tryz.underlying77 hi0 hz0 hz1 hz2 rfl (by decide) _ _ _ rfl (hown3.alloc _) ⟨w3.heap.size, 0, none⟩ 1 1 [.string Y, .string V, .slice an fresh[j].needs.length cn, .slice ab fresh[j].bars.length cb, .slice ac fresh[j].files.length cc] rfl rfl ?c1 ?c2 ?c3 ?c4 ?c5 ?_)
            case c1 => exact five_new _ _ _ _ _ _ _
            case c2 => intro u hu; simp at hu; rcases hu with rfl | rfl | rfl | rfl | rfl <;> rfl
            case c3 => unfold maxLen; omega
            case c4 => omega
            case c5 => simp; have := hB23.size; omega
            intro v4 w4 hown' hgrow _
            have RB : Below W2.heap.size W2 w4 := (hB23.alloc hB23.size _).grown hgrow (by simp; have := hB23.size; omega) (fun i hi => (hown3.lt i hi).1)
            have RO : w4.ownsRow W2.heap.size 30 5 v4 (AL ++ [fresh[j]]).length (ys ++ [.string Y, .string V, .slice an fresh[j].needs.length cn, .slice ab fresh[j].bars.length cb, .slice ac fresh[j].files.length cc]) := by
              rw [List.length_append]; exact hown'
            clear hown' hgrow hown3
            go_wp2
            go_roundw
            case rel => exact ⟨j + 1, AL ++ [fresh[j]], _, by go_num, by omega, HALn.out, RB, RO, HRow5, HAL2, HAdd2⟩
            case measure => simp [intOf]; omega
        · have hjj : j = fresh.length := by omega
          have HAL2 : Hid (AL = there ++ fresh) := by
            have h := HAL.out
            rw [hjj, List.take_length] at h
            exact h
          have HCh : Hid (M.plannedS there (texts.map fun t => t.data.toList) = M.checkedS there fresh AL) := by
            show _ = _
            unfold M.plannedS
            rw [HR2.out]
            dsimp only
            have h := HAdd.out
            rw [hjj, List.take_length] at h
            rw [h]
          have HSA : Hid (∀ p ∈ AL, SmallQ p) := fun p hp => by
            rw [HAL2.out] at hp
            rcases List.mem_append.1 hp with hp | hp
            · exact HS.out p hp
            · exact HSF.out p hp
          have HFr : Hid (PksIn wr (.slice af fresh.length cf) fresh) := HF.out.below hBj
          have HTw : Hid (PksIn wr (.slice at' there.length ct) there) := HTr.out.below hBj
          have cL := fun wx (hb : Below wr.heap.size wr wx) => lacking_any (.slice aa AL.length ca) AL wx (HAll.out.below hb) (by omega) (fun p hp => (HSA.out p hp).1)
          clear hjj HAdd HAL HRowj HOwnj HF HTr HR2
          go_wp2_with fail
          refine (cL _ (Below.refl _ _)).mono ?_
          rintro e w3 ⟨T1, rfl, hT1, hB3⟩
          have HT1 : Hid (T1.data.toList = M.lackingS AL) := hT1
          clear cL hT1
          by_cases ht1 : T1.toList.isEmpty = true
          · have HC1 : Hid (¬ M.lackingS AL ≠ []) := by show ¬ _; rw [← HT1.out, str_eq ht1]; simp
            have cB := fun wx (hb : Below wr.heap.size wr wx) => barring_any (.slice aa AL.length ca) AL wx (HAll.out.below hb) (by omega) (fun p hp => (HSA.out p hp).1)
            go_wp2_with fail
            refine (cB _ hB3).mono ?_
            rintro e w4 ⟨T2, rfl, hT2, hB4⟩
            have HT2 : Hid (T2.data.toList = M.barringS AL) := hT2
            have hB4' := bt hB3 hB4
            clear cB hT2 hB4
            by_cases ht2 : T2.toList.isEmpty = true
            · have HC2 : Hid (¬ M.barringS AL ≠ []) := by show ¬ _; rw [← HT2.out, str_eq ht2]; simp
              have cC := fun wx (hb : Below wr.heap.size wr wx) => clash_ref (.slice aa AL.length ca) AL wx (HAll.out.below hb) (by omega) (fun p hp => (HSA.out p hp).1) (fun p hp => (HSA.out p hp).2)
              go_wp2_with fail
              refine (cC _ hB4').mono ?_
              rintro e w5 ⟨T3, rfl, hT3, hB5⟩
              have HT3 : Hid (T3.data.toList = M.clashingS AL) := hT3
              have hB5' := bt hB4' hB5
              clear cC hT3 hB5
              by_cases ht3 : T3.toList.isEmpty = true
              · have HC3 : Hid (¬ M.clashingS AL ≠ []) := by show ¬ _; rw [← HT3.out, str_eq ht3]; simp
                have cO := fun wx (hb : Below wr.heap.size wr wx) => order_any (.slice af fresh.length cf) (.slice at' there.length ct) fresh there wx (HFr.out.below hb) (HTw.out.below hb) (by omega) (by omega) (fun p hp => (HSF.out p hp).1) (fun p hp => (HS.out p hp).1)
                go_wp2_with fail
                refine (cO _ hB5').mono ?_
                rintro e w6 ⟨ov, lv, rfl, hov, hlv, hB6⟩
                have hB6' := bt hB5' hB6
                clear cO hB6
                have HT30 : Hid (T3.data.toList = []) := str_eq ht3
                generalize hO : M.orderS there fresh.length fresh [] = R at hov hlv
                have HO : Hid (M.orderS there fresh.length fresh [] = R) := hO
                have hlen : R.2.length ≤ fresh.length := by rw [← hO]; exact order_len there _ _ _
                obtain ⟨al, cl, el⟩ := hlv.form
                subst el
                obtain ⟨ao, co, eo⟩ := hov.form
                subst eo
                have HLV : Hid (PksIn w6 (.slice al R.2.length cl) R.2) := hlv
                have HOV : Hid (RowIn w6 0 w6.heap.size (.slice ao R.1.length co) R.1.length (nmCells R.1)) := hov
                clear hO hov hlv HFr HTw
                obtain ⟨W6, hW6⟩ : ∃ W, W = w6 := ⟨_, rfl⟩
                subst hW6
                go_wp2
                go_loopw [14, 17] (fun t i wr => ∃ (T : ByteArray) (m : Nat), t = .string T ∧ i = .int .i64 m ∧ m ≤ R.2.length ∧ Below W6.heap.size W6 wr ∧ Hid (T.data.toList = (R.2.take m).foldl (fun n p => M.firstS n p.name) [])) (fun _ i _ => R.2.length - (intOf i).toNat)
                case atStart => exact ⟨T3, 0, rfl, rfl, Nat.zero_le _, Below.refl _ _, by show _ = _; rw [HT30.out]; rfl⟩
                case round =>
                  obtain ⟨T, m, rfl, rfl, hm, hBm, HT⟩ := hrel
                  by_cases hlm : m < R.2.length
                  · obtain ⟨bl, ol, rfl, _, hcapl, _, _, _, q0, _⟩ := (HLV.out.below hBm).cells hlm
                    obtain ⟨Y, hY⟩ : ∃ Y : ByteArray, Y = ⟨R.2[m].name.toArray⟩ := ⟨_, rfl⟩
                    rw [← hY] at q0
                    have cF := fun wx => first_any T Y wx
                    have HT2 : Hid ((firstB T Y).data.toList = (R.2.take (m + 1)).foldl (fun n p => M.firstS n p.name) []) := by
                      show _ = _
                      rw [fold_take _ _ hlm, ← HT.out, hY]
                      rfl
                    generalize firstB T Y = Z at cF HT2
                    clear hY
                    go_wp2_with (go_at_call 113; refine (cF _).mono ?_; rintro e w' ⟨rfl, rfl⟩)
                    go_roundw
                    case rel => exact ⟨Z, m + 1, rfl, by go_num, by omega, hBm, HT2⟩
                    case measure => simp [intOf]; omega
                  · have hmm : m = R.2.length := by omega
                    have HT2 : Hid (T.data.toList = M.firstOf R.2) := by
                      have h := HT.out
                      rw [hmm, List.take_length] at h
                      exact h
                    have hB1x := bt (bt hB1j hB6') hBm
                    obtain ⟨z0, z1, z2, z3, zf⟩ := HZ.out wr hB1x
                    have HBx : Hid (Below w.heap.size w wr) := HB1.out.trans (hB1x.mono (by omega))
                    clear hmm HT
                    by_cases ht4 : T.toList.isEmpty = true
                    · have HP : Hid (M.plannedS there (texts.map fun t => t.data.toList) = .inr (AL, R.1)) := by
                        show _ = _
                        rw [HCh.out]
                        unfold M.checkedS
                        rw [if_neg HC1.out, if_neg HC2.out, if_neg HC3.out, HO.out, if_neg (by rw [← HT2.out, str_eq ht4]; simp)]
                      go_wp2
                      refine bodyPost_ret (v := .tuple #[.slice aa AL.length ca, .slice ao R.1.length co, .agg #[.int .i64 0, .int .i64 0, .int .i64 0, .string ⟨#[]⟩]]) (by simp [results, Tryz.results66, go_sem, z0, z1, z2, z3]) rfl ⟨?_, ?_⟩
                      · exact (((HBx.out.setCell (Nat.le_refl _) _).setCell (Nat.le_refl _) _).setCell (Nat.le_refl _) _).setCell (Nat.le_refl _) _
                      · rw [HP.out]
                        refine ⟨_, _, rfl, ?_, ?_⟩
                        · exact ((HAll.out.below hB6').below hBm).same (by rw [setC_size, setC_size, setC_size, setC_size]) (fun a => set_same4 z0 z1 z2 z3 a)
                        · rw [setC_size, setC_size, setC_size, setC_size]
                          exact ((HOV.out.keep (fun g o _ hg => hBm.cell (p := ⟨g, o, none⟩) hg)).wide (Nat.le_refl _) hBm.size).keep (fun _ _ _ _ => set_same4 z0 z1 z2 z3 _)
                    · replace ht4 : T.toList.isEmpty = false := by simpa using ht4
                      have HP : Hid (M.plannedS there (texts.map fun t => t.data.toList) = .inl ⟨7, 0, 0, M.firstOf R.2⟩) := by
                        show _ = _
                        rw [HCh.out]
                        unfold M.checkedS
                        rw [if_neg HC1.out, if_neg HC2.out, if_neg HC3.out, HO.out, if_pos (by rw [← HT2.out]; exact str_ne ht4)]
                      have HPV : Hid (faV ⟨7, 0, 0, M.firstOf R.2⟩ = .agg #[.int .i64 7, .int .i64 0, .int .i64 0, .string T]) := by show faV _ = _; rw [str_of HT2.out]; rfl
                      go_wp2
                      refine bodyPost_ret (v := .tuple #[.slice none 0 0, .slice none 0 0, .agg #[.int .i64 7, .int .i64 0, .int .i64 0, .string T]]) (by simp [results, Tryz.results66, go_sem, z0, z1, z2, z3]) rfl (planned_fault ?_ HP.out (by rw [HPV.out]))
                      exact (((HBx.out.setCell (Nat.le_refl _) _).setCell (Nat.le_refl _) _).setCell (Nat.le_refl _) _).setCell (Nat.le_refl _) _
              · replace ht3 : T3.toList.isEmpty = false := by simpa using ht3
                have HP : Hid (M.plannedS there (texts.map fun t => t.data.toList) = .inl ⟨6, 0, 0, M.clashingS AL⟩) := by
                  show _ = _
                  rw [HCh.out]
                  unfold M.checkedS
                  rw [if_neg HC1.out, if_neg HC2.out, if_pos (by rw [← HT3.out]; exact str_ne ht3)]
                have HPV : Hid (faV ⟨6, 0, 0, M.clashingS AL⟩ = .agg #[.int .i64 6, .int .i64 0, .int .i64 0, .string T3]) := by show faV _ = _; rw [str_of HT3.out]; rfl
                have hB1x := bt hB1j hB5'
                obtain ⟨z0, z1, z2, z3, zf⟩ := HZ.out w5 hB1x
                have HBx : Hid (Below w.heap.size w w5) := HB1.out.trans (hB1x.mono (by omega))
                go_wp2
                refine bodyPost_ret (v := .tuple #[.slice none 0 0, .slice none 0 0, .agg #[.int .i64 6, .int .i64 0, .int .i64 0, .string T3]]) (by simp [results, Tryz.results66, go_sem, z0, z1, z2, z3]) rfl (planned_fault ?_ HP.out (by rw [HPV.out]))
                exact (((HBx.out.setCell (Nat.le_refl _) _).setCell (Nat.le_refl _) _).setCell (Nat.le_refl _) _).setCell (Nat.le_refl _) _
            · replace ht2 : T2.toList.isEmpty = false := by simpa using ht2
              have HP : Hid (M.plannedS there (texts.map fun t => t.data.toList) = .inl ⟨5, 0, 0, M.barringS AL⟩) := by
                show _ = _
                rw [HCh.out]
                unfold M.checkedS
                rw [if_neg HC1.out, if_pos (by rw [← HT2.out]; exact str_ne ht2)]
              have HPV : Hid (faV ⟨5, 0, 0, M.barringS AL⟩ = .agg #[.int .i64 5, .int .i64 0, .int .i64 0, .string T2]) := by show faV _ = _; rw [str_of HT2.out]; rfl
              have hB1x := bt hB1j hB4'
              obtain ⟨z0, z1, z2, z3, zf⟩ := HZ.out w4 hB1x
              have HBx : Hid (Below w.heap.size w w4) := HB1.out.trans (hB1x.mono (by omega))
              go_wp2
              refine bodyPost_ret (v := .tuple #[.slice none 0 0, .slice none 0 0, .agg #[.int .i64 5, .int .i64 0, .int .i64 0, .string T2]]) (by simp [results, Tryz.results66, go_sem, z0, z1, z2, z3]) rfl (planned_fault ?_ HP.out (by rw [HPV.out]))
              exact (((HBx.out.setCell (Nat.le_refl _) _).setCell (Nat.le_refl _) _).setCell (Nat.le_refl _) _).setCell (Nat.le_refl _) _
          · replace ht1 : T1.toList.isEmpty = false := by simpa using ht1
            have HP : Hid (M.plannedS there (texts.map fun t => t.data.toList) = .inl ⟨4, 0, 0, M.lackingS AL⟩) := by
              show _ = _
              rw [HCh.out]
              unfold M.checkedS
              rw [if_pos (by rw [← HT1.out]; exact str_ne ht1)]
            have HPV : Hid (faV ⟨4, 0, 0, M.lackingS AL⟩ = .agg #[.int .i64 4, .int .i64 0, .int .i64 0, .string T1]) := by show faV _ = _; rw [str_of HT1.out]; rfl
            have hB1x := bt hB1j hB3
            obtain ⟨z0, z1, z2, z3, zf⟩ := HZ.out w3 hB1x
            have HBx : Hid (Below w.heap.size w w3) := HB1.out.trans (hB1x.mono (by omega))
            go_wp2
            refine bodyPost_ret (v := .tuple #[.slice none 0 0, .slice none 0 0, .agg #[.int .i64 4, .int .i64 0, .int .i64 0, .string T1]]) (by simp [results, Tryz.results66, go_sem, z0, z1, z2, z3]) rfl (planned_fault ?_ HP.out (by rw [HPV.out]))
            exact (((HBx.out.setCell (Nat.le_refl _) _).setCell (Nat.le_refl _) _).setCell (Nat.le_refl _) _).setCell (Nat.le_refl _) _
end Go.Proofs.YtgnfknjopafngaaGreatDoor
