import Derived.RangeFuncNested
import Derived.RangeFuncBound
import Derived.RangeFuncCalls
import Derived.RangeFuncLeaves
import Derived.Test.YtgnfknjopafngaaGreatDoorKse
import Derived.Test.YtgnfknjopafngaaGreatDoorKsb
import Derived.Test.YtgnfknjopafngaaGreatDoorKsc
namespace Go.Proofs.YtgnfknjopafngaaGreatDoor
open Go Go.RowKit
variable {F : Fence} {n : Nat} {P : Program}
def SeqOn (F : Fence) (n : Nat) (P : Program) (gf : Nat) (fr lb : Array Value) (m : Nat) (encs : Nat → Array Value) (w0 : World) (Pre : World → Prop) : Prop :=
  ∀ (l : Nat) (J : Nat → (Nat → Prop) → World → Prop) (W : World) (c : Nat → Prop), Pre W → Below w0.heap.size w0 W →
    (∀ k c W1 W2, J k c W1 → Chg (fun j => W.heap.size ≤ j ∧ ¬ c j) W1 W2 → J k c W2) →
    (∀ k c W1 j, J k c W1 → c j → w0.heap.size ≤ j ∧ j < W1.heap.size) →
    (∀ k c W1, k < m → J k c W1 → YieldAt F (n - 1) P l (encs k) W1 fun e W' => e = .returned (.bool true) ∧ ∃ c', J (k + 1) c' W' ∧ Chg c W1 W' ∧ ∀ j, c' j → c j ∨ W1.heap.size ≤ j) →
    J 0 c W →
    CallsIn F n P gf (fr ++ #[.func (.yield l) #[] #[]] ++ lb) W fun e W' => (∃ v, e = .returned v) ∧ ∃ c', J m c' W'
theorem round_any {m m' : Nat} {P : Program} {l : Nat} {f : FuncId} {tmps : Array Value} {assign body : Code} {w : World} {R : Ending → World → Prop} (h : RoundIn Fence.wide m P l f tmps assign body w R) : RoundIn Fence.wide m' P l f tmps assign body w R :=
  ⟨h.1, fun c cs _ => h.2 c cs (fun d e => by cases e)⟩
theorem yield_any {m m' : Nat} {P : Program} {l : Nat} {args : Array Value} {W : World} {R : Ending → World → Prop} (h : YieldAt Fence.wide m P l args W R) : YieldAt Fence.wide m' P l args W R := by
  obtain ⟨fn, tmps, assign, body, hy, hR⟩ := h
  exact ⟨fn, tmps, assign, body, hy, round_any hR⟩
theorem putObj_chg {G : Nat → Prop} {W : World} {l : Nat} (o : Obj) (h : G l) : Chg G W (W.putObj l o) :=
  ⟨rfl, rfl, rfl, by simp [World.putObj], fun k _ hn => World.putObj_heap_other (fun e => hn (by rw [e]; exact h))⟩
theorem wpIn_range_on {g : Operand} {ps : Array Tmp} {assign body : Code} {Q : Exit → Act → World → Prop} {a : Act} {w : World}
    (hro : F.round = none) (h1 : 1 ≤ n) {gf : Nat} {fr lb : Array Value} (hg : a.eval g = .func (.func gf) fr lb) (hFg : F.fn gf) (eg : ∀ args w, (callFunc gf args).run P w = .ok (.enter gf args) w)
    {m : Nat} {encs : Nat → Array Value} {w0 : World} {Pre : World → Prop} (hseq : SeqOn F (n - 1) P gf fr lb m encs w0 Pre) (hpre : ∀ W, Below w.heap.size w W → Pre W) (hb0 : Below w0.heap.size w0 w) (hps : ∀ k, (encs k).size = ps.size)
    (I : Nat → (Nat → Prop) → World → Prop) (hIa : ∀ k c W1 W2, I k c W1 → Chg (fun j => w.heap.size ≤ j ∧ ¬ c j) W1 W2 → I k c W2) (hIc : ∀ k c W1 j, I k c W1 → c j → w0.heap.size ≤ j ∧ j < W1.heap.size)
    (c0 : Nat → Prop) (h0 : I 0 c0 w) (a₁ : Nat → Act)
    (hassign : ∀ (l k : Nat) (W : World) (K : Act → World → Prop), K (a₁ k) W →
      assign.wpIn (F.inRound l) (n - 1 - 1) P (Exit.then K (fun _ _ _ => False)) { tmps := (ps.zip (encs k)).foldl (fun t (p, v) => t.setIfInBounds p v) a.tmps, defers := [] } W)
    (hbody : ∀ (l k : Nat) (c : Nat → Prop) (W : World), k < m → I k c W →
      body.wpIn (F.inRound l) (n - 1 - 1) P (fun e _ W' => e = .normal ∧ ∃ c', I (k + 1) c' W' ∧ Chg c W W' ∧ ∀ j, c' j → c j ∨ W.heap.size ≤ j) (a₁ k) W)
    (hdone : ∀ (D : Nat) (c : Nat → Prop) (W : World), w.heap.size ≤ D → ¬ c D → I m c W → W.heap[D]? = some (.deferred (some [])) → Q .normal { a with defers := { target := .collected D, args := #[] } :: a.defers } W) :
    (Code.rangeFunc g ps assign body).wpIn F n P Q a w := by
  refine wpIn_rangeFunc ?_
  intro fn hfn
  rw [hro]
  obtain ⟨rec, hrec⟩ : ∃ rec : LoopState → Loop, rec = fun st => { state := st, pending := none, fn, tmps := a.tmps, params := ps, assign, body, defers := w.heap.size } := ⟨_, rfl⟩
  obtain ⟨W1, hW1⟩ : ∃ W1, (w.alloc (.deferred (some []))).alloc (.loop (rec .ready)) = W1 := ⟨_, rfl⟩
  have hs1 : W1.heap.size = w.heap.size + 2 := by rw [← hW1]; simp
  have hBW : Below w.heap.size w W1 := by rw [← hW1]; exact bt ((Below.refl _ w).alloc (Nat.le_refl _) _) ((Below.refl _ _).alloc (Nat.le_refl _) _)
  have hL1 : W1.heap[w.heap.size + 1]? = some (.loop (rec .ready)) := by
    rw [← hW1]
    have := World.alloc_heap_new (w.alloc (.deferred (some []))) (.loop (rec .ready))
    rwa [World.size_alloc] at this
  have hK1 : W1.heap[w.heap.size]? = some (.deferred (some [])) := by
    rw [← hW1]; exact (Below.heap_alloc _ _ _ (by simp)).trans (World.alloc_heap_new w _)
  refine ⟨w.heap.size + 1, [{ target := .collected w.heap.size, args := #[] }], W1, { target := .fn (.func gf) lb, args := fr ++ #[.func (.yield (w.heap.size + 1)) #[] #[]] }, W1, gf,
    fr ++ #[.func (.yield (w.heap.size + 1)) #[] #[]] ++ lb, W1, ?_, ?_, ?_, ?_, fun _ => h1, ?_⟩
  · rw [← hW1, hrec]; exact run_enterLoop_outer _ _ _ _ _
  · simp only [resolve, hg]
    simp [go_sem]
  · intro f' hf'; simp [Target.leads] at hf'; subst hf'; exact hFg
  · simp [invoke, go_sem, eg]
  · have hI1 : I 0 c0 W1 := hIa 0 c0 w W1 h0 (Chg.below hBW)
    -- the loop's own blocks, and its record
    refine (hseq (w.heap.size + 1)
      (fun k c W => ∃ cc, I k cc W ∧ ¬ cc (w.heap.size + 1) ∧ ¬ cc w.heap.size ∧ W.heap[w.heap.size + 1]? = some (.loop (rec .ready)) ∧ W.heap[w.heap.size]? = some (.deferred (some [])) ∧ ∀ j, c j ↔ cc j ∨ j = w.heap.size + 1)
      W1 (fun j => c0 j ∨ j = w.heap.size + 1) (hpre W1 hBW) (hb0.trans (hBW.mono hb0.size)) ?_ ?_ ?_ ?_).mono ?_
    · rintro k c W2 W3 ⟨cc, hi, n1, n2, hl, hk, hc⟩ hg'
      have hlt : w.heap.size + 1 < W2.heap.size := (Array.getElem?_eq_some_iff.1 hl).1
      refine ⟨cc, hIa k cc W2 W3 hi (hg'.weak (fun j _ hj => ⟨by omega, fun e => hj.2 ((hc j).2 (.inl e))⟩)), n1, n2, (hg'.block _ hlt (fun e => by omega)).trans hl, (hg'.block _ (by omega) (fun e => by omega)).trans hk, hc⟩
    · rintro k c W2 j ⟨cc, hi, n1, n2, hl, hk, hc⟩ hj
      rcases (hc j).1 hj with e | rfl
      · exact hIc k cc W2 j hi e
      · exact ⟨by have := hb0.size; omega, (Array.getElem?_eq_some_iff.1 hl).1⟩
    · -- one round
      rintro k c W hkm ⟨cc, hi, n1, n2, hl, hk, hc⟩
      have hlt : w.heap.size + 1 < W.heap.size := (Array.getElem?_eq_some_iff.1 hl).1
      have hy := run_yield (P := P) (args := encs k) hl (by rw [hrec]; exact hps k)
      rw [hrec] at hy
      refine ⟨fn, _, assign, body, hy, roundIn_of_wpIn hfn (hassign _ k W _ ⟨_, run_beginRound hl (by rw [hrec]), ?_⟩)⟩
      have hbusy : ({ rec .ready with state := .busy } : Loop) = rec .busy := by rw [hrec]
      rw [hbusy]
      have hl2 : (W.putObj (w.heap.size + 1) (.loop (rec .busy))).heap[w.heap.size + 1]? = some (.loop (rec .busy)) := World.putObj_heap_same hlt
      have hk2 : (W.putObj (w.heap.size + 1) (.loop (rec .busy))).heap[w.heap.size]? = some (.deferred (some [])) := (World.putObj_heap_other (by omega)).trans hk
      have hc2 : Chg (fun j => w.heap.size ≤ j ∧ ¬ cc j) W (W.putObj (w.heap.size + 1) (.loop (rec .busy))) := putObj_chg _ ⟨by omega, n1⟩
      have hi2 := hIa k cc W _ hi hc2
      have hsz2 : (W.putObj (w.heap.size + 1) (.loop (rec .busy))).heap.size = W.heap.size := by simp [World.putObj]
      have hcl : Chg c W (W.putObj (w.heap.size + 1) (.loop (rec .busy))) := putObj_chg _ ((hc _).2 (.inr rfl))
      refine wpIn_mono (hbody _ k cc _ hkm hi2) ?_
      rintro e a3 W3 ⟨rfl, c3, hi3, hg3, hc3⟩
      have hl3 : W3.heap[w.heap.size + 1]? = some (.loop (rec .busy)) := (hg3.block _ (by omega) n1).trans hl2
      have hk3 : W3.heap[w.heap.size]? = some (.deferred (some [])) := (hg3.block _ (by omega) n2).trans hk2
      have he := run_endRound (P := P) none hl3
      have hend : ({ rec .busy with state := .ready, pending := none } : Loop) = rec .ready := by rw [hrec]
      have n3 : ∀ j, j < W.heap.size → ¬ cc j → ¬ c3 j := fun j hj hn e => by
        rcases hc3 j e with e | e
        · exact hn e
        · omega
      refine ⟨_, _, he, rfl, fun j => c3 j ∨ j = w.heap.size + 1, ⟨c3, hIa (k + 1) c3 W3 _ hi3 (putObj_chg _ ⟨by omega, n3 _ hlt n1⟩), n3 _ hlt n1, n3 _ (by omega) n2, ?_, (World.putObj_heap_other (by omega)).trans hk3, fun j => Iff.rfl⟩, ?_, ?_⟩
      · rw [World.putObj_heap_same (Array.getElem?_eq_some_iff.1 hl3).1]
        rw [hrec]
        rfl
      · refine (hcl.then hg3 (fun j _ e => (hc j).2 (.inl e))).then (putObj_chg (G := fun j => j = w.heap.size + 1) _ rfl) (fun j _ e => (hc j).2 (.inr e))
      · intro j hj
        rcases hj with e | e
        · rcases hc3 j e with e | e
          · exact .inl ((hc j).2 (.inl e))
          · exact .inr (by omega)
        · exact .inl ((hc j).2 (.inr e))
    · have hn1 : ∀ j, w.heap.size ≤ j → ¬ c0 j := fun j hj e => by have := (hIc 0 c0 w j h0 e).2; omega
      exact ⟨c0, hI1, hn1 _ (by omega), hn1 _ (Nat.le_refl _), hL1, hK1, fun j => Iff.rfl⟩
    · rintro e W2 ⟨⟨v, rfl⟩, c, cc, hi, n1, n2, hl, hk, hc⟩
      refine ⟨none, _, by have := run_endLoop (P := P) hl (by rw [hrec]; simp); rw [hrec] at this; exact this, ?_⟩
      exact hdone _ cc _ (Nat.le_refl _) n2 (hIa m cc W2 _ hi (putObj_chg _ ⟨by omega, n1⟩)) ((World.putObj_heap_other (by omega)).trans hk)
end Go.Proofs.YtgnfknjopafngaaGreatDoor
namespace Go.Proofs.YtgnfknjopafngaaGreatDoor
namespace M
def fitsS (c : Ch) (p : Pk) : Bool :=
  if c.name = p.name then
    (if c.sign = [60, 60] then decide (verC p.ver c.ver < 0)
    else if c.sign = [60, 61] then decide (verC p.ver c.ver ≤ 0)
    else if c.sign = [61] then decide (verC p.ver c.ver = 0)
    else if c.sign = [62, 61] then decide (0 ≤ verC p.ver c.ver)
    else if c.sign = [62, 62] then decide (0 < verC p.ver c.ver)
    else true)
  else false
def any1S (g : List Ch) (l : List Pk) : Bool := g.any fun c => l.any fun p => fitsS c p
def firstS (a b : List UInt8) : List UInt8 := if a = [] ∨ (b ≠ [] ∧ Op.bytesLess b a = true) then b else a
def findS (l : List Pk) (n : List UInt8) : Int := match l.findIdx? (fun p => p.name == n) with
  | some i => i
  | none => -1
def lackG (l : List Pk) (nm : List UInt8) (n : List UInt8) (g : List Ch) : List UInt8 := if any1S g l = true then n else firstS n nm
def lackP (l : List Pk) (n : List UInt8) (p : Pk) : List UInt8 := p.needs.foldl (lackG l p.name) n
def lackingS (l : List Pk) : List UInt8 := l.foldl (lackP l) []
def barG (l : List Pk) (i : Nat) (p : Pk) (n : List UInt8) (k : Nat) : List UInt8 := match l[k]? with
  | none => n
  | some q => if any1S p.bars [q] = true ∧ k ≠ i then firstS n p.name else n
def barP (l : List Pk) (n : List UInt8) (i : Nat) : List UInt8 := match l[i]? with
  | none => n
  | some p => (List.range l.length).foldl (barG l i p) n
def barringS (l : List Pk) : List UInt8 := (List.range l.length).foldl (barP l) []
def clB (i k : Nat) (p : List UInt8) (n : List UInt8) (g : Fl) : List UInt8 := if over p g.path = true ∨ (p = g.path ∧ i ≠ k) then firstS n p else n
def clA (i k : Nat) (fs : List Fl) (n : List UInt8) (f : Fl) : List UInt8 := fs.foldl (clB i k f.path) n
def clK (l : List Pk) (i : Nat) (p : Pk) (n : List UInt8) (k : Nat) : List UInt8 := match l[k]? with
  | none => n
  | some q => p.files.foldl (clA i k q.files) n
def clI (l : List Pk) (n : List UInt8) (i : Nat) : List UInt8 := match l[i]? with
  | none => n
  | some p => (List.range l.length).foldl (clK l i p) n
def clashingS (l : List Pk) : List UInt8 := (List.range l.length).foldl (clI l) []
def waitsG (p q : Pk) (there : List Pk) (g : List Ch) : Bool := !any1S g there && (!any1S g [p] && any1S g [q])
def waitsS (p q : Pk) (there : List Pk) : Bool := p.needs.any (waitsG p q there)
def holdsS (l there : List Pk) (i : Nat) (p : Pk) (f : Bool) (k : Nat) : Bool := match l[k]? with
  | none => f
  | some q => if waitsS p q there = true ∧ k ≠ i then false else f
def freeS (l there : List Pk) (i : Nat) (p : Pk) : Bool := (List.range l.length).foldl (holdsS l there i p) true
def readyI (l there : List Pk) (n : List UInt8) (i : Nat) : List UInt8 := match l[i]? with
  | none => n
  | some p => if freeS l there i p = true then firstS n p.name else n
def readyS (l there : List Pk) : List UInt8 := (List.range l.length).foldl (readyI l there) []
def orderS (there : List Pk) : Nat → List Pk → List (List UInt8) → List (List UInt8) × List Pk
  | 0, l, out => (out, l)
  | f + 1, l, out => if readyS l there = [] then (out, l) else match l.findIdx? (fun p => p.name == readyS l there) with
    | none => (out, l)
    | some k => orderS there f (l.take k ++ l.drop (k + 1)) (out ++ [readyS l there])
theorem firstS_or (a b : List UInt8) : firstS a b = a ∨ firstS a b = b := by
  unfold firstS
  by_cases h : a = [] ∨ (b ≠ [] ∧ Op.bytesLess b a = true)
  · rw [if_pos h]; exact .inr rfl
  · rw [if_neg h]; exact .inl rfl
theorem ready_mem (l there : List Pk) (n : Nat) : (List.range n).foldl (readyI l there) [] = [] ∨ ∃ p ∈ l, p.name = (List.range n).foldl (readyI l there) [] := by
  induction n with
  | zero => exact .inl rfl
  | succ n ih =>
    rw [List.range_succ, List.foldl_append]
    generalize (List.range n).foldl (readyI l there) [] = a at ih
    show readyI l there a n = [] ∨ ∃ p ∈ l, p.name = readyI l there a n
    unfold readyI
    cases h : l[n]? with
    | none => exact ih
    | some p =>
      dsimp only
      by_cases hf : freeS l there n p = true
      · rw [if_pos hf]
        rcases firstS_or a p.name with e | e
        · rw [e]; exact ih
        · rw [e]; exact .inr ⟨p, List.mem_of_getElem? h, rfl⟩
      · rw [if_neg hf]; exact ih
theorem ready_find {l there : List Pk} (h : readyS l there ≠ []) : ∃ k, k < l.length ∧ l.findIdx? (fun p => p.name == readyS l there) = some k := by
  rcases ready_mem l there l.length with e | ⟨p, hp, e⟩
  · exact absurd e h
  · cases hf : l.findIdx? (fun p => p.name == readyS l there) with
    | none =>
      have := List.findIdx?_eq_none_iff.1 hf p hp
      rw [e] at this
      simp [readyS] at this
    | some k => exact ⟨k, (List.findIdx?_eq_some_iff_getElem.1 hf).1, rfl⟩
theorem order_step {l there : List Pk} {out : List (List UInt8)} {k : Nat} (h : readyS l there ≠ []) (hk : k < l.length) (hf : l.findIdx? (fun p => p.name == readyS l there) = some k) :
    orderS there l.length l out = orderS there (l.take k ++ l.drop (k + 1)).length (l.take k ++ l.drop (k + 1)) (out ++ [readyS l there]) := by
  obtain ⟨n, hn⟩ : ∃ n, l.length = n + 1 := ⟨l.length - 1, by omega⟩
  have e : (l.take k ++ l.drop (k + 1)).length = n := by rw [List.length_append, List.length_take, List.length_drop]; omega
  rw [e, hn]
  conv => lhs; unfold orderS
  rw [if_neg h, hf]
end M
end Go.Proofs.YtgnfknjopafngaaGreatDoor
namespace Go.Proofs.YtgnfknjopafngaaGreatDoor
open Go.RowKit
set_option maxRecDepth 100000 in
set_option maxHeartbeats 400000 in
theorem isNoDigit_any (c : Int) (w : World) :
    Calls Tryz.prog 285 #[.int .u8 c] w fun e w' => e = .returned (.bool (M.isNo c)) ∧ w' = w := by
  go_enter Tryz.func285, Tryz.ntmps285
  go_wp2_with (go_at_call 211; refine (isDigit_any _ _).mono ?_; rintro e w' ⟨rfl, rfl⟩)
  go_ret
  exact ⟨rfl, rfl⟩
theorem leadNo_any (s : ByteArray) (w : World) (hs : s.size ≤ maxLen) :
    Calls Tryz.prog 252 #[.string s, .func (.func 285) #[] #[]] w fun e w' => e = .returned (.int .i64 (M.lead M.isNo s.data.toList)) ∧ w' = w :=
  lead_any 285 M.isNo (enters_of Tryz.func285 (by kernel_rfl) rfl) isNoDigit_any s w hs
theorem leadD_any (s : ByteArray) (w : World) (hs : s.size ≤ maxLen) :
    Calls Tryz.prog 252 #[.string s, .func (.func 211) #[] #[]] w fun e w' => e = .returned (.int .i64 (M.lead M.isD s.data.toList)) ∧ w' = w :=
  lead_any 211 M.isD (enters_of Tryz.func211 (by kernel_rfl) rfl) isDigit_any s w hs
set_option maxRecDepth 100000 in
set_option maxHeartbeats 400000 in
theorem isNaN_any (c : Int) (w : World) :
    Calls Tryz.prog 292 #[.int .i64 c] w fun e w' => e = .returned (.bool false) ∧ w' = w := by
  go_enter Tryz.func292, Tryz.ntmps292
  go_wp2
  go_ret
  exact ⟨ret_bool (by simp), rfl⟩
set_option maxRecDepth 100000 in
set_option maxHeartbeats 400000 in
theorem cmpInt_any (x y : Int) (w : World) :
    Calls Tryz.prog 289 #[.int .i64 x, .int .i64 y] w fun e w' => e = .returned (.int .i64 (M.cmpI x y)) ∧ w' = w := by
  by_cases h1 : x < y
  · go_enter Tryz.func289, Tryz.ntmps289
    go_wp2_with (go_at_call 292; refine (isNaN_any _ _).mono ?_; rintro e w' ⟨rfl, rfl⟩)
    go_ret
    exact ⟨ret_int (by unfold M.cmpI; rw [if_pos h1]), rfl⟩
  · by_cases h2 : y < x
    · go_enter Tryz.func289, Tryz.ntmps289
      go_wp2_with (go_at_call 292; refine (isNaN_any _ _).mono ?_; rintro e w' ⟨rfl, rfl⟩)
      go_ret
      exact ⟨ret_int (by unfold M.cmpI; rw [if_neg (by omega), if_pos h2]), rfl⟩
    · go_enter Tryz.func289, Tryz.ntmps289
      go_wp2_with (go_at_call 292; refine (isNaN_any _ _).mono ?_; rintro e w' ⟨rfl, rfl⟩)
      go_ret
      exact ⟨ret_int (by unfold M.cmpI; rw [if_neg (by omega), if_neg (by omega)]), rfl⟩
theorem ranks_get (s : ByteArray) (k : Nat) (h : k < s.size) : (M.ranks s.data.toList).getD k 0 = M.rk s[k].toNat := by
  unfold M.ranks
  have h' : k < s.data.toList.length := by simpa using h
  rw [List.getD_eq_getElem?_getD, List.getElem?_map, List.getElem?_eq_getElem h']
  rfl
theorem ranks_end (s : ByteArray) (k : Nat) (h : s.size ≤ k) : (M.ranks s.data.toList).getD k 0 = 0 := by
  unfold M.ranks
  have h' : s.data.toList.length ≤ k := by simpa using h
  rw [List.getD_eq_getElem?_getD, List.getElem?_eq_none (by simpa using h')]
  rfl
set_option maxRecDepth 100000 in
set_option maxHeartbeats 400000 in
theorem rank_end (s : ByteArray) (k : Nat) (w : World) (h : s.size ≤ k) :
    Calls Tryz.prog 290 #[.string s, .int .i64 k] w fun e w' => e = .returned (.int .i64 0) ∧ w' = w := by
  go_enter Tryz.func290, Tryz.ntmps290
  go_wp2
  go_ret
  exact ⟨rfl, rfl⟩
set_option maxRecDepth 100000 in
set_option maxHeartbeats 400000 in
theorem rank_in (s : ByteArray) (k : Nat) (w : World) (h : k < s.size) :
    Calls Tryz.prog 290 #[.string s, .int .i64 k] w fun e w' => e = .returned (.int .i64 (M.rk s[k].toNat)) ∧ w' = w := by
  have hb := s[k].toNat_lt
  by_cases h1 : (s[k].toNat : Int) = 126
  · have h1' : ((s[k].toNat : Int) == 126) = true := by simpa using h1
    have H1 : Hid ((s[k].toNat : Int) = 126) := h1
    clear h1
    go_enter Tryz.func290, Tryz.ntmps290
    go_wp2
    go_ret
    exact ⟨ret_int (by unfold M.rk; rw [if_pos H1.out]), rfl⟩
  · have h1' : ((s[k].toNat : Int) == 126) = false := by simpa using h1
    have H1 : Hid (¬ (s[k].toNat : Int) = 126) := h1
    clear h1
    by_cases h2 : M.isLt s[k].toNat = true
    · go_enter Tryz.func290, Tryz.ntmps290
      go_wp2_with (go_at_call 213; refine (isLetter_any _ _).mono ?_; rintro e w' ⟨rfl, rfl⟩)
      go_ret
      exact ⟨ret_int (by unfold M.rk; rw [if_neg H1.out, if_pos h2]), rfl⟩
    · have h2' : M.isLt s[k].toNat = false := by simpa using h2
      clear h2
      go_enter Tryz.func290, Tryz.ntmps290
      go_wp2_with (go_at_call 213; refine (isLetter_any _ _).mono ?_; rintro e w' ⟨rfl, rfl⟩)
      go_ret
      exact ⟨ret_int (by unfold M.rk; rw [if_neg H1.out, h2']; simp), rfl⟩
theorem rank_any (s : ByteArray) (k : Nat) (w : World) :
    Calls Tryz.prog 290 #[.string s, .int .i64 k] w fun e w' => e = .returned (.int .i64 (M.rkAt s.data.toList k)) ∧ w' = w := by
  unfold M.rkAt
  by_cases h : k < s.size
  · rw [ranks_get s k h]; exact rank_in s k w h
  · rw [ranks_end s k (by omega)]; exact rank_end s k w (by omega)
end Go.Proofs.YtgnfknjopafngaaGreatDoor
namespace Go.Proofs.YtgnfknjopafngaaGreatDoor
open Go.RowKit
set_option maxRecDepth 100000 in
set_option maxHeartbeats 400000 in
theorem words_any (a b : ByteArray) (w : World) (ha : a.size ≤ maxLen) (hb : b.size ≤ maxLen) :
    Calls Tryz.prog 286 #[.string a, .string b] w fun e w' => e = .returned (.int .i64 (M.wordC a.data.toList b.data.toList)) ∧ w' = w := by
  unfold maxLen at ha hb
  go_enter Tryz.func286, Tryz.ntmps286
  go_wp2
  go_loop [5, 6, 12] (fun _ _ c => ∃ k : Nat, (k : Int) ≤ max (a.size : Int) (b.size : Int) ∧ c = .int .i64 k ∧ ∀ j, j < k → M.rkAt a.data.toList j = M.rkAt b.data.toList j) (fun _ _ c => (max (a.size : Int) (b.size : Int) - intOf c).toNat)
  case atStart => exact ⟨0, by omega, rfl, fun j h => by omega⟩
  case round =>
    obtain ⟨k, hk1, rfl, hj⟩ := hrel
    have HJ : Hid (∀ j, j < k → M.rkAt a.data.toList j = M.rkAt b.data.toList j) := hj
    clear hj
    by_cases hlt : (k : Int) < max (a.size : Int) (b.size : Int)
    · by_cases hd : M.cmpI (M.rkAt a.data.toList k) (M.rkAt b.data.toList k) = 0
      · have hd' : (M.cmpI (M.rkAt a.data.toList k) (M.rkAt b.data.toList k) != 0) = false := by simpa using hd
        have HD : Hid (M.cmpI (M.rkAt a.data.toList k) (M.rkAt b.data.toList k) = 0) := hd
        clear hd
        go_wp2_with (first | (go_at_call 290; refine (rank_any _ _ _).mono ?_; rintro e w' ⟨rfl, rfl⟩) | (go_at_call 289; refine (cmpInt_any _ _ _).mono ?_; rintro e w' ⟨rfl, rfl⟩))
        go_round
        case rel =>
          refine ⟨k + 1, by omega, by go_num, fun j hj => ?_⟩
          by_cases hjk : j < k
          · exact HJ.out j hjk
          · obtain rfl : j = k := by omega
            exact M.cmpI_zero.mp HD.out
        case measure => simp [intOf]; omega
      · have hd' : (M.cmpI (M.rkAt a.data.toList k) (M.rkAt b.data.toList k) != 0) = true := by simpa using hd
        have HD : Hid (¬ M.cmpI (M.rkAt a.data.toList k) (M.rkAt b.data.toList k) = 0) := hd
        clear hd
        go_wp2_with (first | (go_at_call 290; refine (rank_any _ _ _).mono ?_; rintro e w' ⟨rfl, rfl⟩) | (go_at_call 289; refine (cmpInt_any _ _ _).mono ?_; rintro e w' ⟨rfl, rfl⟩))
        go_ret
        exact ⟨ret_int (M.wordC_diff HJ.out HD.out).symm, rfl⟩
    · go_wp2
      go_ret
      exact ⟨ret_int (M.wordC_same HJ.out (by simp; omega) (by simp; omega)).symm, rfl⟩
set_option maxRecDepth 100000 in
set_option maxHeartbeats 400000 in
theorem trimByte_any (s : ByteArray) (w : World) :
    Calls Tryz.prog 293 #[.string s, .int .u8 48] w fun e w' => e = .returned (.string ⟨(M.strip s.data.toList).toArray⟩) ∧ w' = w := by
  go_enter Tryz.func293, Tryz.ntmps293
  go_wp2
  go_loop [0] (fun v => ∃ t : ByteArray, v = .string t ∧ t.size ≤ s.size ∧ M.strip t.data.toList = M.strip s.data.toList) (fun v => lenOf v)
  case atStart => exact ⟨s, rfl, Nat.le_refl _, rfl⟩
  case round =>
    obtain ⟨t, rfl, hts, ht⟩ := hrel
    have HT : Hid (M.strip t.data.toList = M.strip s.data.toList) := ht
    clear ht
    by_cases h0 : 0 < t.size
    · by_cases h1 : (t[0].toNat : Int) = 48
      · have h1' : ((t[0].toNat : Int) == 48) = true := by simpa using h1
        have H1 : Hid ((t[0].toNat : Int) = 48) := h1
        clear h1
        go_wp2
        go_round
        case rel =>
          refine ⟨_, rfl, ?_, ?_⟩
          · have := ext_size t 1 t.size; omega
          · rw [ext_from, ← HT.out]
            exact M.strip_nought (by simpa using h0) (by have := H1.out; show t[0].toNat = 48; omega)
        case measure => simp [lenOf]; omega
      · have h1' : ((t[0].toNat : Int) == 48) = false := by simpa using h1
        have H1 : Hid (¬ (t[0].toNat : Int) = 48) := h1
        clear h1
        go_wp2
        go_ret
        refine ⟨ret_str ?_, rfl⟩
        refine bytes_of ?_
        show t.data.toList = _
        rw [mk_toList, ← HT.out, M.strip_stop (by simpa using h0) (by have := H1.out; show ¬ t[0].toNat = 48; omega)]
    · go_wp2
      go_ret
      refine ⟨ret_str ?_, rfl⟩
      refine bytes_of ?_
      show t.data.toList = _
      rw [mk_toList, ← HT.out, M.strip_nil (by simpa using h0)]
set_option maxRecDepth 100000 in
set_option maxHeartbeats 400000 in
theorem trimLeft_any (s : ByteArray) (w : World) :
    Calls Tryz.prog 291 #[.string s, .string ⟨#[48]⟩] w fun e w' => e = .returned (.string ⟨(M.strip s.data.toList).toArray⟩) ∧ w' = w := by
  by_cases h0 : s.toList.isEmpty = true
  · go_enter Tryz.func291, Tryz.ntmps291
    go_wp2
    go_ret
    refine ⟨ret_str (bytes_of ?_), rfl⟩
    show s.data.toList = _
    rw [Lib.toList_data] at h0
    rw [mk_toList, M.strip_nil (by simp at h0; simp [h0])]
  · have h0' : s.toList.isEmpty = false := by simpa using h0
    clear h0
    go_enter Tryz.func291, Tryz.ntmps291
    go_wp2_with (go_at_call 293; refine (trimByte_any _ _).mono ?_; rintro e w' ⟨rfl, rfl⟩)
    go_ret
    exact ⟨rfl, rfl⟩
set_option maxRecDepth 100000 in
set_option maxHeartbeats 400000 in
theorem bytealg_any (a b : ByteArray) (w : World) :
    Calls Tryz.prog 180 #[.string a, .string b] w fun e w' => e = .returned (.int .i64 (Lib.compareBytes a.data.toList b.data.toList)) ∧ w' = w := by
  go_enter Tryz.func180, Tryz.ntmps180
  go_wp2
  rw [run_callFunc_extern Tryz.func231 (by kernel_rfl) (by kernel_rfl) (by kernel_rfl) (e := Extern.BytealgCompare.compare) (by kernel_rfl), Lib.run_compareString]
  simp only [Result.andThen]
  rw [Oper.upon_value]
  go_wp2
  go_ret
  exact ⟨rfl, rfl⟩
set_option maxRecDepth 100000 in
set_option maxHeartbeats 400000 in
theorem scompare_any (a b : ByteArray) (w : World) :
    Calls Tryz.prog 141 #[.string a, .string b] w fun e w' => e = .returned (.int .i64 (Lib.compareBytes a.data.toList b.data.toList)) ∧ w' = w := by
  go_enter Tryz.func141, Tryz.ntmps141
  go_wp2_with (go_at_call 180; refine (bytealg_any _ _ _).mono ?_; rintro e w' ⟨rfl, rfl⟩)
  go_ret
  exact ⟨rfl, rfl⟩
set_option maxRecDepth 100000 in
set_option maxHeartbeats 400000 in
theorem numbers_any (a b : ByteArray) (w : World) :
    Calls Tryz.prog 287 #[.string a, .string b] w fun e w' => e = .returned (.int .i64 (M.numC a.data.toList b.data.toList)) ∧ w' = w := by
  by_cases h : M.cmpI (M.strip a.data.toList).length (M.strip b.data.toList).length = 0
  · have h' : (M.cmpI (M.strip a.data.toList).length (M.strip b.data.toList).length != 0) = false := by simpa using h
    have H : Hid (M.cmpI (M.strip a.data.toList).length (M.strip b.data.toList).length = 0) := h
    clear h
    go_enter Tryz.func287, Tryz.ntmps287
    go_wp2_with (first | (go_at_call 291; refine (trimLeft_any _ _).mono ?_; rintro e w' ⟨rfl, rfl⟩) | (go_at_call 289; refine (cmpInt_any _ _ _).mono ?_; rintro e w' ⟨rfl, rfl⟩) | (go_at_call 141; refine (scompare_any _ _ _).mono ?_; rintro e w' ⟨rfl, rfl⟩))
    go_ret
    refine ⟨ret_int ?_, rfl⟩
    unfold M.numC
    rw [if_pos H.out]
  · have h' : (M.cmpI (M.strip a.data.toList).length (M.strip b.data.toList).length != 0) = true := by simpa using h
    have H : Hid (¬ M.cmpI (M.strip a.data.toList).length (M.strip b.data.toList).length = 0) := h
    clear h
    go_enter Tryz.func287, Tryz.ntmps287
    go_wp2_with (first | (go_at_call 291; refine (trimLeft_any _ _).mono ?_; rintro e w' ⟨rfl, rfl⟩) | (go_at_call 289; refine (cmpInt_any _ _ _).mono ?_; rintro e w' ⟨rfl, rfl⟩) | (go_at_call 141; refine (scompare_any _ _ _).mono ?_; rintro e w' ⟨rfl, rfl⟩))
    go_ret
    refine ⟨ret_int ?_, rfl⟩
    unfold M.numC
    rw [if_neg H.out]
end Go.Proofs.YtgnfknjopafngaaGreatDoor
