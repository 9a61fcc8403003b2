import Derived.Test.YtgnfknjopafngaaGreatDoorKsj
import Derived.Test.YtgnfknjopafngaaGreatDoorKsl
import Derived.Test.YtgnfknjopafngaaGreatDoorKsg
import Derived.Test.YtgnfknjopafngaaGreatDoorKsi
namespace Go.Proofs.YtgnfknjopafngaaGreatDoor
namespace M
def pathsOf (l : List Pk) : List (List UInt8) := l.flatMap fun p => p.files.map Fl.path
theorem mem_paths {l : List Pk} {x : List UInt8} : x ∈ pathsOf l ↔ ∃ p ∈ l, ∃ f ∈ p.files, f.path = x := by
  unfold pathsOf
  simp only [List.mem_flatMap, List.mem_map]
theorem Good.once {p : Pk} (h : Good p) (x : List UInt8) : (p.files.map Fl.path).count x ≤ 1 := by
  have hn : (p.files.map Fl.path).Nodup := by
    unfold List.Nodup
    rw [List.pairwise_map]
    refine h.files.imp (fun {f g} ha e => ?_)
    unfold M.apart at ha
    rw [e] at ha
    simp at ha
  exact List.nodup_iff_count.1 hn x
def Shared (l : List Pk) (x : List UInt8) : Prop := 1 < (pathsOf l).count x ∨ (x ∈ pathsOf l ∧ ∃ y ∈ pathsOf l, over x y = true)
theorem count_two {x : List UInt8} : ∀ {l : List Pk}, Apart l → (∀ p ∈ l, Good p) → (1 < (pathsOf l).count x ↔ ∃ p ∈ l, ∃ q ∈ l, p.name ≠ q.name ∧ (∃ f ∈ p.files, f.path = x) ∧ ∃ g ∈ q.files, g.path = x)
  | [], _, _ => by simp [pathsOf]
  | p :: l, ha, hg => by
    have hal : Apart l := (List.nodup_cons.1 (show (p.name :: l.map Pk.name).Nodup from ha)).2
    have hpn : ∀ q ∈ l, p.name ≠ q.name := fun q hq e => (List.nodup_cons.1 (show (p.name :: l.map Pk.name).Nodup from ha)).1 (List.mem_map.2 ⟨q, hq, e.symm⟩)
    have ih := count_two (x := x) hal (fun q hq => hg q (by simp [hq]))
    have e : (pathsOf (p :: l)).count x = (p.files.map Fl.path).count x + (pathsOf l).count x := by
      unfold pathsOf
      rw [List.flatMap_cons, List.count_append]
    have h1 := (hg p (by simp)).once x
    have hp : 0 < (p.files.map Fl.path).count x ↔ ∃ f ∈ p.files, f.path = x := by
      rw [List.count_pos_iff, List.mem_map]
    have hl : 0 < (pathsOf l).count x ↔ ∃ q ∈ l, ∃ f ∈ q.files, f.path = x := by rw [List.count_pos_iff, mem_paths]
    rw [e]
    constructor
    · intro h
      by_cases h2 : 1 < (pathsOf l).count x
      · obtain ⟨a, ha, b, hb, r⟩ := ih.1 h2
        exact ⟨a, by simp [ha], b, by simp [hb], r⟩
      · obtain ⟨q, hq, hf⟩ := hl.1 (by omega)
        exact ⟨p, by simp, q, by simp [hq], hpn q hq, hp.1 (by omega), hf⟩
    · rintro ⟨a, ha, b, hb, hne, hfa, hfb⟩
      rcases List.mem_cons.1 ha with e1 | ha1
      · rcases List.mem_cons.1 hb with e2 | hb1
        · exact absurd (by rw [e1, e2]) hne
        · subst e1
          have := hp.2 hfa
          have := hl.2 ⟨b, hb1, hfb⟩
          omega
      · rcases List.mem_cons.1 hb with e2 | hb1
        · subst e2
          have := hp.2 hfb
          have := hl.2 ⟨a, ha1, hfa⟩
          omega
        · have := ih.2 ⟨a, ha1, b, hb1, hne, hfa, hfb⟩
          omega
theorem shared_iff {l : List Pk} {x : List UInt8} (ha : Apart l) (hg : ∀ p ∈ l, Good p) : Shared l x ↔ Clashes l x := by
  unfold Shared Clashes
  rw [count_two ha hg, mem_paths]
  constructor
  · rintro (⟨p, hp, q, hq, hne, ⟨f, hf, e⟩, ⟨g, hg, e'⟩⟩ | ⟨⟨p, hp, f, hf, e⟩, y, hy, ho⟩)
    · exact ⟨p, hp, q, hq, f, hf, g, hg, .inr ⟨e.trans e'.symm, hne⟩, e.symm⟩
    · obtain ⟨q, hq, g, hg, e'⟩ := mem_paths.1 hy
      subst e e'
      exact ⟨p, hp, q, hq, f, hf, g, hg, .inl ho, rfl⟩
  · rintro ⟨p, hp, q, hq, f, hf, g, hg, h | ⟨h, hne⟩, rfl⟩
    · exact .inr ⟨⟨p, hp, f, hf, rfl⟩, g.path, mem_paths.2 ⟨q, hq, g, hg, rfl⟩, h⟩
    · exact .inl ⟨p, hp, q, hq, hne, ⟨f, hf, rfl⟩, ⟨g, hg, h.symm⟩⟩
theorem shared_min {l : List Pk} (ha : Apart l) (hg : ∀ p ∈ l, Good p) : IsMin (Shared l) (clashingS l) :=
  (clashing_min ha (fun p hp => (hg p hp).paths)).congr (fun _ => (shared_iff ha hg).symm)
theorem any1_one {l : List Pk} (ha : Apart l) {p : Pk} (hp : p ∈ l) (c : Ch) (hc : c.name = p.name) : l.any (fun q => fitsS c q) = fitsS c p := by
  cases h : fitsS c p with
  | true => exact List.any_eq_true.2 ⟨p, hp, h⟩
  | false =>
    rw [List.any_eq_false]
    intro q hq hf
    have : c.name = q.name := by
      unfold fitsS at hf
      split at hf
      · assumption
      · cases hf
    have e := ha.eq hp hq (hc.symm.trans this)
    subst e
    rw [h] at hf
    cases hf
theorem any1_none {l : List Pk} (c : Ch) (h : ∀ p ∈ l, p.name ≠ c.name) : l.any (fun q => fitsS c q) = false := by
  rw [List.any_eq_false]
  intro q hq hf
  unfold fitsS at hf
  split at hf
  · rename_i e; exact h q hq e.symm
  · cases hf
end M
end Go.Proofs.YtgnfknjopafngaaGreatDoor
namespace Go.Proofs.YtgnfknjopafngaaGreatDoor
open Go.RowKit
def allowsB (S : ByteArray) (o : Int) : Bool := if S.toList == [60, 60] then decide (o < 0) else if S.toList == [60, 61] then decide (o ≤ 0) else if S.toList == [61] then decide (o = 0) else if S.toList == [62, 61] then decide (0 ≤ o) else if S.toList == [62, 62] then decide (0 < o) else true
set_option maxRecDepth 100000 in
set_option maxHeartbeats 2000000 in
theorem allows_any (A S V P : ByteArray) (w : World) (hV : V.size ≤ 100000) (hP : P.size ≤ 100000) :
    Calls Tryz.prog 245 #[.agg #[.string A, .string S, .string V], .string P] w fun e w' => e = .returned (.bool (allowsB S (verB P V))) ∧ Below w.heap.size w w' := by
  have cC := fun wx => compareV_any P V wx (by unfold maxLen; omega) (by unfold maxLen; omega)
  replace cC : ∀ wx, Calls Tryz.prog 277 #[.string P, .string V] wx fun e w' => e = .returned (.int .i64 (verB P V)) ∧ ∃ n, w' = wx.drewN n := cC
  generalize hW1 : w.alloc (.cells #[.string A, .string S, .string V] 156) = W1
  have HB1 : Hid (Below w.heap.size w W1) := by rw [← hW1]; exact (Below.refl _ w).alloc (Nat.le_refl _) _
  obtain ⟨_, _, nb3, _⟩ := newB w [.string A, .string S, .string V] 156 0
  have HC : Hid (∀ j u, [Value.string A, .string S, .string V][j]? = some u → W1.cell? ⟨w.heap.size, j, none⟩ = some u) := by rw [← hW1]; exact nb3
  have q1 := HC.out 1 _ rfl
  have q2 := HC.out 2 _ rfl
  clear nb3
  generalize verB P V = o at cC
  obtain ⟨R, HR⟩ : ∃ R, Hid (allowsB S o = R) := ⟨_, rfl⟩
  rw [HR.out]
  go_enter Tryz.func245, Tryz.ntmps245
  go_wp2_with fail
  refine (cC _).mono ?_
  rintro e w2 ⟨rfl, n, rfl⟩
  clear cC
  have HB2 : Hid (Below w.heap.size w (W1.drewN n)) := below_drewN HB1.out n
  by_cases s1 : (S.toList == [60, 60]) = true
  · have HE : Hid (R = decide (o < 0)) := by show _ = _; rw [← HR.out]; unfold allowsB; rw [if_pos s1]
    go_wp2
    go_ret
    exact ⟨ret_bool (by rw [HE.out]), HB2.out⟩
  replace s1 : (S.toList == [60, 60]) = false := by simpa using s1
  by_cases s2 : (S.toList == [60, 61]) = true
  · have HE : Hid (R = decide (o ≤ 0)) := by show _ = _; rw [← HR.out]; unfold allowsB; rw [if_neg (by rw [s1]; decide), if_pos s2]
    go_wp2
    go_ret
    exact ⟨ret_bool (by rw [HE.out]), HB2.out⟩
  replace s2 : (S.toList == [60, 61]) = false := by simpa using s2
  by_cases s3 : (S.toList == [61]) = true
  · have HE : Hid (R = decide (o = 0)) := by show _ = _; rw [← HR.out]; unfold allowsB; rw [if_neg (by rw [s1]; decide), if_neg (by rw [s2]; decide), if_pos s3]
    go_wp2
    go_ret
    exact ⟨ret_bool (by rw [HE.out, Bool.eq_iff_iff]; simp), HB2.out⟩
  replace s3 : (S.toList == [61]) = false := by simpa using s3
  by_cases s4 : (S.toList == [62, 61]) = true
  · have HE : Hid (R = decide (0 ≤ o)) := by show _ = _; rw [← HR.out]; unfold allowsB; rw [if_neg (by rw [s1]; decide), if_neg (by rw [s2]; decide), if_neg (by rw [s3]; decide), if_pos s4]
    go_wp2
    go_ret
    exact ⟨ret_bool (by rw [HE.out]), HB2.out⟩
  replace s4 : (S.toList == [62, 61]) = false := by simpa using s4
  by_cases s5 : (S.toList == [62, 62]) = true
  · have HE : Hid (R = decide (0 < o)) := by show _ = _; rw [← HR.out]; unfold allowsB; rw [if_neg (by rw [s1]; decide), if_neg (by rw [s2]; decide), if_neg (by rw [s3]; decide), if_neg (by rw [s4]; decide), if_pos s5]
    go_wp2
    go_ret
    exact ⟨ret_bool (by rw [HE.out]), HB2.out⟩
  replace s5 : (S.toList == [62, 62]) = false := by simpa using s5
  have HE : Hid (R = true) := by show _ = _; rw [← HR.out]; unfold allowsB; rw [if_neg (by rw [s1]; decide), if_neg (by rw [s2]; decide), if_neg (by rw [s3]; decide), if_neg (by rw [s4]; decide), if_neg (by rw [s5]; decide)]
  go_wp2
  go_ret
  exact ⟨ret_bool (by rw [HE.out]), HB2.out⟩
theorem fitsB_allows {A S V N P : ByteArray} (h : (A.toList == N.toList) = true) : fitsB A S V N P = allowsB S (verB P V) := fitsB_is h
set_option maxRecDepth 100000 in
set_option maxHeartbeats 2000000 in
theorem asksFor_any (A S V N P : ByteArray) (nv bv fv : Value) (w : World) (hV : V.size ≤ 100000) (hP : P.size ≤ 100000) :
    Calls Tryz.prog 201 #[.agg #[.string A, .string S, .string V], .agg #[.string N, .string P, nv, bv, fv]] w fun e w' => e = .returned (.bool (fitsB A S V N P)) ∧ Below w.heap.size w w' := by
  have cC := fun wx => allows_any A S V P wx hV hP
  generalize hW1 : (w.alloc (.cells #[.string A, .string S, .string V] 156)).alloc (.cells #[.string N, .string P, nv, bv, fv] 108) = W1
  have HB1 : Hid (Below w.heap.size w W1) := by rw [← hW1]; exact bt ((Below.refl _ w).alloc (Nat.le_refl _) _) ((Below.refl _ _).alloc (Nat.le_refl _) _)
  by_cases h0 : (A.toList == N.toList) = true
  · rw [fitsB_allows h0]
    generalize allowsB S (verB P V) = B at cC
    subst hW1
    go_enter Tryz.func201, Tryz.ntmps201
    go_wp2_with fail
    refine (cC _).mono ?_
    rintro e w2 ⟨rfl, hB2⟩
    have HB2 : Hid (Below w.heap.size w w2) := bt HB1.out hB2
    go_wp2
    go_ret
    exact ⟨rfl, HB2.out⟩
  · replace h0 : (A.toList == N.toList) = false := by simpa using h0
    rw [fitsB_no h0]
    subst hW1
    go_enter Tryz.func201, Tryz.ntmps201
    go_wp2
    go_ret
    exact ⟨rfl, HB1.out⟩
def SetIn (w : World) (b : Nat) (l : List M.Pk) : Prop := ∃ f : M.Pk → Value, StrMap Tryz.prog 9 w b (l.map fun p => (p.name, f p)) ∧ ∀ p ∈ l, PkVal w p (f p)
theorem SetIn.apart {w : World} {b : Nat} {l : List M.Pk} (h : SetIn w b l) : M.Apart l := by
  obtain ⟨f, h1, _⟩ := h
  have := h1.keys
  unfold Keys at this
  rw [List.map_map] at this
  exact this
theorem SetIn.below {w w' : World} {b : Nat} {l : List M.Pk} (h : SetIn w b l) (hb : Below w.heap.size w w') : SetIn w' b l := by
  obtain ⟨f, h1, h2⟩ := h
  exact ⟨f, h1.below hb h1.lt, fun p hp => (h2 p hp).below hb⟩
theorem SetIn.perm {w : World} {b : Nat} {l k : List M.Pk} (h : SetIn w b l) (hp : l.Perm k) : SetIn w b k := by
  obtain ⟨f, h1, h2⟩ := h
  exact ⟨f, h1.perm (hp.map _), fun p hk => h2 p (hp.mem_iff.2 hk)⟩
theorem SetIn.lt {w : World} {b : Nat} {l : List M.Pk} (h : SetIn w b l) : b < w.heap.size := h.choose_spec.1.lt
theorem look_set {l : List M.Pk} {f : M.Pk → Value} (ha : M.Apart l) (n : List UInt8) :
    (∃ p ∈ l, p.name = n ∧ lookK (l.map fun p => (p.name, f p)) n = some (f p)) ∨ ((∀ p ∈ l, p.name ≠ n) ∧ lookK (l.map fun p => (p.name, f p)) n = none) := by
  have hk : Keys (l.map fun p => (p.name, f p)) := by unfold Keys; rw [List.map_map]; exact ha
  by_cases h : ∃ p ∈ l, p.name = n
  · obtain ⟨p, hp, e⟩ := h
    exact .inl ⟨p, hp, e, (look_mem hk).2 (List.mem_map.2 ⟨p, hp, by rw [e]⟩)⟩
  · refine .inr ⟨fun p hp e => h ⟨p, hp, e⟩, look_none.2 (fun q hq => ?_)⟩
    obtain ⟨p, hp, rfl⟩ := List.mem_map.1 hq
    exact fun e => h ⟨p, hp, e⟩
def zeroPk : Value := .agg #[.string ⟨#[]⟩, .string ⟨#[]⟩, .slice none 0 0, .slice none 0 0, .slice none 0 0]
theorem zeroPk_run (w : World) : (zeroValue 108).run Tryz.prog w = .ok zeroPk w := by rw [Tryz.zeroValue108]; rfl
theorem setMap : Tryz.prog.underlying 135 = some (.map 9 108) := by kernel_rfl
set_option maxRecDepth 100000 in
set_option maxHeartbeats 2000000 in
theorem has_any (b : Nat) (l : List M.Pk) (c : M.Ch) (w : World) (hl : SetIn w b l) (hs : ∀ p ∈ l, SmallP p) (hc : c.name ≠ []) (hn : c.name.length ≤ 100000) (hv : c.ver.length ≤ 100000) :
    Calls Tryz.prog 163 #[.map (some b), .agg #[.string ⟨c.name.toArray⟩, .string ⟨c.sign.toArray⟩, .string ⟨c.ver.toArray⟩]] w fun e w' => e = .returned (.bool (l.any fun p => M.fitsS c p)) ∧ Below w.heap.size w w' := by
  have ha := hl.apart
  generalize hW1 : w.alloc (.cells #[.string ⟨c.name.toArray⟩, .string ⟨c.sign.toArray⟩, .string ⟨c.ver.toArray⟩] 156) = W1
  have HB1 : Hid (Below w.heap.size w W1) := by rw [← hW1]; exact (Below.refl _ w).alloc (Nat.le_refl _) _
  have sz : ∀ q : List UInt8, (ByteArray.mk q.toArray).size = q.length := fun q => by rw [← len_data]
  obtain ⟨f, h1, h2⟩ := hl.below HB1.out
  obtain ⟨v, hv1, B, hB, hl1⟩ : ∃ v, (lookK (l.map fun p => (p.name, f p)) c.name).getD zeroPk = v ∧ ∃ B, (l.any fun p => M.fitsS c p) = B ∧ ∀ wx, Below W1.heap.size W1 wx → Calls Tryz.prog 201 #[.agg #[.string ⟨c.name.toArray⟩, .string ⟨c.sign.toArray⟩, .string ⟨c.ver.toArray⟩], v] wx fun e w' => e = .returned (.bool B) ∧ Below wx.heap.size wx w' := by
    refine ⟨_, rfl, _, rfl, fun wx hb => ?_⟩
    rcases look_set (f := f) ha c.name with ⟨p, hp, e, hlk⟩ | ⟨hno, hlk⟩
    · rw [hlk, M.any1_one ha hp c e.symm]
      obtain ⟨nv, bv, fv, ev, _⟩ := h2 p hp
      have := asksFor_any ⟨c.name.toArray⟩ ⟨c.sign.toArray⟩ ⟨c.ver.toArray⟩ ⟨p.name.toArray⟩ ⟨p.ver.toArray⟩ nv bv fv wx (by rw [sz]; exact hv) (by rw [sz]; have := (hs p hp).ver; omega)
      rw [fitsB_c] at this
      rw [Option.getD_some, ev]
      exact this
    · rw [hlk, M.any1_none c hno]
      have := asksFor_any ⟨c.name.toArray⟩ ⟨c.sign.toArray⟩ ⟨c.ver.toArray⟩ ⟨#[]⟩ ⟨#[]⟩ (.slice none 0 0) (.slice none 0 0) (.slice none 0 0) wx (by rw [sz]; exact hv) (by decide)
      rw [fitsB_no (by rw [Lib.toList_data, Lib.toList_data, beq_eq_false_iff_ne]; exact hc)] at this
      exact this
  rw [hB]
  clear hB
  have hrun : ∀ W, StrMap Tryz.prog 9 W b (l.map fun p => (p.name, f p)) → (Instr.lookup 135 (.map (some b)) (.string ⟨c.name.toArray⟩) false).run Tryz.prog W = .ok v W := fun W hW => by
    rw [hW.look Tryz.underlying9 setMap (zeroPk_run W) (by rw [sz]; unfold maxLen; omega)]
    show Result.ok ((lookK _ c.name).getD zeroPk) W = _
    rw [hv1]
  have hr1 := hrun W1 h1
  subst hW1
  clear h1 h2 hrun hv1 sz hl ha hs
  go_enter Tryz.func163, Tryz.ntmps163
  go_wp2_with fail
  refine (hl1 _ (Below.refl _ _)).mono ?_
  rintro e w2 ⟨rfl, hB2⟩
  have HB2 : Hid (Below w.heap.size w w2) := bt HB1.out hB2
  go_wp2
  go_ret
  exact ⟨rfl, HB2.out⟩
end Go.Proofs.YtgnfknjopafngaaGreatDoor
namespace Go.Proofs.YtgnfknjopafngaaGreatDoor
open Go.RowKit Go.Maps
def PkShape (v : Value) : Prop := ∃ a b x1 n1 c1 x2 n2 c2 x3 n3 c3, v = .agg #[.string a, .string b, .slice x1 n1 c1, .slice x2 n2 c2, .slice x3 n3 c3]
theorem PkVal.shape {w : World} {p : M.Pk} {v : Value} (h : PkVal w p v) : PkShape v := by
  obtain ⟨nv, bv, fv, rfl, h1, h2, h3⟩ := h
  obtain ⟨_, _, rfl⟩ := h1.form
  obtain ⟨_, _, rfl⟩ := h2.form
  obtain ⟨_, _, rfl⟩ := h3.form
  exact ⟨_, _, _, _, _, _, _, _, _, _, _, rfl⟩
theorem put_new {l : List KV} {k : List UInt8} {v : Value} (h : ∀ p ∈ l, p.1 ≠ k) : (putK l k v).Perm (l ++ [(k, v)]) := by
  unfold putK
  rw [List.filter_eq_self.2 (fun p hp => by simpa using h p hp)]
  exact List.perm_append_comm (l₁ := [(k, v)]) (l₂ := l)
def Apart2 (l m : List KV) : Prop := ∀ p ∈ l, ∀ q ∈ m, p.1 ≠ q.1
theorem wpList_next_pk {P : Program} {K : TypeId} {w : World} {ops : Array Oper} {rest : List Oper} {o : Oper} {a : Act} {Q : Exit → Act → World → Prop} (hg : o.guard = none) (it : Operand) (hop : o.op = Op.next it false) (hk : P.underlying K = some .string) (b r : Nat) (l todo : List KV) (cnt : Nat) (hit : a.eval it = .pointer (some ⟨r, 0, none⟩)) (h : Ranging P K w b r l todo cnt) (hsh : ∀ p ∈ l, PkShape p.2)
    (hDone : cnt = 0 → todo = [] → wpList P ops Q rest (a.put o.dst (.tuple #[.bool false])) w)
    (hMore : ∀ (s x y : ByteArray) (x1 : Option Addr) (n1 c1 : Nat) (x2 : Option Addr) (n2 c2 : Nat) (x3 : Option Addr) (n3 c3 : Nat) (todo' : List KV) (w' : World) (cnt' : Nat), s.size ≤ maxLen → todo.Perm ((s.data.toList, .agg #[.string x, .string y, .slice x1 n1 c1, .slice x2 n2 c2, .slice x3 n3 c3]) :: todo') → Ranging P K w' b r l todo' cnt' → cnt' < cnt → w.grownBy w' (some r) → w'.heap.size = w.heap.size →
      (Instr.entry (.pointer (some ⟨r, 0, none⟩))).run P w' = .ok (.tuple #[.string s, .agg #[.string x, .string y, .slice x1 n1 c1, .slice x2 n2 c2, .slice x3 n3 c3]]) w' → wpList P ops Q rest (a.put o.dst (.tuple #[.bool true, .string s, .agg #[.string x, .string y, .slice x1 n1 c1, .slice x2 n2 c2, .slice x3 n3 c3]])) w') :
    wpList P ops Q (o :: rest) a w := by
  have hsub : ∀ p ∈ todo, p ∈ l := by
    obtain ⟨_, _, _, _, _, _, _, h4⟩ := h
    exact fun p hp => ((h4 p).1 hp).1
  refine wpList_next_str hg it hop hk b r l todo cnt hit h hDone (fun s v todo' w' cnt' h1 h2 h3 h4 h5 h6 h7 => ?_)
  obtain ⟨x, y, x1, n1, c1, x2, n2, c2, x3, n3, c3, e⟩ := hsh _ (hsub _ (h2.mem_iff.2 (List.mem_cons_self)))
  dsimp only at e
  subst e
  exact hMore s x y x1 n1 c1 x2 n2 c2 x3 n3 c3 todo' w' cnt' h1 h2 h3 h4 h5 h6 h7
set_option maxRecDepth 100000 in
set_option maxHeartbeats 4000000 in
theorem copy_any (d s : Nat) (m1 m2 : List KV) (w : World) (h1 : StrMap Tryz.prog 9 w d m1) (h2 : StrMap Tryz.prog 9 w s m2) (hds : d ≠ s) (hap : Apart2 m1 m2) (hsh : ∀ p ∈ m2, PkShape p.2) (hn : m1.length + m2.length ≤ 1000000) :
    Calls Tryz.prog 156 #[.map (some d), .map (some s)] w fun e w' => e = .returned (.tuple #[]) ∧ StrMap Tryz.prog 9 w' d (m1 ++ m2) ∧ w.grownBy w' (some d) := by
  have hk2 := h2.keys
  have hd : d < w.heap.size := h1.lt
  have HAP : Hid (Apart2 m1 m2) := hap
  have HSH : Hid (∀ p ∈ m2, PkShape p.2) := hsh
  have HK2 : Hid (Keys m2) := hk2
  clear hap hsh hk2
  go_enter Tryz.func156, Tryz.ntmps156
  go_wp2_with (first | (at_range; refine wpList_range_str rfl _ rfl Tryz.underlying9 setMap s m2 rfl h2 ?_; intro w0 hrg0 hg0 hs0) | go_in)
  go_frame
  have HD0 : Hid (StrMap Tryz.prog 9 w0 d m1) := h1.kept hg0 (by simp)
  go_loopw [4, 5] (fun _ _ wr => ∃ (todo done : List KV) (cnt : Nat), Ranging Tryz.prog 9 wr s w.heap.size m2 todo cnt ∧ Hid (StrMap Tryz.prog 9 wr d (m1 ++ done)) ∧ Hid ((done ++ todo).Perm m2) ∧ w.grownBy wr (some d)) (fun _ _ wr => wr.rangeLeft s w.heap.size)
  case atStart => exact ⟨m2, [], _, hrg0, by show StrMap _ _ _ _ _; rw [List.append_nil]; exact HD0.out, List.Perm.refl _, hg0.but _⟩
  case round =>
    obtain ⟨todo, done, cnt, hrg, HD, HP, hgr⟩ := hrel
    go_wp2_with (first | (at_next; refine wpList_next_pk rfl _ rfl Tryz.underlying9 s w.heap.size m2 todo cnt rfl hrg HSH.out ?_ ?_) | go_in)
    · intro hc0 ht0
      have HF : Hid (StrMap Tryz.prog 9 wr d (m1 ++ m2)) := by
        have hp := HP.out
        rw [ht0, List.append_nil] at hp
        exact HD.out.perm (List.Perm.append_left m1 hp)
      clear hc0 ht0
      go_wp2
      go_end0
      exact ⟨rfl, HF.out, hgr⟩
    · intro k x y x1 n1 c1 x2 n2 c2 x3 n3 c3 todo' w' cnt' hks hperm hrg' hlt hg' hs' hen
      have hdr : d ≠ w.heap.size := by omega
      have hd' : StrMap Tryz.prog 9 w' d (m1 ++ done) := HD.out.kept hg' (fun e => hdr (Option.some.inj e))
      have hmem : (k.data.toList, Value.agg #[.string x, .string y, .slice x1 n1 c1, .slice x2 n2 c2, .slice x3 n3 c3]) ∈ m2 := HP.out.mem_iff.1 (List.mem_append.2 (.inr (hperm.mem_iff.2 List.mem_cons_self)))
      have hlen : (m1 ++ done).length < maxLen := by
        have := HP.out.length_eq
        rw [List.length_append] at this ⊢
        unfold maxLen
        omega
      have HNew : Hid (∀ q ∈ m1 ++ done, q.1 ≠ k.data.toList) := fun q hq e => by
        rcases List.mem_append.1 hq with hq | hq
        · exact HAP.out q hq _ hmem e
        · have hkk := HK2.out.perm HP.out.symm
          unfold Keys at hkk
          rw [List.map_append] at hkk
          refine (List.nodup_append.1 hkk).2.2 q.1 (List.mem_map.2 ⟨q, hq, rfl⟩) k.data.toList (List.mem_map.2 ⟨_, hperm.mem_iff.2 List.mem_cons_self, rfl⟩) e
      have HPm : Hid (((done ++ [(k.data.toList, Value.agg #[.string x, .string y, .slice x1 n1 c1, .slice x2 n2 c2, .slice x3 n3 c3])]) ++ todo').Perm m2) := by
        show List.Perm _ _
        rw [List.append_assoc]
        exact (List.Perm.append_left done hperm.symm).trans HP.out
      have hgw := hgr.andThen hg' (fun j hj => .inl (by cases hj; exact Nat.le_refl _))
      clear hperm hmem HP HD hs'
      generalize hW2 : w'.alloc (.cells #[.string x, .string y, .slice x1 n1 c1, .slice x2 n2 c2, .slice x3 n3 c3] 108) = W2
      have hga : w'.grownBy W2 none := by rw [← hW2]; exact World.grownBy_alloc w' _ none
      have hd2 : StrMap Tryz.prog 9 W2 d (m1 ++ done) := hd'.kept hga (by simp)
      have hrg2 := hrg'.kept hga (by simp) (by simp)
      have HC : Hid (∀ j u, [Value.string x, .string y, .slice x1 n1 c1, .slice x2 n2 c2, .slice x3 n3 c3][j]? = some u → W2.cell? ⟨w'.heap.size, j, none⟩ = some u) := by rw [← hW2]; exact fun j u hu => new_at w' _ _ j u hu
      have q0 := HC.out 0 _ rfl
      have q1 := HC.out 1 _ rfl
      have q2 := HC.out 2 _ rfl
      have q3 := HC.out 3 _ rfl
      have q4 := HC.out 4 _ rfl
      go_wp2_with (first | (at_mapUpdate; refine wpList_put_str rfl _ _ _ rfl Tryz.underlying9 setMap d (m1 ++ done) rfl hd2 hlen k (.agg #[.string x, .string y, .slice x1 n1 c1, .slice x2 n2 c2, .slice x3 n3 c3]) rfl hks rfl ?_; intro w3 hd3 hg3; go_frame) | go_in)
      have hrg3 := hrg2.kept hg3 (fun e => hds (Option.some.inj e).symm) (fun e => hdr (Option.some.inj e).symm)
      have HD3 : Hid (StrMap Tryz.prog 9 w3 d (m1 ++ (done ++ [(k.data.toList, Value.agg #[.string x, .string y, .slice x1 n1 c1, .slice x2 n2 c2, .slice x3 n3 c3])]))) := by
        show StrMap _ _ _ _ _
        rw [← List.append_assoc]
        exact hd3.perm (put_new HNew.out)
      have hgf := (hgw.andThen hga (fun j hj => by cases hj)).andThen hg3 (fun j hj => .inr (by cases hj; rfl))
      go_roundw
      case rel => exact ⟨todo', _, cnt', hrg3, HD3, HPm, hgf⟩
      case measure => rw [hrg3.left_eq, hrg.left_eq]; exact hlt
theorem kv_set (l : List M.Pk) (f : M.Pk → Value) : (l.map fun p => (p.name, f p)).length = l.length := by rw [List.length_map]
set_option maxRecDepth 100000 in
set_option maxHeartbeats 2000000 in
theorem with_any (b1 b2 : Nat) (l k : List M.Pk) (w : World) (h1 : SetIn w b1 l) (h2 : SetIn w b2 k) (ha : M.Apart (l ++ k)) (hn : l.length + k.length ≤ 1000000) :
    Calls Tryz.prog 117 #[.map (some b1), .map (some b2)] w fun e w' => ∃ b, e = .returned (.map (some b)) ∧ SetIn w' b (l ++ k) ∧ Below w.heap.size w w' := by
  have hmm := @run_makeMap Tryz.prog
  obtain ⟨f, m1, v1⟩ := h1
  obtain ⟨g, m2, v2⟩ := h2
  have l1 := m1.lt
  have l2 := m2.lt
  generalize hW1 : w.alloc (.map #[] 0) = W1
  have hga : w.grownBy W1 none := by rw [← hW1]; exact World.grownBy_alloc w _ none
  have hm0 : StrMap Tryz.prog 9 W1 w.heap.size [] := by rw [← hW1]; exact StrMap.made w
  have e1 := m1.kept hga (by simp)
  have e2 := m2.kept hga (by simp)
  have cA := copy_any w.heap.size b1 [] (l.map fun p => (p.name, f p)) W1 hm0 e1 (by omega) (fun p hp => by cases hp) (fun p hp => by
    obtain ⟨q, hq, rfl⟩ := List.mem_map.1 hp
    exact (v1 q hq).shape) (by rw [kv_set]; simp; omega)
  have cB := fun wx (ha1 : StrMap Tryz.prog 9 wx w.heap.size (l.map fun p => (p.name, f p))) (hb1 : StrMap Tryz.prog 9 wx b2 (k.map fun p => (p.name, g p))) => copy_any w.heap.size b2 (l.map fun p => (p.name, f p)) (k.map fun p => (p.name, g p)) wx ha1 hb1 (by omega) (fun p hp q hq e => by
    obtain ⟨x, hx, rfl⟩ := List.mem_map.1 hp
    obtain ⟨y, hy, rfl⟩ := List.mem_map.1 hq
    unfold M.Apart at ha
    rw [List.map_append] at ha
    exact (List.nodup_append.1 ha).2.2 x.name (List.mem_map.2 ⟨x, hx, rfl⟩) y.name (List.mem_map.2 ⟨y, hy, rfl⟩) e) (fun p hp => by
    obtain ⟨q, hq, rfl⟩ := List.mem_map.1 hp
    exact (v2 q hq).shape) (by rw [kv_set, kv_set]; exact hn)
  have HAp : Hid (M.Apart (l ++ k)) := ha
  have HV1 : Hid (∀ p ∈ l, PkVal w p (f p)) := v1
  have HV2 : Hid (∀ p ∈ k, PkVal w p (g p)) := v2
  clear ha v1 v2 m1 m2
  go_enter Tryz.func117, Tryz.ntmps117
  go_wp2_with fail
  refine cA.mono ?_
  rintro e w2 ⟨rfl, ha2, hg2⟩
  rw [List.nil_append] at ha2
  have hne2 : b2 ≠ w.heap.size := by omega
  have hb2 : StrMap Tryz.prog 9 w2 b2 (k.map fun p => (p.name, g p)) := e2.kept hg2 (fun e => hne2 (Option.some.inj e))
  clear cA
  go_wp2_with fail
  refine (cB _ ha2 hb2).mono ?_
  rintro e w3 ⟨rfl, ha3, hg3⟩
  have HB : Hid (Below w.heap.size w w3) := (((Below.refl _ w).grown hga (Nat.le_refl _) (fun j hj => by cases hj)).grown hg2 hga.size (fun j hj => by cases hj; exact Nat.le_refl _)).grown hg3 (Nat.le_trans hga.size hg2.size) (fun j hj => by cases hj; exact Nat.le_refl _)
  have HA3 : Hid (StrMap Tryz.prog 9 w3 w.heap.size ((l.map fun p => (p.name, f p)) ++ (k.map fun p => (p.name, g p)))) := ha3
  clear cB ha3 ha2 hb2 hg2 hg3
  go_wp2
  go_ret
  refine ⟨w.heap.size, rfl, ⟨fun p => if p.name ∈ l.map M.Pk.name then f p else g p, ?_, fun p hp => ?_⟩, HB.out⟩
  · rw [List.map_append]
    have ea : (l.map fun p => (p.name, if p.name ∈ l.map M.Pk.name then f p else g p)) = l.map fun p => (p.name, f p) := List.map_congr_left (fun p hp => by rw [if_pos (List.mem_map.2 ⟨p, hp, rfl⟩)])
    have eb : (k.map fun p => (p.name, if p.name ∈ l.map M.Pk.name then f p else g p)) = k.map fun p => (p.name, g p) := List.map_congr_left (fun p hp => by
      rw [if_neg]
      intro hm
      have h := HAp.out
      unfold M.Apart at h
      rw [List.map_append] at h
      exact (List.nodup_append.1 h).2.2 p.name hm p.name (List.mem_map.2 ⟨p, hp, rfl⟩) rfl)
    rw [ea, eb]
    exact HA3.out
  · rcases List.mem_append.1 hp with hp | hp
    · dsimp only
      rw [if_pos (List.mem_map.2 ⟨p, hp, rfl⟩)]
      exact (HV1.out p hp).below HB.out
    · dsimp only
      rw [if_neg]
      · exact (HV2.out p hp).below HB.out
      · intro hm
        have h := HAp.out
        unfold M.Apart at h
        rw [List.map_append] at h
        exact (List.nodup_append.1 h).2.2 p.name hm p.name (List.mem_map.2 ⟨p, hp, rfl⟩) rfl
end Go.Proofs.YtgnfknjopafngaaGreatDoor
namespace Go.Proofs.YtgnfknjopafngaaGreatDoor
open Go.RowKit
def TxtsIn (w : World) (v : Value) (l : List ByteArray) : Prop :=
  (l = [] ∧ ∃ a c, v = .slice a 0 c) ∨ ∃ g off cap, v = .slice (some ⟨g, off, none⟩) l.length cap ∧ l.length ≤ cap ∧ g < w.heap.size ∧ ∀ j (hj : j < l.length), w.cell? ⟨g, off + j, none⟩ = some (.string l[j])
theorem TxtsIn.below {w w' : World} {v : Value} {l : List ByteArray} (h : TxtsIn w v l) (hb : Below w.heap.size w w') : TxtsIn w' v l := by
  rcases h with h | ⟨g, off, cap, h1, h2, h3, h4⟩
  · exact .inl h
  · exact .inr ⟨g, off, cap, h1, h2, Nat.lt_of_lt_of_le h3 hb.size, fun j hj => (hb.cell (p := ⟨g, off + j, none⟩) h3).trans (h4 j hj)⟩
theorem TxtsIn.form {w : World} {v : Value} {l : List ByteArray} (h : TxtsIn w v l) : ∃ a cap, v = .slice a l.length cap := by
  rcases h with ⟨rfl, a, c, rfl⟩ | ⟨g, off, cap, rfl, _⟩
  · exact ⟨a, c, rfl⟩
  · exact ⟨_, _, rfl⟩
theorem TxtsIn.cellAt {w : World} {a : Option Addr} {n c : Nat} {l : List ByteArray} (h : TxtsIn w (.slice a n c) l) (hl : 0 < l.length) : ∃ g off, a = some ⟨g, off, none⟩ ∧ g < w.heap.size ∧ n ≤ c ∧ ∀ j (hj : j < l.length), w.cell? ⟨g, off + j, none⟩ = some (.string l[j]) := by
  rcases h with ⟨rfl, _⟩ | ⟨g, off, cap, e, h2, h3, h4⟩
  · simp at hl
  · cases e
    exact ⟨g, off, rfl, h3, h2, h4⟩
theorem StrsIn.txts {w : World} {v : Value} {l : List ByteArray} (h : StrsIn w v l) : TxtsIn w v l := by
  rcases h with ⟨rfl, h0, _⟩ | ⟨g, cap, rfl, h1, _, h3, h4⟩
  · exact .inl ⟨List.length_eq_zero_iff.1 h0, _, _, rfl⟩
  · exact .inr ⟨g, 0, cap, rfl, h1, h3.1, fun j hj => by rw [Nat.zero_add]; exact h4 j _ (by simp [hj])⟩
end Go.Proofs.YtgnfknjopafngaaGreatDoor
namespace Go.Proofs.YtgnfknjopafngaaGreatDoor
open Go.RowKit
set_option maxRecDepth 100000 in
set_option maxHeartbeats 2000000 in
theorem readTitle_walk (s A B : ByteArray) (ok nm vr : Bool) (w : World) (hw : Hid (MaxIs w))
    (c1 : ∀ wx, MaxIs wx → Calls Tryz.prog 169 #[.string s, .string ⟨#[32]⟩] wx fun e w' => e = .returned (.tuple #[.string A, .string B, .bool ok]) ∧ ∃ n, w' = wx.drewN n)
    (c2 : ∀ wx, Calls Tryz.prog 170 #[.string A] wx fun e w' => Gives nm (.string A) e ∧ w' = wx)
    (c3 : ∀ wx, Calls Tryz.prog 171 #[.string B] wx fun e w' => Gives vr (.string B) e ∧ w' = wx) :
    Calls Tryz.prog 129 #[.string s] w fun e w' => Gives (ok && nm && vr) (.tuple #[.string A, .string B]) e ∧ ∃ n, w' = w.drewN n := by
  have cY := must_ok
  have cN := must_no
  cases ok
  · clear c2 c3 cY
    go_enter Tryz.func129, Tryz.ntmps129
    go_wp2_with (first | (go_at_call 169; refine (c1 _ hw.out).mono ?_; rintro e w' ⟨rfl, n, rfl⟩) | (go_at_call 83; refine (cN _).mono ?_; rintro e w' ⟨rfl, rfl⟩))
    exact ⟨rfl, gives_f rfl rfl, n, rfl⟩
  clear cN
  cases nm
  · clear c3
    replace c2 : ∀ wx, Calls Tryz.prog 170 #[.string A] wx fun e w' => Thrown e ∧ w' = wx := fun wx => (c2 wx).mono fun e w' h => ⟨gives_thr rfl h.1, h.2⟩
    go_enter Tryz.func129, Tryz.ntmps129
    go_wp2_with (first | (go_at_call 169; refine (c1 _ hw.out).mono ?_; rintro e w' ⟨rfl, n, rfl⟩) | (go_at_call 83; refine (cY _).mono ?_; rintro e w' ⟨rfl, rfl⟩) | (go_at_call 170; refine (c2 _).mono ?_; rintro e w' ⟨rfl, rfl⟩))
    exact ⟨rfl, gives_f rfl rfl, n, rfl⟩
  replace c2 : ∀ wx, Calls Tryz.prog 170 #[.string A] wx fun e w' => e = .returned (.string A) ∧ w' = wx := fun wx => (c2 wx).mono fun e w' h => ⟨gives_val rfl h.1, h.2⟩
  cases vr
  · replace c3 : ∀ wx, Calls Tryz.prog 171 #[.string B] wx fun e w' => Thrown e ∧ w' = wx := fun wx => (c3 wx).mono fun e w' h => ⟨gives_thr rfl h.1, h.2⟩
    go_enter Tryz.func129, Tryz.ntmps129
    go_wp2_with (first | (go_at_call 169; refine (c1 _ hw.out).mono ?_; rintro e w' ⟨rfl, n, rfl⟩) | (go_at_call 83; refine (cY _).mono ?_; rintro e w' ⟨rfl, rfl⟩) | (go_at_call 170; refine (c2 _).mono ?_; rintro e w' ⟨rfl, rfl⟩) | (go_at_call 171; refine (c3 _).mono ?_; rintro e w' ⟨rfl, rfl⟩))
    exact ⟨rfl, gives_f rfl rfl, n, rfl⟩
  · replace c3 : ∀ wx, Calls Tryz.prog 171 #[.string B] wx fun e w' => e = .returned (.string B) ∧ w' = wx := fun wx => (c3 wx).mono fun e w' h => ⟨gives_val rfl h.1, h.2⟩
    go_enter Tryz.func129, Tryz.ntmps129
    go_wp2_with (first | (go_at_call 169; refine (c1 _ hw.out).mono ?_; rintro e w' ⟨rfl, n, rfl⟩) | (go_at_call 83; refine (cY _).mono ?_; rintro e w' ⟨rfl, rfl⟩) | (go_at_call 170; refine (c2 _).mono ?_; rintro e w' ⟨rfl, rfl⟩) | (go_at_call 171; refine (c3 _).mono ?_; rintro e w' ⟨rfl, rfl⟩))
    go_ret2
    exact ⟨gives_t rfl rfl, n, rfl⟩
theorem readTitle_any (s : ByteArray) (w : World) (hw : MaxIs w) (hs : s.size ≤ 1000000) :
    Calls Tryz.prog 129 #[.string s] w fun e w' => GivesO (titleC s.data.toList) (fun x => .tuple #[.string ⟨x.1.toArray⟩, .string ⟨x.2.toArray⟩]) e ∧ ∃ n, w' = w.drewN n := by
  obtain ⟨A, hA⟩ := bytes_ex (Lib.cut s.data.toList [32]).1
  obtain ⟨B, hB⟩ := bytes_ex (Lib.cut s.data.toList [32]).2.1
  have h := len_data s
  have sA : A.size ≤ s.size := by have := (cut_len s.data.toList 32).1; rw [size_of hA]; omega
  have sB : B.size ≤ s.size := by have := (cut_len s.data.toList 32).2; rw [size_of hB]; omega
  refine (readTitle_walk s A B (Lib.cut s.data.toList [32]).2.2 (isNameK A) (isVerK B) w hw
    (fun wx hx => cut_lib s A B 32 _ wx hx (by omega) (by rw [hA, hB])) (fun wx => readName_any A wx (by omega)) (fun wx => readVersion_any B wx (by omega))).mono ?_
  rintro e w' ⟨h, hn⟩
  refine ⟨?_, hn⟩
  have HL : titleC s.data.toList = if (Lib.cut s.data.toList [32]).2.2 = true ∧ isNameK A = true ∧ isVerK B = true then some (A.data.toList, B.data.toList) else none := by
    unfold titleC
    rw [← hA, ← hB]
    rfl
  rw [HL]
  unfold Gives at h
  simp only [Bool.and_eq_true, and_assoc] at h
  split at h
  · rename_i hc
    rw [if_pos hc]
    exact h
  · rename_i hc
    rw [if_neg hc]
    exact h
end Go.Proofs.YtgnfknjopafngaaGreatDoor
